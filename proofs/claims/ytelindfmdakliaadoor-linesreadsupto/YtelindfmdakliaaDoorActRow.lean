/-
  Rows of acts; what Show answers: pure.
-/
import Derived.Test.YtelindfmdakliaaDoorLinkMem
import Derived.Test.YtelindfmdakliaaDoorLineW
import Derived.Test.YtelindfmdakliaaDoorActChk
namespace Go.Proofs.YtelindfmdakliaaDoor
open Go.RowKit Go.Lib

/-- an act -/
structure ActI where
  kd : Int
  nd : Int
  tw : Int
  pk : Int
  kp : Int
  op : List Part
  an : Int
  hd : Int
def ActI.v (x : ActI) : ActV := ⟨x.kd, x.nd, x.tw, x.pk, x.kp, x.op, none, 0, x.an, x.hd⟩
def act0 : ActI := ⟨0, 0, 0, 0, 0, [], 0, 0⟩
abbrev ActK := ActI × Value
def actVals (x : ActI) (v : Value) : List Value := [.int .i64 x.kd, .int .i64 x.nd, .int .i64 x.tw, .int .i64 x.pk, .int .i64 x.kp, v, .int .i64 x.an, .int .i64 x.hd]
def actS : Shape ActK := ⟨29, 8, fun x => actVals x.1 x.2, (·.2), (·.1.op), fun _ => rfl, by decide⟩
theorem info_act : (Tryd.prog.info? 29).map (fun i => (i.zero, i.size, i.bytes)) = some (some (.agg #[.int .i64 0, .int .i64 0, .int .i64 0, .int .i64 0, .int .i64 0, .slice none 0 0, .int .i64 0, .int .i64 0]), 8, 80) := by kernel_rfl
theorem act_get {w : World} {B : Nat} {v : Value} {K : List ActK} (h : InK actS w B v K) {i : Nat} (hi : i < K.length) : ∃ b off c, v = .slice (some ⟨b, off, none⟩) K.length c ∧ b < w.heap.size ∧ B ≤ b ∧ ∀ j u, j < 8 → (actVals K[i].1 K[i].2)[j]? = some u → w.cell? ⟨b, off + i * 8 + j, none⟩ = some u := by
  obtain ⟨a, c, e, hn, hz, hc⟩ := h.row
  rcases hc with h0 | ⟨b, off, rfl, hB, hl, hc⟩
  · have := congrArg List.length h0
    rw [actS.all_length] at this
    have h5 : actS.size = 8 := rfl
    rw [h5] at this
    have hz : (0 : Nat) = ([] : List Value).length := rfl
    rw [← hz] at this
    omega
  · exact ⟨b, off, c, e, hl, hB, fun j u hj hu => by
      rw [Nat.add_assoc]
      exact hc _ _ ((actS.all_get K hi hj).trans hu)⟩
/-- the numbers of an act fit, and its operation is small -/
structure ActSmall (x : ActI) : Prop where
  op : OpSmall x.op
  num : ∀ n ∈ [x.kd, x.nd, x.tw, x.pk, x.kp, x.an, x.hd], -9223372036854775808 ≤ n ∧ n ≤ 9223372036854775807

/-- the number at a place -/
def ActI.at (x : ActI) : Nat → Int := numAt x.nd x.tw x.pk x.kp x.an x.hd
theorem ActSmall.at {x : ActI} (h : ActSmall x) (q : Nat) : -9223372036854775808 ≤ x.at q ∧ x.at q ≤ 9223372036854775807 := by
  unfold ActI.at numAt
  have := h.num
  split
  · exact this _ (by simp)
  · split
    · exact this _ (by simp)
    · split
      · exact this _ (by simp)
      · split
        · exact this _ (by simp)
        · split
          · exact this _ (by simp)
          · exact this _ (by simp)
/-- P7.2: a line -/
def ActI.line (x : ActI) : List Nat := lineL x.kd.toNat x.at x.op
def showA (n : Int) : Nat → List Nat → List ActI → List Nat × Nat × Int
  | _, acc, [] => (acc, 0, 0)
  | i, acc, x :: K => if actErr n x.v ≠ 0 then ([], i, actErr n x.v) else showA n (i + 1) (acc ++ x.line) K
def showR (T : List Int) (K : List ActI) : List Nat × Nat × Int := if treeErr T ≠ 0 then ([], 0, treeErr T) else if 3000 < K.length then ([], 0, 1) else showA T.length 0 [] K
theorem showA_bad {n : Int} {i : Nat} {acc : List Nat} {K : List ActI} {k : Nat} (h : k < K.length) (he : actErr n K[k].v ≠ 0) : showA n i acc (K.drop k) = ([], i, actErr n K[k].v) := by
  rw [List.drop_eq_getElem_cons h]
  show (if actErr n K[k].v ≠ 0 then _ else _) = _
  rw [if_pos he]
theorem showA_ok {n : Int} {i : Nat} {acc : List Nat} {K : List ActI} {k : Nat} (h : k < K.length) (he : actErr n K[k].v = 0) : showA n i acc (K.drop k) = showA n (i + 1) (acc ++ K[k].line) (K.drop (k + 1)) := by
  rw [List.drop_eq_getElem_cons h]
  show (if actErr n K[k].v ≠ 0 then _ else _) = _
  rw [if_neg (fun h => h he)]
/-- what an act that may be is like -/
theorem act_ok {n : Int} {x : ActI} (h : actErr n x.v = 0) : (1 ≤ x.kd ∧ x.kd ≤ 9) ∧ actNums n x.v = true ∧ opErr x.op = 0 ∧ actMore x.v = false := by
  by_cases h1 : 1 ≤ x.kd ∧ x.kd ≤ 9
  · refine ⟨h1, ?_⟩
    by_cases h2 : actNums n x.v = true
    · refine ⟨h2, ?_⟩
      by_cases h3 : opErr x.op = 0
      · refine ⟨h3, ?_⟩
        by_cases h4 : actMore x.v = true
        · rw [actErr_more (a := x.v) h1 h2 h3 h4] at h; cases h
        · simpa using h4
      · rw [actErr_op (a := x.v) h1 h2 h3] at h
        exact absurd h h3
    · rw [actErr_nums (a := x.v) h1 (by simpa using h2)] at h; cases h
  · rw [actErr_kind (a := x.v) h1] at h; cases h
theorem parts_kind : ∀ (ps : List Part) (ah : Int), partsErr ah ps = 0 → ∀ p ∈ ps, p.kind = 1 ∨ p.kind = 2 ∨ p.kind = 3
  | [], _, _ => fun p hp => by simp at hp
  | q :: r, ah, h => by
    by_cases h1 : partErr ah q = 0
    · have h2 : partsErr q.kind r = 0 := by
        have := h
        unfold partsErr at this
        rwa [if_neg (fun k => k h1)] at this
      intro p hp
      rcases List.mem_cons.1 hp with rfl | hp
      · refine bodyErr_kind ?_
        by_cases hb : bodyErr p = 0
        · exact hb
        · unfold partErr at h1
          rw [if_pos hb] at h1
          exact h1
      · exact parts_kind r _ h2 p hp
    · unfold partsErr at h
      rw [if_pos h1] at h
      exact absurd h h1
theorem op_kinds {ps : List Part} (h : opErr ps = 0) : ps.length ≤ 8001 ∧ ∀ p ∈ ps, p.kind = 1 ∨ p.kind = 2 ∨ p.kind = 3 := by
  unfold opErr at h
  by_cases h1 : 8001 < ps.length
  · rw [if_pos h1] at h; cases h
  · rw [if_neg h1] at h
    refine ⟨by omega, ?_⟩
    by_cases h2 : partsErr 0 ps = 0
    · exact parts_kind ps 0 h2
    · rw [if_pos h2] at h
      exact absurd h h2
theorem opTb_small {ps : List Part} (h : ∀ p ∈ ps, p.text.size ≤ 1048576) : opTb ps ≤ ps.length * 2097175 := by
  induction ps with
  | nil => exact Nat.le_refl _
  | cons p ps ih =>
    have h1 := ih fun q hq => h q (List.mem_cons_of_mem _ hq)
    have h2 := h p List.mem_cons_self
    unfold opTb at *
    rw [List.map_cons, List.sum_cons, List.length_cons]
    omega
theorem line_len {x : ActI} (hs : ActSmall x) (ho : opErr x.op = 0) : x.line.length ≤ 16780000000 ∧ 200 + opTb x.op ≤ 16780000000 := by
  have h1 := op_kinds ho
  have h2 := opTb_small (ps := x.op) (fun p hp => (hs.op.2 p hp).2.2)
  have h3 := opTx_le x.op (fun p hp => (hs.op.2 p hp).2.1)
  have h4 := numL_len x.at hs.at (numsOf ((x.kd.toNat : Nat) : Int))
  have h5 := nums_three ((x.kd.toNat : Nat) : Int)
  have h6 := wordS_size x.kd.toNat
  unfold ActI.line lineL
  simp only [List.length_append, sbytes_length, List.length_cons, List.length_nil]
  omega

end Go.Proofs.YtelindfmdakliaaDoor
