/-
  PLAIN LEAN: what an operation makes of a text.
-/
import Derived.Test.YtepehgjdepioeaaDoorPureSteps
namespace Go.Proofs.YtepehgjdepioeaaDoor
open Go.RowKit

/-- the runes behind steps -/
def applyS : List Nat → List Step → List Nat
  | _, [] => []
  | rs, s :: l => if s.1 = 2 then s.2.toNat :: applyS rs l else if s.1 = 1 then rs.take 1 ++ applyS rs.tail l else applyS rs.tail l

theorem applyS_ins (l : List Step) (xs : List Nat) (rs : List Nat) : applyS rs (xs.map (fun r : Nat => ((2 : Int), (r : Int))) ++ l) = xs ++ applyS rs l := by
  induction xs with
  | nil => rfl
  | cons x xs ih => simp [applyS, ih]
theorem applyS_keep (l : List Step) : ∀ (n : Nat) (rs : List Nat), applyS rs (List.replicate n ((1 : Int), (0 : Int)) ++ l) = rs.take n ++ applyS (rs.drop n) l
  | 0, rs => by simp
  | n + 1, rs => by
    rw [List.replicate_succ, List.cons_append]
    simp only [applyS]
    rw [if_neg (by decide), if_pos trivial, applyS_keep l n]
    cases rs with
    | nil => simp
    | cons x xs => simp
theorem applyS_del (l : List Step) : ∀ (n : Nat) (rs : List Nat), applyS rs (List.replicate n ((3 : Int), (0 : Int)) ++ l) = applyS (rs.drop n) l
  | 0, rs => by simp
  | n + 1, rs => by
    rw [List.replicate_succ, List.cons_append]
    simp only [applyS]
    rw [if_neg (by decide), if_neg (by decide), applyS_del l n]
    cases rs with
    | nil => simp
    | cons x xs => simp

/-- a good part's steps, by its kind -/
theorem stepsOf_keep {p : Part} (h : p.kind = 1) : stepsOf p = List.replicate p.n.toNat ((1 : Int), (0 : Int)) := by simp [stepsOf, h]
theorem stepsOf_ins {p : Part} (h : p.kind = 2) : stepsOf p = (runes p.text).map (fun r : Nat => ((2 : Int), (r : Int))) := by simp [stepsOf, h]
theorem stepsOf_del {p : Part} (h : p.kind = 3) : stepsOf p = List.replicate p.n.toNat ((3 : Int), (0 : Int)) := by simp [stepsOf, h]

theorem steps_drop (ps : List Part) (k : Nat) (h : k < ps.length) : steps (ps.drop k) = stepsOf ps[k] ++ steps (ps.drop (k + 1)) := by
  rw [List.drop_eq_getElem_cons h, steps_cons]

/-- P1.5: what is refused -/
def applyErr (s : ByteArray) (ps : List Part) : Int := if textErr s ≠ 0 then textErr s else if opErr ps ≠ 0 then opErr ps else if (lens ps).1 ≠ ((runes s).length : Int) then 10 else 0
/-- P1.5 -/
def applyRes (s : ByteArray) (ps : List Part) : ByteArray := if applyErr s ps ≠ 0 then ByteArray.empty else str (applyS (runes s) (steps ps))

/-- An operation of a text. -/
structure Applies (s : ByteArray) (ps : List Part) : Prop where
  ok : OpOk ps
  valid : Valid s
  short : (runes s).length ≤ 4000
  fits : fromN ps = (runes s).length
theorem applyErr_zero {s : ByteArray} {ps : List Part} (h : applyErr s ps = 0) : Applies s ps := by
  unfold applyErr at h
  by_cases h1 : textErr s = 0
  · rw [if_neg (by omega : ¬ textErr s ≠ 0)] at h
    by_cases h2 : opErr ps = 0
    · rw [if_neg (by omega : ¬ opErr ps ≠ 0)] at h
      have ok := opErr_zero h2
      rw [ok.lens] at h
      obtain ⟨v, l⟩ := textErr_zero h1
      refine ⟨ok, v, l, ?_⟩
      by_cases h3 : ((fromN ps : Int), (toN ps : Int)).1 ≠ ((runes s).length : Int)
      · rw [if_pos h3] at h; omega
      · simp only at h3; omega
    · rw [if_pos h2] at h; exact absurd h h2
  · rw [if_pos h1] at h; exact absurd h h1
theorem Applies.err {s : ByteArray} {ps : List Part} (h : Applies s ps) : applyErr s ps = 0 := by
  unfold applyErr
  rw [textErr_ok h.valid h.short, h.ok.err, h.ok.lens, h.fits]
  simp

/-- all runes of what is made are code points -/
theorem applyS_cp (l : List Step) (hl : ∀ s ∈ l, s.1 = 2 → CP s.2.toNat) : ∀ rs : List Nat, (∀ r ∈ rs, CP r) → ∀ r ∈ applyS rs l, CP r := by
  induction l with
  | nil => intro rs _ r hr; simp [applyS] at hr
  | cons s l ih =>
    intro rs hrs r hr
    have ih' := ih (fun x hx => hl x (List.mem_cons_of_mem _ hx))
    unfold applyS at hr
    split at hr
    · rename_i h2
      rcases List.mem_cons.1 hr with rfl | hr
      · exact hl s List.mem_cons_self h2
      · exact ih' rs hrs r hr
    · have ht : ∀ r ∈ rs.tail, CP r := fun r h => hrs r (List.mem_of_mem_tail h)
      split at hr
      · rcases List.mem_append.1 hr with hr | hr
        · exact hrs r (List.mem_of_mem_take hr)
        · exact ih' _ ht r hr
      · exact ih' _ ht r hr
theorem steps_cp {ps : List Part} (h : ∀ p ∈ ps, Good p) : ∀ s ∈ steps ps, s.1 = 2 → CP s.2.toNat := by
  intro s hs h2
  obtain ⟨p, hp, hs⟩ := List.mem_flatMap.1 hs
  unfold stepsOf at hs
  split at hs
  · rename_i hk
    obtain ⟨r, hr, rfl⟩ := List.mem_map.1 hs
    have := ((h p hp).text hk).2.1.cp r hr
    simpa using this
  · rename_i hk
    have := List.eq_of_mem_replicate hs
    subst this
    exact absurd h2 hk

theorem applyS_length (l : List Step) : ∀ rs, (applyS rs l).length ≤ l.length := by
  induction l with
  | nil => intro rs; simp [applyS]
  | cons s l ih =>
    intro rs
    unfold applyS
    split
    · have := ih rs; simp; omega
    · split
      · have := ih rs.tail; simp only [List.length_append, List.length_take, List.length_cons]; omega
      · have := ih rs.tail; simp only [List.length_cons]; omega
theorem encs_le {rs : List Nat} (h : ∀ r ∈ rs, CP r) : (encs rs).length ≤ 4 * rs.length := by
  induction rs with
  | nil => simp [encs]
  | cons r rs ih =>
    have h1 := enc_le4 (h r List.mem_cons_self)
    have h2 := ih fun x hx => h x (List.mem_cons_of_mem _ hx)
    rw [encs_cons, List.length_append, List.length_cons]
    omega

end Go.Proofs.YtepehgjdepioeaaDoor
