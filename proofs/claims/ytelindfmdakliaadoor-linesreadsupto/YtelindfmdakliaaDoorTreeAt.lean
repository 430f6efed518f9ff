/-
  Numbers in memory; trees. Walks: node.CheckTree, wherryref.TreeFault.
-/
import Derived.Test.YtelindfmdakliaaDoorBlk
import Derived.Deep.LoopGhost
import Derived.Laws.OwnMore
import Derived.Deep.AppendLies
import Derived.Laws.AppendOwnNone
import Derived.Maps.AppendAt
namespace Go.Proofs.YtelindfmdakliaaDoor
open Go.RowKit Go.Lib

/-- numbers as cells -/
def intVals (l : List Int) : List Value := l.map fun n => .int .i64 n
theorem intVals_length (l : List Int) : (intVals l).length = l.length := List.length_map _
theorem intVals_append (a b : List Int) : intVals (a ++ b) = intVals a ++ intVals b := List.map_append
theorem intVals_get {l : List Int} {i : Nat} (h : i < l.length) : (intVals l)[i]? = some (.int .i64 l[i]) := by
  unfold intVals; rw [List.getElem?_map, List.getElem?_eq_getElem h]; rfl
theorem intVals_one (l : List Int) : ∀ u ∈ intVals l, u.oneCell' = true := by
  intro u hu
  obtain ⟨x, _, rfl⟩ := List.mem_map.1 hu
  rfl
theorem info_int : (Tryd.prog.info? 3).map (fun i => (i.zero, i.size, i.bytes)) = some (some (.int .i64 0), 1, 8) := by kernel_rfl
/-- numbers in memory -/
def Ints (w : World) (a : Option Addr) (l : List Int) : Prop := l = [] ∨ ∃ g off, a = some ⟨g, off, none⟩ ∧ g < w.heap.size ∧ ∀ i (h : i < l.length), w.cell? ⟨g, off + i, none⟩ = some (.int .i64 l[i])
theorem Ints.below {w w' : World} {a : Option Addr} {l : List Int} (h : Ints w a l) (hb : Below w.heap.size w w') : Ints w' a l := by
  rcases h with rfl | ⟨g, off, rfl, hg, hx⟩
  · exact .inl rfl
  · exact .inr ⟨g, off, rfl, Nat.lt_of_lt_of_le hg hb.size, fun i hi => (hb.cell (p := ⟨g, off + i, none⟩) hg).trans (hx i hi)⟩
theorem ints_own {w : World} {B : Nat} {a : Option Addr} {l : List Int} {c : Nat} (h : w.ownsRow B 3 1 (.slice a l.length c) l.length (intVals l)) : Ints w a l := by
  rcases h.2 with ⟨e, h0⟩ | ⟨g, cap, cur, e, _, hg, hnc, _⟩
  · exact .inl (List.length_eq_zero_iff.1 h0)
  · simp only [Value.slice.injEq] at e
    obtain ⟨rfl, _, rfl⟩ := e
    refine .inr ⟨g, 0, rfl, (h.lt g rfl).2, fun i hi => ?_⟩
    have := h.cells (g := g) rfl i _ (intVals_get hi)
    rw [WideShapes.add_plain] at this
    exact this
/-- numbers that are appended -/
def SrcI (w : World) (a : Option Addr) (c : Nat) (l : List Int) : Prop := (a = none ∧ c = 0 ∧ l = []) ∨ ∃ ad, a = some ad ∧ ∀ j u, (intVals l)[j]? = some u → w.cell? (ad.add j) = some u
theorem srcI_own {w : World} {B : Nat} {a : Option Addr} {l : List Int} {c : Nat} (h : w.ownsRow B 3 1 (.slice a l.length c) l.length (intVals l)) : SrcI w a c l := by
  rcases h.2 with ⟨e, h0⟩ | ⟨g, cap, cur, e, _, hg, hnc, _⟩
  · simp only [Value.slice.injEq] at e
    obtain ⟨rfl, _, rfl⟩ := e
    exact .inl ⟨rfl, rfl, List.length_eq_zero_iff.1 h0⟩
  · simp only [Value.slice.injEq] at e
    obtain ⟨rfl, _, rfl⟩ := e
    exact .inr ⟨_, rfl, h.cells (g := g) rfl⟩
theorem SrcI.below {w w' : World} {a : Option Addr} {c : Nat} {l : List Int} (h : SrcI w a c l) (hb : Below w.heap.size w w') : SrcI w' a c l := by
  rcases h with h | ⟨ad, rfl, hc⟩
  · exact .inl h
  · refine .inr ⟨ad, rfl, fun j u hj => ?_⟩
    have h1 := hc j u hj
    rw [hb.cell (p := ad.add j) (World.block_lt_of_cell? w _ h1)]
    exact h1

/-- P6.1: the parent of a place -/
def treeAt (i : Nat) (p : Int) : Bool := if i = 0 then decide (p = -1) else decide (0 ≤ p ∧ p < (i : Int))
def treeB (l : List Int) : Bool := (List.range l.length).all fun i => treeAt i (l.getD i 0)
def treeErr (l : List Int) : Int := if l.length < 1 ∨ 7 < l.length then 1 else if treeB l = true then 0 else 4
theorem treeErr_size {l : List Int} (h : l.length < 1 ∨ 7 < l.length) : treeErr l = 1 := by unfold treeErr; rw [if_pos h]
theorem treeErr_bad {l : List Int} (h : ¬ (l.length < 1 ∨ 7 < l.length)) {i : Nat} (hi : i < l.length) (hb : treeAt i (l.getD i 0) = false) : treeErr l = 4 := by
  unfold treeErr
  rw [if_neg h, if_neg]
  intro ht
  unfold treeB at ht
  rw [List.all_eq_true] at ht
  have := ht i (List.mem_range.2 hi)
  rw [hb] at this
  cases this
theorem treeErr_ok {l : List Int} (h : ¬ (l.length < 1 ∨ 7 < l.length)) (ha : ∀ j, j < l.length → treeAt j (l.getD j 0) = true) : treeErr l = 0 := by
  unfold treeErr
  rw [if_neg h, if_pos]
  unfold treeB
  rw [List.all_eq_true]
  exact fun j hj => ha j (List.mem_range.1 hj)
theorem treeErr_zero {l : List Int} (h : treeErr l = 0) : (1 ≤ l.length ∧ l.length ≤ 7) ∧ ∀ j, j < l.length → treeAt j (l.getD j 0) = true := by
  unfold treeErr at h
  by_cases h1 : l.length < 1 ∨ 7 < l.length
  · rw [if_pos h1] at h; cases h
  · rw [if_neg h1] at h
    by_cases h2 : treeB l = true
    · refine ⟨by omega, fun j hj => ?_⟩
      unfold treeB at h2
      rw [List.all_eq_true] at h2
      exact h2 j (List.mem_range.2 hj)
    · rw [if_neg h2] at h; cases h
theorem getD_get {l : List Int} {i : Nat} (h : i < l.length) : l.getD i 0 = l[i] := by simp [List.getD, h]

set_option maxRecDepth 100000 in
set_option maxHeartbeats 1000000 in
theorem checkTree_any (l : List Int) (a : Option Addr) (c : Nat) (w : World) (h : Ints w a l) :
    Calls Tryd.prog 17 #[.slice a l.length c] w fun r w' => r = .returned (.int .i64 (treeErr l)) ∧ w' = w := by
  obtain ⟨R, hR⟩ : ∃ R, treeErr l = R := ⟨_, rfl⟩
  have HR : Hid (treeErr l = R) := hR
  rw [hR]
  clear hR
  by_cases h1 : l.length < 1
  · have h1z : (l.length : Int) < 1 := by omega
    obtain rfl : 1 = R := (treeErr_size (.inl h1)).symm.trans HR.out
    clear h HR
    go_enter Tryd.func17, Tryd.ntmps17
    go_wp2_with fail
    go_ret
    exact ⟨rfl, rfl⟩
  have h1z : ¬ (l.length : Int) < 1 := by omega
  by_cases h2 : 7 < l.length
  · have h2z : (7 : Int) < (l.length : Int) := by omega
    obtain rfl : 1 = R := (treeErr_size (.inr h2)).symm.trans HR.out
    clear h HR
    go_enter Tryd.func17, Tryd.ntmps17
    go_wp2_with fail
    go_ret
    exact ⟨rfl, rfl⟩
  have h2z : ¬ (7 : Int) < (l.length : Int) := by omega
  have hno : ¬ (l.length < 1 ∨ 7 < l.length) := by omega
  obtain ⟨b, off, rfl, hb, hc⟩ : ∃ b off, a = some ⟨b, off, none⟩ ∧ b < w.heap.size ∧ ∀ i (h : i < l.length), w.cell? ⟨b, off + i, none⟩ = some (.int .i64 l[i]) := h.resolve_left (by rintro rfl; simp at h1)
  clear h
  go_enter Tryd.func17, Tryd.ntmps17
  go_wp2_with fail
  go_loopg [15] l.length (fun g iv wr => ∃ i : Nat, i + g = l.length ∧ iv = .int .i64 (i : Int) ∧ w = wr ∧ Hid (∀ j, j < i → treeAt j (l.getD j 0) = true))
  case atStart => exact ⟨0, by omega, rfl, rfl, fun j hj => absurd hj (Nat.not_lt_zero j)⟩
  case round =>
    obtain ⟨i, hi, rfl, rfl, HA⟩ := hrel
    by_cases hlt : i < l.length
    · have hiz : (i : Int) < (l.length : Int) := by omega
      have hi0 : (0 : Int) ≤ (i : Int) := by omega
      have hci := hc i hlt
      have hbad : Hid (treeAt i l[i] = false → R = 4) := fun hb => HR.out.symm.trans (treeErr_bad hno hlt (by rw [getD_get hlt]; exact hb))
      have hgo : Hid (treeAt i l[i] = true → ∀ j, j < i + 1 → treeAt j (l.getD j 0) = true) := fun ht j hj => by
        by_cases e : j = i
        · subst e; rw [getD_get hlt]; exact ht
        · exact HA.out j (by omega)
      generalize l[i] = p at *
      clear hc HA
      by_cases hz : i = 0
      · subst hz
        have hcz : w.cell? ⟨b, off, none⟩ = some (.int .i64 p) := hci
        clear hci
        by_cases hq : p = -1
        · subst hq
          go_wp2_with fail
          go_roundg (l.length - 1)
          case measure => omega
          case rel => exact ⟨1, by omega, by go_num, rfl, hgo.out rfl⟩
        · have g1 : (p != -1) = true := by simpa using hq
          obtain rfl : R = 4 := hbad.out (by unfold treeAt; rw [if_pos rfl]; exact decide_eq_false hq)
          clear hgo hbad HR
          go_wp2_with fail
          go_ret
          exact ⟨rfl, rfl⟩
      · have g0 : ((i : Int) == 0) = false := by simpa using hz
        have g1 : ((i : Int) != 0) = true := by simpa using hz
        by_cases hq : p < 0
        · obtain rfl : R = 4 := hbad.out (by unfold treeAt; rw [if_neg hz]; exact decide_eq_false (by omega))
          clear hgo hbad HR
          go_wp2_with fail
          go_ret
          exact ⟨rfl, rfl⟩
        · by_cases hq2 : (i : Int) ≤ p
          · obtain rfl : R = 4 := hbad.out (by unfold treeAt; rw [if_neg hz]; exact decide_eq_false (by omega))
            clear hgo hbad HR
            go_wp2_with fail
            go_ret
            exact ⟨rfl, rfl⟩
          · have HG := hgo.out (by unfold treeAt; rw [if_neg hz]; exact decide_eq_true (by omega))
            replace hgo : Hid (∀ j, j < i + 1 → treeAt j (l.getD j 0) = true) := HG
            clear HG hbad
            go_wp2_with fail
            go_roundg (l.length - i - 1)
            case measure => omega
            case rel => exact ⟨i + 1, by omega, by go_num, rfl, hgo⟩
    · obtain rfl : i = l.length := by omega
      have hiz : ¬ (l.length : Int) < (l.length : Int) := by omega
      obtain rfl : R = 0 := HR.out.symm.trans (treeErr_ok hno HA.out)
      clear HR HA
      go_wp2_with fail
      go_ret
      exact ⟨rfl, rfl⟩

set_option maxHeartbeats 400000 in
theorem in_all (n a b : Int) (w : World) :
    Calls Tryd.prog 20 #[.int .i64 n, .int .i64 a, .int .i64 b] w fun e w' => e = .returned (.bool (decide (a ≤ n ∧ n ≤ b))) ∧ w' = w := by
  by_cases h1 : a ≤ n
  · by_cases h2 : n ≤ b
    · rw [decide_eq_true ⟨h1, h2⟩]
      go_enter Tryd.func20, Tryd.ntmps20
      go_wp2
      go_ret
      exact ⟨rfl, rfl⟩
    · rw [decide_eq_false (fun h : a ≤ n ∧ n ≤ b => h2 h.2)]
      go_enter Tryd.func20, Tryd.ntmps20
      go_wp2
      go_ret
      exact ⟨rfl, rfl⟩
  · rw [decide_eq_false (fun h : a ≤ n ∧ n ≤ b => h1 h.1)]
    go_enter Tryd.func20, Tryd.ntmps20
    go_wp2
    go_ret
    exact ⟨rfl, rfl⟩

set_option maxRecDepth 100000 in
set_option maxHeartbeats 1000000 in
theorem treeFault_any (l : List Int) (a : Option Addr) (c : Nat) (w : World) (h : Ints w a l) (hl : l.length ≤ 9223372036854775807) :
    Calls Tryd.prog 19 #[.slice a l.length c] w fun r w' => r = .returned (.int .i64 (treeErr l)) ∧ w' = w := by
  obtain ⟨R, hR⟩ : ∃ R, treeErr l = R := ⟨_, rfl⟩
  have HR : Hid (treeErr l = R) := hR
  rw [hR]
  clear hR
  have cI := in_all (l.length : Int) 1 7 w
  by_cases h1 : l.length < 1 ∨ 7 < l.length
  · rw [decide_eq_false (by omega)] at cI
    obtain rfl : 1 = R := (treeErr_size h1).symm.trans HR.out
    clear h HR h1
    go_enter Tryd.func19, Tryd.ntmps19
    go_wp2_with fail
    refine cI.mono ?_
    rintro r w1 ⟨rfl, hw1⟩
    rw [hw1]
    clear hw1 w1
    go_wp2_with fail
    go_ret
    exact ⟨rfl, rfl⟩
  rw [decide_eq_true (by omega)] at cI
  obtain ⟨b, off, rfl, hb, hc⟩ : ∃ b off, a = some ⟨b, off, none⟩ ∧ b < w.heap.size ∧ ∀ i (h : i < l.length), w.cell? ⟨b, off + i, none⟩ = some (.int .i64 l[i]) := h.resolve_left (by rintro rfl; simp at h1)
  have hno := h1
  clear h h1
  go_enter Tryd.func19, Tryd.ntmps19
  go_wp2_with fail
  refine cI.mono ?_
  rintro r w1 ⟨rfl, hw1⟩
  rw [hw1]
  clear hw1 w1
  clear cI
  go_wp2_with fail
  go_loopg [3] l.length (fun g iv wr => ∃ i : Nat, i + g = l.length ∧ iv = .int .i64 (i : Int) ∧ w = wr ∧ Hid (∀ j, j < i → treeAt j (l.getD j 0) = true))
  case atStart => exact ⟨0, by omega, rfl, rfl, fun j hj => absurd hj (Nat.not_lt_zero j)⟩
  case round =>
    obtain ⟨i, hi, rfl, rfl, HA⟩ := hrel
    by_cases hlt : i < l.length
    · have hiz : (i : Int) < (l.length : Int) := by omega
      have hi0 : (0 : Int) ≤ (i : Int) := by omega
      have hci := hc i hlt
      have hbad : Hid (treeAt i l[i] = false → R = 4) := fun hb => HR.out.symm.trans (treeErr_bad hno hlt (by rw [getD_get hlt]; exact hb))
      have hgo : Hid (treeAt i l[i] = true → ∀ j, j < i + 1 → treeAt j (l.getD j 0) = true) := fun ht j hj => by
        by_cases e : j = i
        · subst e; rw [getD_get hlt]; exact ht
        · exact HA.out j (by omega)
      generalize l[i] = p at *
      clear hc HA
      by_cases hz : i = 0
      · subst hz
        have hcz : w.cell? ⟨b, off, none⟩ = some (.int .i64 p) := hci
        clear hci
        by_cases hq : p = -1
        · subst hq
          go_wp2_with fail
          go_roundg (l.length - 1)
          case measure => omega
          case rel => exact ⟨1, by omega, by go_num, rfl, hgo.out rfl⟩
        · have g1 : (p != -1) = true := by simpa using hq
          obtain rfl : R = 4 := hbad.out (by unfold treeAt; rw [if_pos rfl]; exact decide_eq_false hq)
          clear hgo hbad HR
          go_wp2_with fail
          go_ret
          exact ⟨rfl, rfl⟩
      · have g0 : ((i : Int) == 0) = false := by simpa using hz
        have g1 : (0 : Int) < (i : Int) := by omega
        have cI := in_all p 0 ((i : Int) - 1) w
        by_cases hq : 0 ≤ p ∧ p ≤ (i : Int) - 1
        · rw [decide_eq_true hq] at cI
          have HG := hgo.out (by unfold treeAt; rw [if_neg hz]; exact decide_eq_true (by omega))
          replace hgo : Hid (∀ j, j < i + 1 → treeAt j (l.getD j 0) = true) := HG
          clear HG hbad
          go_wp2_with fail
          refine cI.mono ?_
          rintro r w1 ⟨rfl, hw1⟩
          rw [hw1]
          clear hw1 w1
          go_wp2_with fail
          go_roundg (l.length - i - 1)
          case measure => omega
          case rel => exact ⟨i + 1, by omega, by go_num, rfl, hgo⟩
        · rw [decide_eq_false hq] at cI
          obtain rfl : R = 4 := hbad.out (by unfold treeAt; rw [if_neg hz]; exact decide_eq_false (by omega))
          clear hgo hbad HR
          go_wp2_with fail
          refine cI.mono ?_
          rintro r w1 ⟨rfl, hw1⟩
          rw [hw1]
          clear hw1 w1
          go_wp2_with fail
          go_ret
          exact ⟨rfl, rfl⟩
    · obtain rfl : i = l.length := by omega
      have hiz : ¬ (l.length : Int) < (l.length : Int) := by omega
      obtain rfl : R = 0 := HR.out.symm.trans (treeErr_ok hno HA.out)
      clear HR HA
      go_wp2_with fail
      go_ret
      exact ⟨rfl, rfl⟩

theorem treeErr_set {T : List Int} {k : Nat} {n : Int} (h : treeErr T = 0) (hk : k < T.length) : treeErr (T.set k n) = if treeAt k n = true then 0 else 4 := by
  obtain ⟨hs, ha⟩ := treeErr_zero h
  have hno : ¬ ((T.set k n).length < 1 ∨ 7 < (T.set k n).length) := by rw [List.length_set]; omega
  have hkk : (T.set k n).getD k 0 = n := by simp [List.getD, hk]
  by_cases ht : treeAt k n = true
  · rw [if_pos ht]
    refine treeErr_ok hno fun j hj => ?_
    rw [List.length_set] at hj
    by_cases e : j = k
    · subst e; rw [hkk]; exact ht
    · have : (T.set k n).getD j 0 = T.getD j 0 := by simp [List.getD, List.getElem?_set_ne (Ne.symm e)]
      rw [this]; exact ha j hj
  · rw [if_neg ht]
    exact treeErr_bad hno (i := k) (by rw [List.length_set]; exact hk) (by rw [hkk]; simpa using ht)
theorem intVals_set (T : List Int) (k : Nat) (n : Int) : intVals (T.set k n) = (intVals T).set k (.int .i64 n) := by unfold intVals; rw [List.map_set]

theorem run_append_ints (w : World) (base : Nat) (ty : TypeId) (hB : base ≤ w.heap.size) (v : Value) (n : Nat) (xs : List Value) (hown : w.ownsRow base 3 1 v n xs) (sa : Option Addr) (c : Nat) (l : List Int) (hsrc : SrcI w sa c l) (hsmall : n + l.length ≤ 1000000000) :
    ∃ v' w', (Builtin.append_ #[23, 23] ty #[v, .slice sa l.length c]).run Tryd.prog w = .ok v' w' ∧ w'.ownsRow base 3 1 v' (n + l.length) (xs ++ intVals l) ∧ w.grownBy w' v.ownBlock ∧ Moves w v v' := by
  obtain ⟨i0, hi, hz0, hz1, hz2⟩ := info_parts info_int
  rcases hsrc with ⟨rfl, rfl, rfl⟩ | ⟨ad, rfl, hc⟩
  · have hrun := run_append_owned_none (P := Tryd.prog) (w := w) base 23 ty 3 i0 1 Tryd.underlying23 hi v n xs hown
    refine ⟨v, w, hrun, by simpa [intVals] using hown, ⟨rfl, rfl, rfl, Nat.le_refl _, fun _ _ _ => rfl⟩, Moves.refl _ _⟩
  · obtain ⟨v', w', hr, h2, h3, _, h5⟩ := run_append_own_at (P := Tryd.prog) w base 23 ty 3 i0 _ 1 8 Tryd.underlying23 hi hz0 hz1 hz2 rfl (by decide) v n xs hown ad l.length c (intVals l) (by rw [intVals_length, Nat.mul_one]) hc (intVals_one l) (by unfold maxLen; omega) (by omega) hB
    refine ⟨v', w', hr, h2, h3, fun k hk => ?_⟩
    rcases h5 with h5 | h5
    · exact .inl (by rw [← h5]; exact hk)
    · rw [h5] at hk
      simp at hk
      exact .inr (by omega)

theorem wpList_append_ints {w : World} {ops : Array Oper} {rest : List Oper} {o : Oper} {a : Act} {Q : Exit → Act → World → Prop} (hgd : o.guard = none) (s x : Operand)
    (ho : o.op = .call { callee := .builtin .append, args := #[s, x], argTypes := #[23, 23] }) (base : Nat) (hB : base ≤ w.heap.size) (v : Value) (n : Nat) (xs : List Value) (hs : a.eval s = v) (hown : w.ownsRow base 3 1 v n xs) (sa : Option Addr) (c : Nat) (l : List Int) (hx : a.eval x = .slice sa l.length c) (hsrc : SrcI w sa c l) (hsmall : n + l.length ≤ 1000000000)
    (h : ∀ v' w', w'.ownsRow base 3 1 v' (n + l.length) (xs ++ intVals l) → w.grownBy w' v.ownBlock → Moves w v v' → wpList Tryd.prog ops Q rest (a.put o.dst v') w') : wpList Tryd.prog ops Q (o :: rest) a w := by
  refine wpList_plain hgd fun K hK => ?_
  obtain ⟨v', w', hr, h2, h3, h4⟩ := run_append_ints w base o.type hB v n xs hown sa c l hsrc hsmall
  unfold Oper.wp execOp
  simp only [ho, resolve, invoke, builtin, Sem.run_bind, Sem.run_pure, Result.andThen_ok, List.map_toArray, List.map_cons, List.map_nil, hs, hx, hr]
  exact hK _ _ (h v' w' h2 h3 h4)

end Go.Proofs.YtelindfmdakliaaDoor
