/-
  Walk: wherrylaw.LinkTicks.
-/
import Derived.Test.YtekgennapogcgaaDoorLinkTkR
import Derived.Test.YtekgennapogcgaaDoorLinkSame
namespace Go.Proofs.YtekgennapogcgaaDoor
open Go.RowKit Go.Lib

set_option maxRecDepth 100000 in
set_option maxHeartbeats 2000000 in
theorem tick_rest {B : Nat} (ep nx hd : Int) (S Q : List FrK) (sv qv : Value) (w : World) (hS : InK frS w B sv S) (hQ : InK frS w B qv Q) (fS : ∀ x ∈ S, FrSmall x.1) (fQ : ∀ x ∈ Q, FrSmall x.1) (lS : S.length ≤ 1048577) (lQ : Q.length ≤ 1048577) (hT : Tabs w) (h : linkErr (mkL ep nx hd S Q) ≠ 0 ∨ ep = 0) :
    Calls Tryd.prog 45 #[.agg #[.int .i64 ep, .int .i64 nx, sv, qv, .int .i64 hd]] w fun r w' => r = .returned (.tuple #[.slice none 0 0, .int .i64 (linkErr (mkL ep nx hd S Q))]) ∧ Below w.heap.size w w' := by
  have cC := fun w1 (hb : Below w.heap.size w w1) => linkCheck_any ep nx hd S Q sv qv w1 (hS.below hb) (hQ.below hb) fS fQ lS lQ (hT.below hb)
  obtain ⟨sa, sc, rfl, _⟩ := hS.row
  obtain ⟨qa, qc, rfl, _⟩ := hQ.row
  have hb0 := (Below.refl w.heap.size w).alloc (Nat.le_refl _) (.cells #[.int .i64 ep, .int .i64 nx, .slice sa S.length sc, .slice qa Q.length qc, .int .i64 hd] 74)
  have hl := heap_alloc_new w (.cells #[.int .i64 ep, .int .i64 nx, .slice sa S.length sc, .slice qa Q.length qc, .int .i64 hd] 74)
  obtain ⟨l0, ll0, _⟩ := blk hl
  generalize linkErr (mkL ep nx hd S Q) = E at *
  have cC1 := cC _ hb0
  clear cC hS hQ fS fQ hT
  by_cases hE : E = 0
  · have he : ep = 0 := by rcases h with h | h; exact absurd hE h; exact h
    subst hE he
    clear h
    go_enter Tryd.func45, Tryd.ntmps45
    go_wp2_with fail
    refine cC1.mono ?_
    rintro r w1 ⟨rfl, hb1⟩
    replace hl := (hb1.block _ ll0).trans hl
    clear l0 ll0
    obtain ⟨l0, ll0, _⟩ := blk hl
    go_wp2_with fail
    go_ret2
    exact ⟨rfl, below_two hb0 hb1 (Nat.le_refl _)⟩
  · have g : (E != 0) = true := by simpa using hE
    clear h hE
    go_enter Tryd.func45, Tryd.ntmps45
    go_wp2_with fail
    refine cC1.mono ?_
    rintro r w1 ⟨rfl, hb1⟩
    go_wp2_with fail
    go_ret2
    exact ⟨rfl, below_two hb0 hb1 (Nat.le_refl _)⟩
set_option maxRecDepth 100000 in
set_option maxHeartbeats 2000000 in
theorem linkTicked_bad {B : Nat} (ep nx hd : Int) (S Q : List FrK) (sv qv : Value) (w : World) (hS : InK frS w B sv S) (hQ : InK frS w B qv Q) (fS : ∀ x ∈ S, FrSmall x.1) (fQ : ∀ x ∈ Q, FrSmall x.1) (lS : S.length ≤ 1048577) (lQ : Q.length ≤ 1048577) (hT : Tabs w) (h : linkErr (mkL ep nx hd S Q) ≠ 0) :
    Calls Tryd.prog 46 #[.agg #[.int .i64 ep, .int .i64 nx, sv, qv, .int .i64 hd]] w fun r w' => r = .returned (.tuple #[.slice none 0 0, .int .i64 9]) ∧ Below w.heap.size w w' := by
  have cC := fun w1 (hb : Below w.heap.size w w1) => linkMay_any ep nx hd S Q sv qv w1 (hS.below hb) (hQ.below hb) fS fQ lS lQ (hT.below hb)
  rw [decide_eq_false h] at cC
  obtain ⟨sa, sc, rfl, _⟩ := hS.row
  obtain ⟨qa, qc, rfl, _⟩ := hQ.row
  have hb0 := (Below.refl w.heap.size w).alloc (Nat.le_refl _) (.cells #[.int .i64 ep, .int .i64 nx, .slice sa S.length sc, .slice qa Q.length qc, .int .i64 hd] 74)
  have hl := heap_alloc_new w (.cells #[.int .i64 ep, .int .i64 nx, .slice sa S.length sc, .slice qa Q.length qc, .int .i64 hd] 74)
  obtain ⟨l0, ll0, _⟩ := blk hl
  have cC1 := cC _ hb0
  clear cC hS hQ fS fQ hT h
  go_enter Tryd.func46, Tryd.ntmps46
  go_wp2_with fail
  refine cC1.mono ?_
  rintro r w1 ⟨rfl, hb1⟩
  go_wp2_with fail
  go_ret2
  exact ⟨rfl, below_two hb0 hb1 (Nat.le_refl _)⟩
/-- both answer the same packets -/
theorem tick_both {B : Nat} (ep nx hd : Int) (S Q : List FrK) (sv qv : Value) (w : World) (hS : InK frS w B sv S) (hQ : InK frS w B qv Q) (fS : ∀ x ∈ S, FrSmall x.1) (fQ : ∀ x ∈ Q, FrSmall x.1) (lS : S.length ≤ 1048577) (lQ : Q.length ≤ 1048577) (hT : Tabs w) :
    Calls Tryd.prog 45 #[.agg #[.int .i64 ep, .int .i64 nx, sv, qv, .int .i64 hd]] w fun r w' => ∃ pv, r = .returned (.tuple #[pv, .int .i64 (linkErr (mkL ep nx hd S Q))]) ∧ TickOk w' w.heap.size pv (if linkErr (mkL ep nx hd S Q) = 0 then tickL (mkL ep nx hd S Q) else []) ∧ Below w.heap.size w w' := by
  by_cases h : linkErr (mkL ep nx hd S Q) ≠ 0 ∨ ep = 0
  · refine (tick_rest ep nx hd S Q sv qv w hS hQ fS fQ lS lQ hT h).mono ?_
    rintro r w' ⟨rfl, hb⟩
    refine ⟨_, rfl, ⟨[], rowK_nil _ _ _, ?_⟩, hb⟩
    by_cases h0 : linkErr (mkL ep nx hd S Q) = 0
    · rw [if_pos h0]
      have he : ep = 0 := by rcases h with h | h; exact absurd h0 h; exact h
      unfold tickL
      rw [if_pos (show (mkL ep nx hd S Q).epoch = 0 from he)]
      rfl
    · rw [if_neg h0]; rfl
  · have h0 : linkErr (mkL ep nx hd S Q) = 0 := Classical.byContradiction fun e => h (.inl e)
    rw [if_pos h0, h0]
    exact tick_ok ep nx hd S Q sv qv w hS hQ fS fQ lS lQ hT h0 (fun e => h (.inr e))
theorem ticked_both {B : Nat} (ep nx hd : Int) (S Q : List FrK) (sv qv : Value) (w : World) (hS : InK frS w B sv S) (hQ : InK frS w B qv Q) (fS : ∀ x ∈ S, FrSmall x.1) (fQ : ∀ x ∈ Q, FrSmall x.1) (lS : S.length ≤ 1048577) (lQ : Q.length ≤ 1048577) (hT : Tabs w) :
    Calls Tryd.prog 46 #[.agg #[.int .i64 ep, .int .i64 nx, sv, qv, .int .i64 hd]] w fun r w' => ∃ pv, r = .returned (.tuple #[pv, .int .i64 (linkErr (mkL ep nx hd S Q))]) ∧ TickOk w' w.heap.size pv (if linkErr (mkL ep nx hd S Q) = 0 then tickL (mkL ep nx hd S Q) else []) ∧ Below w.heap.size w w' := by
  by_cases h0 : linkErr (mkL ep nx hd S Q) = 0
  · rw [if_pos h0, h0]
    exact linkTicked_ok ep nx hd S Q sv qv w hS hQ fS fQ lS lQ hT h0
  · have h9 : linkErr (mkL ep nx hd S Q) = 9 := by unfold linkErr at h0 ⊢; split at h0 <;> simp_all
    refine (linkTicked_bad ep nx hd S Q sv qv w hS hQ fS fQ lS lQ hT h0).mono ?_
    rintro r w' ⟨rfl, hb⟩
    rw [if_neg h0, h9]
    exact ⟨_, rfl, ⟨[], rowK_nil _ _ _, rfl⟩, hb⟩
theorem packs_ops {ep hd : Int} {m : Nat} : ∀ (a : List FrI) (n : Int), (∀ f ∈ a, f.op.length ≤ m) → ∀ p ∈ packs ep hd n a, p.frame.op.length ≤ m
  | [], _, _, p, hp => by simp [packs] at hp
  | f :: a, n, h, p, hp => by
    rcases List.mem_cons.1 (show p ∈ ⟨ep, n, false, hd, f⟩ :: packs ep hd (n + 1) a from hp) with rfl | hp
    · exact h f List.mem_cons_self
    · exact packs_ops a (n + 1) (fun g hg => h g (List.mem_cons_of_mem _ hg)) p hp
theorem tickL_small {ep nx hd : Int} {S Q : List FrK} (fS : ∀ x ∈ S, FrSmall x.1) (lS : S.length ≤ 1048576) : (∀ p ∈ (if linkErr (mkL ep nx hd S Q) = 0 then tickL (mkL ep nx hd S Q) else []), p.frame.op.length ≤ 1048577) ∧ (if linkErr (mkL ep nx hd S Q) = 0 then tickL (mkL ep nx hd S Q) else []).length ≤ 1048577 := by
  split
  · unfold tickL
    split
    · simp
    · split
      · constructor
        · intro p hp
          rw [List.mem_singleton] at hp
          subst hp
          exact Nat.zero_le _
        · simp
      · constructor
        · refine packs_ops _ _ (fun f hf => ?_)
          obtain ⟨x, hx, rfl⟩ := List.mem_map.1 (show f ∈ S.map (·.1) from hf)
          have := (fS x hx).op.1
          omega
        · rw [packs_length]
          show (S.map (·.1)).length ≤ _
          rw [List.length_map]
          omega
  · simp

set_option maxRecDepth 100000 in
set_option maxHeartbeats 1000000 in
theorem linkTicks_walk (ep nx hd : Int) (S Q : List FrK) (sv qv : Value) (w : World) (hS : InK frS w 0 sv S) (hQ : InK frS w 0 qv Q) (fS : ∀ x ∈ S, FrSmall x.1) (fQ : ∀ x ∈ Q, FrSmall x.1) (lS : S.length ≤ 1048576) (lQ : Q.length ≤ 1048576) (_be : -9223372036854775808 ≤ ep ∧ ep ≤ 9223372036854775807) (_bn : -9223372036854775808 ≤ nx ∧ nx ≤ 9223372036854775807) (_bh : -9223372036854775808 ≤ hd ∧ hd ≤ 9223372036854775807) (hT : Tabs w) :
    Calls Tryd.prog 11 #[.agg #[.int .i64 ep, .int .i64 nx, sv, qv, .int .i64 hd]] w fun r w' => r = .returned (.bool true) ∧ Below w.heap.size w w' := by
  have cL := fun w1 (hb : Below w.heap.size w w1) => linkCopy_any ep nx hd S Q sv qv w1 (hS.below hb) (hQ.below hb) (fun x hx => (fS x hx).op.1) (fun x hx => (fQ x hx).op.1) (by omega) (by omega)
  have cR := fun w1 (hb : Below w.heap.size w w1) => ticked_both ep nx hd S Q sv qv w1 (hS.below hb) (hQ.below hb) fS fQ (by omega) (by omega) (hT.below hb)
  obtain ⟨t1, t2⟩ := tickL_small (ep := ep) (nx := nx) (hd := hd) (Q := Q) fS lS
  have cT : ∀ w1 sv' qv' (B' : Nat) (S' Q' : List FrK), Below w.heap.size w w1 → RowK frS w1 B' sv' S' → S'.map (·.1) = S.map (·.1) → RowK frS w1 B' qv' Q' → Q'.map (·.1) = Q.map (·.1) → Calls Tryd.prog 45 #[.agg #[.int .i64 ep, .int .i64 nx, sv', qv', .int .i64 hd]] w1 fun r w' => ∃ pv, r = .returned (.tuple #[pv, .int .i64 (linkErr (mkL ep nx hd S Q))]) ∧ TickOk w' w1.heap.size pv (if linkErr (mkL ep nx hd S Q) = 0 then tickL (mkL ep nx hd S Q) else []) ∧ Below w1.heap.size w1 w' := by
    intro w1 sv' qv' B' S' Q' hb h1 e1 h2 e2
    have em : mkL ep nx hd S' Q' = mkL ep nx hd S Q := by unfold mkL; rw [e1, e2]
    have s1 : ∀ x ∈ S', FrSmall x.1 := fun x hx => by
      have : x.1 ∈ S.map (·.1) := by rw [← e1]; exact List.mem_map_of_mem hx
      obtain ⟨y, hy, he⟩ := List.mem_map.1 this
      rw [← he]
      exact fS y hy
    have s2 : ∀ x ∈ Q', FrSmall x.1 := fun x hx => by
      have : x.1 ∈ Q.map (·.1) := by rw [← e2]; exact List.mem_map_of_mem hx
      obtain ⟨y, hy, he⟩ := List.mem_map.1 this
      rw [← he]
      exact fQ y hy
    have l1 : S'.length = S.length := by have := congrArg List.length e1; simpa using this
    have l2 : Q'.length = Q.length := by have := congrArg List.length e2; simpa using this
    have := tick_both ep nx hd S' Q' sv' qv' w1 h1.inK h2.inK s1 s2 (by omega) (by omega) (hT.below hb)
    rw [em] at this
    exact this
  obtain ⟨sa, sc, rfl, _⟩ := hS.row
  obtain ⟨qa, qc, rfl, _⟩ := hQ.row
  have hb0 := (Below.refl w.heap.size w).alloc (Nat.le_refl _) (.cells #[.int .i64 ep, .int .i64 nx, .slice sa S.length sc, .slice qa Q.length qc, .int .i64 hd] 74)
  have hl := heap_alloc_new w (.cells #[.int .i64 ep, .int .i64 nx, .slice sa S.length sc, .slice qa Q.length qc, .int .i64 hd] 74)
  generalize (if linkErr (mkL ep nx hd S Q) = 0 then tickL (mkL ep nx hd S Q) else []) = RT at *
  generalize linkErr (mkL ep nx hd S Q) = E at *
  clear hS hQ fS fQ hT
  obtain ⟨l0, ll0, _⟩ := blk hl
  have cL1 := cL _ hb0
  go_enter Tryd.func11, Tryd.ntmps11
  go_wp2_with fail
  refine cL1.mono ?_
  generalize (w.alloc (.cells #[.int .i64 ep, .int .i64 nx, .slice sa S.length sc, .slice qa Q.length qc, .int .i64 hd] 74)) = w0 at *
  rintro r w1 ⟨sv', qv', rfl, ⟨S', Q', h1, e1, h2, e2⟩, hb1⟩
  have HB1 := below_two hb0 hb1 (Nat.le_refl _)
  have cT1 := cT w1 sv' qv' _ S' Q' HB1 h1 e1 h2 e2
  replace hl := (hb1.block _ ll0).trans hl
  obtain ⟨ka, kc, rfl⟩ := own_form h1.row
  obtain ⟨oa, oc, rfl⟩ := own_form h2.row
  clear cL cL1 cT l0 ll0 e1 e2 h1 h2
  go_wp2_with fail
  refine cT1.mono ?_
  rintro r w2 ⟨pv, rfl, hTk, hb2⟩
  have HB2 := below_two HB1 hb2 (Nat.le_refl _)
  replace hl := (hb2.block _ (Array.getElem?_eq_some_iff.1 hl).1).trans hl
  obtain ⟨P, hP, eP⟩ := hTk.ex
  obtain ⟨pa, pc, rfl⟩ := own_form hP.row
  have HP : Hid (P.map (·.1) = RT) := eP
  have cR2 := cR w2 HB2
  clear cT1 cR hTk eP
  obtain ⟨l0, ll0, _⟩ := blk hl
  go_wp2_with fail
  refine cR2.mono ?_
  rintro r w3 ⟨pv3, rfl, hTk, hb3⟩
  have HB3 := below_two HB2 hb3 (Nat.le_refl _)
  obtain ⟨P3, hP3, eP3⟩ := hTk.ex
  obtain ⟨pa3, pc3, rfl⟩ := own_form hP3.row
  have cS := samePackets_true P P3 (.slice pa P.length pc) (.slice pa3 P3.length pc3) w3 (hP.below hb3).inK hP3.inK (by rw [HP.out, eP3]) (fun x hx => t1 _ (by rw [← HP.out]; exact List.mem_map_of_mem hx)) (by have := congrArg List.length HP.out; rw [List.length_map] at this; omega)
  clear cR2 hTk eP3 l0 ll0
  go_wp2_with fail
  refine cS.mono ?_
  rintro r w4 ⟨rfl, hb4⟩
  go_wp2_with fail
  go_ret
  exact ⟨by simp, below_two HB3 hb4 (Nat.le_refl _)⟩

end Go.Proofs.YtekgennapogcgaaDoor
