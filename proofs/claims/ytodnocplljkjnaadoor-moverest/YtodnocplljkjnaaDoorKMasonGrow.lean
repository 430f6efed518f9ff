/-
  Walk: (*wherrykeep.mason).add where the part grows together with the last one.
-/
import Derived.Test.YtodnocplljkjnaaDoorKMason
import Derived.Deep.QuietTactic
import Derived.BigQuiet
import Derived.RegionTactic
import Derived.BigRegion
namespace Go.Proofs.YtodnocplljkjnaaDoor
open Go.RowKit Go.Lib

set_option maxRecDepth 100000 in
set_option maxHeartbeats 2000000 in
theorem add_grow (w : World) (B b : Nat) (ov : Value) (D0 : List Part) (q : Part) (left : Int) (p : Part) (h : MasonAt w B b ov (D0 ++ [q]) left) (hk : q.kind = p.kind) (hp : (p.kind = 2 ∧ p.text.size ≠ 0 ∧ p.n = 0) ∨ (p.kind = 1 ∧ p.n ≠ 0) ∨ (p.kind = 3 ∧ p.n ≠ 0))
    (hD : D0.length ≤ 1000000) (hq : -1000000000 ≤ q.n ∧ q.n ≤ 1000000000) (hn : -1000000000 ≤ p.n ∧ p.n ≤ 1000000000) (hqs : q.text.size ≤ 1000000000) (hps : p.text.size ≤ 1000000000) :
    Calls Tryd.prog 9 #[.pointer (some ⟨b, 0, none⟩), .agg #[.int .i64 p.kind, .int .i64 p.n, .string p.text]] w fun e w' => e = .returned (.tuple #[]) ∧ MasonAt w' B b ov (D0 ++ [⟨q.kind, q.n + p.n, q.text ++ p.text⟩]) left ∧ MasonStep w w' b ov ov := by
  obtain ⟨c0, _⟩ := h.cells
  have hbl := (h.lt b (.inl rfl)).2
  obtain ⟨g, cap, rfl, k0, k1, k2, kf⟩ := own_lastText h.own
  have hgl := (h.lt g (.inr rfl)).2
  have kf1 := kf (D0.length * 3 + 1)
  have kf2 := kf (D0.length * 3 + 2)
  have hbg : b ≠ g := fun e => row_ne h.own h.blk (by decide) (by subst e; rfl)
  have t2 : (0 : Int) ≤ (D0.length : Int) := by omega
  have hsum : q.text.size + p.text.size ≤ 9223372036854775807 := by omega
  have key : ∀ (o : Obj) (k : Nat) (x y : Value), x = .int .i64 (q.n + p.n) → y = .string (q.text ++ p.text) → MasonAt ((((w.alloc o).drewN k).setCell ⟨g, D0.length * 3 + 1, none⟩ x).setCell ⟨g, D0.length * 3 + 2, none⟩ y).drew B b (.slice (some ⟨g, 0, none⟩) (D0.length + 1) cap) (D0 ++ [⟨q.kind, q.n + p.n, q.text ++ p.text⟩]) left ∧ MasonStep w ((((w.alloc o).drewN k).setCell ⟨g, D0.length * 3 + 1, none⟩ x).setCell ⟨g, D0.length * 3 + 2, none⟩ y).drew b (.slice (some ⟨g, 0, none⟩) (D0.length + 1) cap) (.slice (some ⟨g, 0, none⟩) (D0.length + 1) cap) := by
    intro o k x y hx hy
    have hown' : ((w.alloc o).drewN k).ownsRow B 33 3 (.slice (some ⟨g, 0, none⟩) (D0.length + 1) cap) (D0.length + 1) (partCells (D0 ++ [q])) := by
      have := h.own.alloc o
      simp only [List.length_append, List.length_cons, List.length_nil, Nat.zero_add] at this
      exact this
    refine ⟨⟨h.base, ?_, ?_⟩, ⟨((Chg.drewN ((Chg.refl _ w).alloc o) k).setCell (p := ⟨g, D0.length * 3 + 1, none⟩) (.inr rfl) _ |>.setCell (p := ⟨g, D0.length * 3 + 2, none⟩) (.inr rfl) _).drew, Moves.refl _ _⟩⟩
    · show ((((w.alloc o).drewN k).setCell ⟨g, D0.length * 3 + 1, none⟩ x).setCell ⟨g, D0.length * 3 + 2, none⟩ y).heap[b]? = _
      rw [Below.heap_setCell _ ⟨g, _, none⟩ _ b hbg, Below.heap_setCell _ ⟨g, _, none⟩ _ b hbg]
      exact row_old h.blk o
    · have h1 := (hown'.stored (D0.length * 3 + 1) x).1
      have h2 := (h1.stored (D0.length * 3 + 2) y).1
      have e : ((partCells (D0 ++ [q])).set (D0.length * 3 + 1) x).set (D0.length * 3 + 2) y = partCells (D0 ++ [⟨q.kind, q.n + p.n, q.text ++ p.text⟩]) := by
        rw [partCells_append, partCells_append, partCells_one, partCells_one, List.set_append_right _ _ (by rw [partCells_length]; omega), partCells_length, show D0.length * 3 + 1 - D0.length * 3 = 1 by omega,
          List.set_append_right _ _ (by rw [partCells_length]; omega), partCells_length, show D0.length * 3 + 2 - D0.length * 3 = 2 by omega, hx, hy]
        rfl
      rw [e] at h2
      have e2 : (D0 ++ [(⟨q.kind, q.n + p.n, q.text ++ p.text⟩ : Part)]).length = D0.length + 1 := by simp
      rw [e2]
      simpa using own_drew h2
  clear h
  obtain ⟨qk, qn, qt⟩ := q
  obtain ⟨pk, pn, pt⟩ := p
  simp only at hk hp hq hn hqs hps k0 k1 k2 hsum key ⊢
  subst hk
  rcases hp with ⟨rfl, hpt, rfl⟩ | ⟨rfl, hpn⟩ | ⟨rfl, hpn⟩
  · have hE := isEmpty_of pt hpt
    go_enter Tryd.func9, Tryd.ntmps9
    go_wp2_with fail
    go_quiet (fail)
    go_wp2_with fail
    go_region
    go_wp2_with fail
    go_region
    go_wp2_with fail
    go_end0
    exact ⟨rfl, key _ _ _ _ (by simp) (by simp)⟩
  · have g1 : (pn == 0) = false := by simpa using hpn
    go_enter Tryd.func9, Tryd.ntmps9
    go_wp2_with fail
    go_quiet (fail)
    go_wp2_with fail
    go_region
    go_wp2_with fail
    go_region
    go_wp2_with fail
    go_end0
    exact ⟨rfl, key _ _ _ _ (by simp) (by simp)⟩
  · have g1 : (pn == 0) = false := by simpa using hpn
    go_enter Tryd.func9, Tryd.ntmps9
    go_wp2_with fail
    go_quiet (fail)
    go_wp2_with fail
    go_region
    go_wp2_with fail
    go_region
    go_wp2_with fail
    go_end0
    exact ⟨rfl, key _ _ _ _ (by simp) (by simp)⟩

end Go.Proofs.YtodnocplljkjnaaDoor
