/-
  Walks: wherryref.sevens, textBytes.
-/
import Derived.Test.YtknjnfknalfbdaaDoorJoined
namespace Go.Proofs.YtknjnfknalfbdaaDoor
open Go.RowKit Go.Lib

theorem lists_two {w : World} {b : Nat} {T : TypeId} {x y : List Nat} {a1 a2 : Option Addr} {c1 c2 : Nat} (h : w.heap[b]? = some (.cells #[.slice a1 x.length c1, .slice a2 y.length c2] T (0, 0))) (h1 : Bytes w a1 x) (h2 : Bytes w a2 y) : ListsAt w (some ⟨b, 0, none⟩) [x, y] := by
  refine .inr ⟨b, 0, rfl, lt_of_heap h, fun i hi => ?_⟩
  have h0 : i = 0 ∨ i = 1 := by simp at hi; omega
  rcases h0 with rfl | rfl
  · exact ⟨a1, c1, by rw [cell_of_row _ _ _ _ _ _ h]; rfl, h1⟩
  · exact ⟨a2, c2, by rw [cell_of_row _ _ _ _ _ _ h]; rfl, h2⟩
theorem lists_three {w : World} {b : Nat} {T : TypeId} {x y z : List Nat} {a1 a2 a3 : Option Addr} {c1 c2 c3 : Nat} (h : w.heap[b]? = some (.cells #[.slice a1 x.length c1, .slice a2 y.length c2, .slice a3 z.length c3] T (0, 0))) (h1 : Bytes w a1 x) (h2 : Bytes w a2 y) (h3 : Bytes w a3 z) : ListsAt w (some ⟨b, 0, none⟩) [x, y, z] := by
  refine .inr ⟨b, 0, rfl, lt_of_heap h, fun i hi => ?_⟩
  have h0 : i = 0 ∨ i = 1 ∨ i = 2 := by simp at hi; omega
  rcases h0 with rfl | rfl | rfl
  · exact ⟨a1, c1, by rw [cell_of_row _ _ _ _ _ _ h]; rfl, h1⟩
  · exact ⟨a2, c2, by rw [cell_of_row _ _ _ _ _ _ h]; rfl, h2⟩
  · exact ⟨a3, c3, by rw [cell_of_row _ _ _ _ _ _ h]; rfl, h3⟩

set_option maxRecDepth 100000 in
set_option maxHeartbeats 2000000 in
theorem sevens_any : ∀ (n : Nat) (w : World), n < 268435456 →
    Calls Tryd.prog 81 #[.int .i64 (n : Int)] w fun r w' => ∃ v, r = .returned v ∧ w'.ownsRow w.heap.size 5 1 v (sev n).length (octs (sev n)) ∧ Below w.heap.size w w' := by
  intro n
  induction n using Nat.strongRecOn with
  | ind n ih =>
    intro w hn
    by_cases h : n < 128
    · have hz : (n : Int) < 128 := by omega
      rw [sev_small h]
      have hl := World.ownsRow_lit (base := w.heap.size) (e := 5) (size := 1) w #[.int .u8 (n : Int)] 1 (Nat.le_refl _) (by decide) rfl
      have hb := (Below.refl w.heap.size w).alloc (Nat.le_refl _) (.cells #[.int .u8 (n : Int)] 5)
      go_enter Tryd.func81, Tryd.ntmps81
      go_wp2_with fail
      go_ret
      exact ⟨_, rfl, hl, hb⟩
    · have hz : ¬ (n : Int) < 128 := by omega
      have cS := fun wx => ih (n / 128) (by omega) wx (by omega)
      rw [sev_big h]
      have hsl := sev_le (n := n / 128) (by omega)
      have e1 : (n : Int) / 128 = ((n / 128 : Nat) : Int) := by omega
      generalize sev (n / 128) = M at *
      obtain ⟨R, hR⟩ : ∃ R, R = (n % 128 + 128) :: M := ⟨_, rfl⟩
      rw [← hR]
      have HR : Hid ([[n % 128 + 128], M].flatten = R) := by show _ = _; rw [hR]; simp
      have hrl : R.length ≤ 10 := by rw [hR, List.length_cons]; omega
      clear hR ih
      rw [← e1] at cS
      have hb0 := (Below.refl w.heap.size w).alloc (Nat.le_refl _) (.cells #[.int .u8 (128 + (n : Int) % 128)] 5)
      have h0 := heap_alloc_new w (.cells #[.int .u8 (128 + (n : Int) % 128)] 5)
      have cS1 := cS (w.alloc (.cells #[.int .u8 (128 + (n : Int) % 128)] 5))
      clear cS e1
      go_enter Tryd.func81, Tryd.ntmps81
      go_wp2_with fail
      refine cS1.mono ?_
      generalize (w.alloc (.cells #[.int .u8 (128 + (n : Int) % 128)] 5)) = w1 at *
      rintro r w2 ⟨v, rfl, hown, hb⟩
      have HB2 := below_two hb0 hb (Nat.le_refl _)
      have h2 := (hb.block _ (Array.getElem?_eq_some_iff.1 h0).1).trans h0
      obtain ⟨a2, c2, rfl, _, hby, _⟩ := srcB_own hown
      have hba := (Below.refl w2.heap.size w2).alloc (Nat.le_refl _) (.cells #[.slice (some ⟨w.heap.size, 0, none⟩) 1 1, .slice a2 M.length c2] 75)
      have h3 := heap_alloc_new w2 (.cells #[.slice (some ⟨w.heap.size, 0, none⟩) 1 1, .slice a2 M.length c2] 75)
      have HB3 := below_two HB2 hba (Nat.le_refl _)
      have hy1 : Bytes w2 (some ⟨w.heap.size, 0, none⟩) [n % 128 + 128] := .inr ⟨_, 0, rfl, lt_of_heap h2, fun i hi => by
        have : i = 0 := by simp at hi; omega
        subst this
        rw [cell_of_row _ _ _ _ _ _ h2]
        show some (Value.int .u8 (128 + (n : Int) % 128)) = some (.int .u8 ((n % 128 + 128 : Nat) : Int))
        rw [show ((n % 128 + 128 : Nat) : Int) = 128 + (n : Int) % 128 by omega]⟩
      have hL := lists_two (x := [n % 128 + 128]) h3 (hy1.below hba) (hby.below hba)
      have cJ := joined_any [[n % 128 + 128], M] _ 2 _ hL (by rw [HR.out]; omega) (by simp)
      rw [HR.out] at cJ
      clear cS1 h0 h2 h3 hy1 hL hba hb hown hby
      go_wp2_with fail
      refine cJ.mono ?_
      rintro r w4 ⟨v4, rfl, hown4, hb4⟩
      go_wp2_with fail
      go_ret
      exact ⟨_, rfl, own_base hown4 HB3.size, below_two HB3 hb4 (Nat.le_refl _)⟩

end Go.Proofs.YtknjnfknalfbdaaDoor
