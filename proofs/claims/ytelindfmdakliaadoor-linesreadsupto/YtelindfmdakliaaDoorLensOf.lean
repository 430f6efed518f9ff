/-
  Walk: wherryref.LengthsOf.
-/
import Derived.Test.YtelindfmdakliaaDoorLens
import Derived.Deep.QuietTactic
import Derived.BigQuiet
namespace Go.Proofs.YtelindfmdakliaaDoor
open Go.RowKit

set_option maxHeartbeats 400000 in
theorem lengthsOf_any (ps : List Part) (a : Option Addr) (cap : Nat) (w : World) (hop : OpAt w a ps) (hn : ps.length ≤ 9223372036854775806) (hs : ∀ p ∈ ps, p.text.size ≤ 70368744177664) :
    Calls Tryd.prog 33 #[.slice a ps.length cap] w fun e w' => e = .returned (.tuple #[.int .i64 (lens ps).1, .int .i64 (lens ps).2]) ∧ Below w.heap.size w w' := by
  go_enter Tryd.func33, Tryd.ntmps33
  go_wp2
  go_loopw [4, 5, 6] (fun f t i wr => ∃ k : Nat, k ≤ ps.length ∧ i = .int .i64 k ∧ f = .int .i64 (lens (ps.take k)).1 ∧ t = .int .i64 (lens (ps.take k)).2 ∧ Below w.heap.size w wr) (fun _ _ i _ => ps.length - (intOf i).toNat)
  case atStart => exact ⟨0, Nat.zero_le _, rfl, rfl, rfl, Below.refl _ _⟩
  case round =>
    obtain ⟨k, hk, rfl, rfl, rfl, hb⟩ := hrel
    by_cases hlt : k < ps.length
    · have HL : Hid (lens (ps.take (k + 1)) = stepLen (lens (ps.take k)) ps[k]) := lens_take ps k hlt
      rcases hop with rfl | ⟨b, off, rfl, hbs, hcell⟩
      · simp at hlt
      · obtain ⟨c0, c1, c2⟩ := hcell k hlt
        rw [← bcell hb _ _ hbs] at c0 c1 c2
        clear hcell
        have hsz : ps[k].text.size ≤ 70368744177664 := hs _ (List.getElem_mem hlt)
        clear hs
        generalize lens (ps.take k) = L at *
        generalize ps[k] = p at *
        obtain ⟨kd, n, tx⟩ := p
        simp only at c0 c1 c2 hsz
        have e1 : kd = 1 ∨ kd = 3 ∨ kd = 2 ∨ (kd ≠ 1 ∧ kd ≠ 3 ∧ kd ≠ 2) := by omega
        rcases e1 with rfl | rfl | rfl | ⟨h1, h3, h2⟩
        · go_wp2
          go_roundw
          case rel => exact ⟨k + 1, hlt, by go_num, by rw [HL.out]; rfl, by rw [HL.out]; rfl, hb⟩
          case measure => simp [intOf]; omega
        · go_wp2
          go_roundw
          case rel => exact ⟨k + 1, hlt, by go_num, by rw [HL.out]; rfl, by rw [HL.out]; rfl, hb⟩
          case measure => simp [intOf]; omega
        · have hcv := conv_runes tx hsz
          go_wp2
          go_roundw
          case rel => exact ⟨k + 1, hlt, by go_num, by rw [HL.out]; rfl, by rw [HL.out]; rfl, (hb.alloc hb.size _).drew⟩
          case measure => simp [intOf]; omega
        · have g1 : (kd == 1) = false := by simp; omega
          have g2 : (kd == 2) = false := by simp; omega
          have g3 : (kd == 3) = false := by simp; omega
          have E : Hid (stepLen L ⟨kd, n, tx⟩ = L) := by show stepLen L ⟨kd, n, tx⟩ = L; simp [stepLen, h1, h2, h3]
          clear h1 h2 h3
          go_wp2
          go_roundw
          case rel => exact ⟨k + 1, hlt, by go_num, by rw [HL.out, E.out], by rw [HL.out, E.out], hb⟩
          case measure => simp [intOf]; omega
    · go_wp2
      go_ret2
      have e : k = ps.length := by omega
      subst e
      rw [List.take_length]
      exact ⟨rfl, hb⟩

end Go.Proofs.YtelindfmdakliaaDoor
