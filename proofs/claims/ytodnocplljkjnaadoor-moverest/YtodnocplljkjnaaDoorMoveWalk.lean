/-
  Walk: text.Move.
-/
import Derived.Test.YtodnocplljkjnaaDoorCheck
import Derived.Test.YtodnocplljkjnaaDoorPure
namespace Go.Proofs.YtodnocplljkjnaaDoor
open Go.RowKit

theorem ret_two {a b c d : Value} (h1 : a = c) (h2 : b = d) : Ending.returned (.tuple #[a, b]) = .returned (.tuple #[c, d]) := by rw [h1, h2]

set_option maxHeartbeats 1000000 in
theorem move_any (at_ : Int) (ps : List Part) (a : Option Addr) (cap : Nat) (push : Bool) (w : World) (hop : OpAt w a ps) (hn : ps.length ≤ 1048576) (hs : ∀ p ∈ ps, PartOk 1048576 p) (hT : Tabs w) :
    Calls Tryd.prog 11 #[.int .i64 at_, .slice a ps.length cap, .bool push] w fun e w' => e = .returned (.tuple #[.int .i64 (moveRes at_ ps push), .int .i64 (moveErr at_ ps)]) ∧ Below w.heap.size w w' := by
  have cC := check_any ps a cap w hop (by omega) (fun p hp => by have := (hs p hp).2.2; omega) hT
  by_cases h0 : opErr ps = 0
  · have hok := opErr_zero h0
    have hl := hok.lens
    rw [h0] at cC
    by_cases hr : at_ < 0 ∨ (lens ps).1 < at_
    · have hE : moveErr at_ ps = 2 := by unfold moveErr; rw [if_neg (by omega), if_pos hr]
      have hR : moveRes at_ ps push = 0 := by unfold moveRes; rw [hE, if_pos (by omega)]
      rw [hE, hR]
      clear hE hR h0 hl
      go_enter Tryd.func11, Tryd.ntmps11
      go_wp2_with fail
      refine cC.mono ?_
      rintro e w1 ⟨rfl, hb1⟩
      have cL := lengths_any ps a cap w1 (hop.below hb1) (by omega) (fun p hp => by have := (hs p hp).2.2; omega)
      generalize lens ps = L at *
      obtain ⟨f, t⟩ := L
      simp only at hr cL
      clear hop hs
      go_wp2_with fail
      refine cL.mono ?_
      rintro e w2 ⟨rfl, hb2⟩
      by_cases hneg : at_ < 0
      · go_wp2
        go_ret2
        exact ⟨rfl, below_two hb1 hb2 (Nat.le_refl _)⟩
      · have hgt : f < at_ := by omega
        go_wp2
        go_ret2
        exact ⟨rfl, below_two hb1 hb2 (Nat.le_refl _)⟩
    · have hE : moveErr at_ ps = 0 := by unfold moveErr; rw [if_neg (by omega), if_neg hr]
      have hR : moveRes at_ ps push = ((moveAll at_.toNat push (steps ps)).2 : Int) := by unfold moveRes; rw [hE, if_neg (by omega)]
      rw [hE, hR]
      clear hE hR h0
      obtain ⟨m, rfl⟩ : ∃ m : Nat, at_ = m := ⟨at_.toNat, by omega⟩
      rw [Int.toNat_natCast]
      rw [hl] at hr
      simp only at hr
      have hfr := hok.from_le
      have hm : m ≤ 4000 := by omega
      go_enter Tryd.func11, Tryd.ntmps11
      go_wp2_with fail
      refine cC.mono ?_
      rintro e w1 ⟨rfl, hb1⟩
      have cL := lengths_any ps a cap w1 (hop.below hb1) (by omega) (fun p hp => by have := (hs p hp).2.2; omega)
      rw [hl] at cL
      clear hl
      have hnn : decide ((m : Int) < 0) = false := by simp
      have hle : decide (fromN ps < m) = false := by simp; omega
      go_wp2_with fail
      refine cL.mono ?_
      rintro e w2 ⟨rfl, hb2⟩
      have hb : Below w.heap.size w w2 := below_two hb1 hb2 (Nat.le_refl _)
      clear hr
      go_wp2
      go_loopw [11, 12, 35] (fun lv mv i wr => ∃ (k old new : Nat), k ≤ ps.length ∧ i = .int .i64 k ∧ Hid (moveAll m push (steps (ps.take k)) = (old, new)) ∧ old ≤ 8000 ∧ new ≤ 8000 ∧ lv = .int .i64 ((m : Int) - old) ∧ mv = .int .i64 new ∧ Below w.heap.size w wr) (fun _ _ i _ => ps.length - (intOf i).toNat)
      case atStart => exact ⟨0, 0, 0, Nat.zero_le _, rfl, rfl, by omega, by omega, by simp, rfl, hb⟩
      case round =>
        obtain ⟨k, old, new, hk, rfl, HM, ho, hn', rfl, rfl, hb⟩ := hrel
        by_cases hlt : k < ps.length
        · have hbd := moveAll_bound m push (steps (ps.take (k + 1)))
          have hst := steps_take_le ps (k + 1)
          have hst2 := hok.steps_le
          have HN : Hid (moveAll m push (steps (ps.take (k + 1))) = (stepsOf ps[k]).foldl (moveStep m push) (old, new)) := by
            show _ = _
            rw [steps_take ps k hlt, moveAll_append, HM.out]
          rw [HN.out] at hbd
          have g := hok.chain.good _ (List.getElem_mem hlt)
          rcases hop with rfl | ⟨b, off, rfl, hbs, hcell⟩
          · simp at hlt
          · obtain ⟨c0, c1, c2⟩ := hcell k hlt
            rw [← bcell hb _ _ hbs] at c0 c1 c2
            have hsz := (hs _ (List.getElem_mem hlt)).2.2
            clear hcell hs HM hok cL cC
            generalize ps[k] = p at *
            obtain ⟨kd, n, tx⟩ := p
            simp only at c0 c1 c2 hsz
            have hkk := g.kind
            simp only at hkk
            rcases hkk with rfl | rfl | rfl
            · obtain ⟨h1, h2, _⟩ := g.count (by simp)
              simp only at h1 h2
              obtain ⟨q, rfl⟩ : ∃ q : Nat, n = q := ⟨n.toNat, by omega⟩
              have HS : Hid ((stepsOf ⟨1, (q : Int), tx⟩).foldl (moveStep m push) (old, new) = (old + q, new + min q (m - old))) := move_keep m push q old new
              rw [HS.out] at hbd
              simp only at hbd
              go_wp2
              go_roundw
              case rel =>
                refine ⟨k + 1, old + q, new + min q (m - old), hlt, by go_num, HN.out.trans HS.out, by omega, by omega, ?_, ?_, hb.alloc hb.size _⟩
                · go_num
                · congr 1; omega
              case measure => simp [intOf]; omega
            · have HS : Hid ((stepsOf ⟨2, n, tx⟩).foldl (moveStep m push) (old, new) = (old, if old < m ∨ (old = m ∧ push = true) then new + (runes tx).length else new)) := move_ins m push (runes tx) old new
              rw [HS.out] at hbd
              simp only at hbd
              by_cases hlt1 : old < m
              · rw [if_pos (.inl hlt1)] at HS hbd
                have t1 : (0 : Int) < (m : Int) - (old : Int) := by omega
                clear hlt1
                go_wp2_with (go_at_call 23; refine (count_any _ _ (by omega)).mono ?_; rintro e w' ⟨rfl, hb'⟩)
                go_roundw
                case rel => exact ⟨k + 1, old, new + (runes tx).length, hlt, by go_num, HN.out.trans HS.out, by omega, by omega, rfl, by go_num, below_two (hb.alloc hb.size _) hb' (Nat.le_refl _)⟩
                case measure => simp [intOf]; omega
              · have t1 : ¬ ((0 : Int) < (m : Int) - (old : Int)) := by omega
                by_cases heq : old = m
                · have t2 : ((m : Int) - (old : Int) == 0) = true := by simp; omega
                  cases push with
                  | true =>
                    rw [if_pos (.inr ⟨heq, rfl⟩)] at HS hbd
                    clear hlt1 heq
                    go_wp2_with (go_at_call 23; refine (count_any _ _ (by omega)).mono ?_; rintro e w' ⟨rfl, hb'⟩)
                    go_roundw
                    case rel => exact ⟨k + 1, old, new + (runes tx).length, hlt, by go_num, HN.out.trans HS.out, by omega, by omega, rfl, by go_num, below_two (hb.alloc hb.size _) hb' (Nat.le_refl _)⟩
                    case measure => simp [intOf]; omega
                  | false =>
                    rw [if_neg (by simp; omega)] at HS hbd
                    clear hlt1 heq
                    go_wp2
                    go_roundw
                    case rel => exact ⟨k + 1, old, new, hlt, by go_num, HN.out.trans HS.out, by omega, by omega, rfl, rfl, hb.alloc hb.size _⟩
                    case measure => simp [intOf]; omega
                · have t2 : ((m : Int) - (old : Int) == 0) = false := by simp; omega
                  rw [if_neg (by omega)] at HS hbd
                  clear hlt1 heq
                  go_wp2
                  go_roundw
                  case rel => exact ⟨k + 1, old, new, hlt, by go_num, HN.out.trans HS.out, by omega, by omega, rfl, rfl, hb.alloc hb.size _⟩
                  case measure => simp [intOf]; omega
            · obtain ⟨h1, h2, _⟩ := g.count (by simp)
              simp only at h1 h2
              obtain ⟨q, rfl⟩ : ∃ q : Nat, n = q := ⟨n.toNat, by omega⟩
              have HS : Hid ((stepsOf ⟨3, (q : Int), tx⟩).foldl (moveStep m push) (old, new) = (old + q, new)) := move_del m push q old new
              rw [HS.out] at hbd
              simp only at hbd
              go_wp2
              go_roundw
              case rel =>
                refine ⟨k + 1, old + q, new, hlt, by go_num, HN.out.trans HS.out, by omega, by omega, ?_, rfl, hb.alloc hb.size _⟩
                go_num
              case measure => simp [intOf]; omega
        · obtain rfl : k = ps.length := by omega
          have hfin := HM.out
          rw [List.take_length] at hfin
          go_wp2
          go_ret2
          rw [hfin]
          exact ⟨rfl, hb⟩
  · have hE : moveErr at_ ps = opErr ps := by unfold moveErr; rw [if_pos h0]
    have hR : moveRes at_ ps push = 0 := by unfold moveRes; rw [hE, if_pos h0]
    rw [hE, hR]
    generalize opErr ps = E at *
    have g0 : (E != 0) = true := by simpa using h0
    clear h0 hE hR hs
    go_enter Tryd.func11, Tryd.ntmps11
    go_wp2_with (go_at_call 21; refine cC.mono ?_; rintro e w' ⟨rfl, hb⟩)
    go_ret2
    exact ⟨rfl, hb⟩

end Go.Proofs.YtodnocplljkjnaaDoor
