/-
  Walk: wherryref.Moved.
-/
import Derived.Test.YtpiijhkohjnnhabDoorOpFault
import Derived.Test.YtpiijhkohjnnhabDoorStepsWalk
import Derived.Test.YtpiijhkohjnnhabDoorPureMove
namespace Go.Proofs.YtpiijhkohjnnhabDoor
open Go.RowKit

/-- the cells of an owned row of steps -/
theorem own_step {w : World} {B : Nat} {v : Value} {l : List Step} (h : w.ownsRow B 56 2 v l.length (stepCells l)) (hl : 0 < l.length) :
    ∃ g cap, v = .slice (some ⟨g, 0, none⟩) l.length cap ∧ ∀ i (hi : i < l.length), w.cell? ⟨g, i * 2, none⟩ = some (.int .i64 l[i].1) ∧ w.cell? ⟨g, i * 2 + 1, none⟩ = some (.int .i32 l[i].2) := by
  obtain ⟨g, cap, rfl, hB, hlt⟩ := h.form hl
  refine ⟨g, cap, rfl, fun i hi => ?_⟩
  have hc := h.cells (g := g) rfl
  have key : ∀ (l : List Step) (i : Nat) (hi : i < l.length), (stepCells l)[i * 2]? = some (.int .i64 l[i].1) ∧ (stepCells l)[i * 2 + 1]? = some (.int .i32 l[i].2) := by
    intro l
    induction l with
    | nil => intro i hi; simp at hi
    | cons s l ih =>
      intro i hi
      have e : stepCells (s :: l) = Value.int .i64 s.1 :: Value.int .i32 s.2 :: stepCells l := by simp [stepCells]
      rw [e]
      cases i with
      | zero => simp
      | succ i =>
        have := ih i (by simpa using hi)
        rw [show (i + 1) * 2 = i * 2 + 1 + 1 by omega]
        simpa using this
  obtain ⟨k1, k2⟩ := key l i hi
  have h1 := hc _ _ k1
  have h2 := hc _ _ k2
  rw [WideShapes.add_plain] at h1 h2
  simp only [Nat.zero_add] at h1 h2
  exact ⟨h1, h2⟩

/-- A slice of steps in memory: its cells, two a step. -/
def StepsAt (w : World) (a : Option Addr) (l : List Step) : Prop :=
  l = [] ∨ ∃ g, a = some ⟨g, 0, none⟩ ∧ g < w.heap.size ∧ ∀ i (h : i < l.length), w.cell? ⟨g, i * 2, none⟩ = some (.int .i64 l[i].1) ∧ w.cell? ⟨g, i * 2 + 1, none⟩ = some (.int .i32 l[i].2)
theorem own_stepsAt {w : World} {B : Nat} {v : Value} {l : List Step} (h : w.ownsRow B 56 2 v l.length (stepCells l)) : ∃ a cap, v = .slice a l.length cap ∧ StepsAt w a l := by
  by_cases hl : 0 < l.length
  · obtain ⟨g, cap, rfl, hc⟩ := own_step h hl
    exact ⟨_, cap, rfl, .inr ⟨g, rfl, (h.lt g rfl).2, hc⟩⟩
  · have hz : l = [] := List.length_eq_zero_iff.1 (by omega)
    subst hz
    rcases h.2 with ⟨rfl, _⟩ | ⟨g, cap, cur, rfl, _⟩
    · exact ⟨none, 0, rfl, .inl rfl⟩
    · exact ⟨_, cap, rfl, .inl rfl⟩

set_option maxHeartbeats 1000000 in
theorem moved_any (at_ : Int) (ps : List Part) (a : Option Addr) (cap : Nat) (push : Bool) (w : World) (hop : OpAt w a ps) (hn : ps.length ≤ 1048576) (hs : ∀ p ∈ ps, PartOk 1048576 p) (hT : Tabs w) :
    Calls Tryd.prog 14 #[.int .i64 at_, .slice a ps.length cap, .bool push] w fun e w' => e = .returned (.tuple #[.int .i64 (moveRes at_ ps push), .int .i64 (moveErr at_ ps)]) ∧ Below w.heap.size w w' := by
  have hs1 : ∀ p ∈ ps, p.text.size ≤ 70368744177664 := fun p hp => by have := (hs p hp).2.2; omega
  have cC := opFault_any ps a cap w hop (by omega) hs1 hT
  by_cases h0 : opErr ps = 0
  · have hok := opErr_zero h0
    have hl := hok.lens
    rw [h0] at cC
    by_cases hr : at_ < 0 ∨ (lens ps).1 < at_
    · have hE : moveErr at_ ps = 2 := by unfold moveErr; rw [if_neg (by omega), if_pos hr]
      have hR : moveRes at_ ps push = 0 := by unfold moveRes; rw [hE, if_pos (by omega)]
      rw [hE, hR]
      clear hE hR h0
      go_enter Tryd.func14, Tryd.ntmps14
      go_wp2_with fail
      refine cC.mono ?_
      rintro e w1 ⟨rfl, hb1⟩
      have cL := lengthsOf_any ps a cap w1 (hop.below hb1) (by omega) hs1
      have hin : decide ((0 : Int) ≤ at_ ∧ at_ ≤ (lens ps).1) = false := by simp; omega
      generalize lens ps = L at *
      obtain ⟨f, t⟩ := L
      simp only at hin cL
      clear hop hs hs1 hr hl
      go_wp2_with fail
      refine cL.mono ?_
      rintro e w2 ⟨rfl, hb2⟩
      go_wp2_with (go_at_call 34; refine (in_known _ _ _ _ _ hin).mono ?_; rintro e w' ⟨rfl, rfl⟩)
      go_ret2
      exact ⟨rfl, below_two hb1 hb2 (Nat.le_refl _)⟩
    · have hE : moveErr at_ ps = 0 := by unfold moveErr; rw [if_neg (by omega), if_neg hr]
      have hR : moveRes at_ ps push = ((moveAll at_.toNat push (steps ps)).2 : Int) := by unfold moveRes; rw [hE, if_neg (by omega)]
      rw [hE, hR]
      clear hE hR h0
      obtain ⟨m, rfl⟩ : ∃ m : Nat, at_ = m := ⟨at_.toNat, by omega⟩
      rw [Int.toNat_natCast]
      rw [hl] at hr
      simp only at hr
      have hfr := hok.from_le
      have hm : m ≤ 4000 := by omega
      obtain ⟨l, hl0⟩ : ∃ l, l = steps ps := ⟨_, rfl⟩
      have hsl := hok.steps_le
      rw [← hl0] at hsl ⊢
      have HLS : Hid (l = steps ps) := hl0
      clear hl0
      go_enter Tryd.func14, Tryd.ntmps14
      go_wp2_with fail
      refine cC.mono ?_
      rintro e w1 ⟨rfl, hb1⟩
      have cL := lengthsOf_any ps a cap w1 (hop.below hb1) (by omega) hs1
      rw [hl] at cL
      clear hl
      have hin : decide ((0 : Int) ≤ (m : Int) ∧ (m : Int) ≤ (fromN ps : Int)) = true := by simp; omega
      go_wp2_with fail
      refine cL.mono ?_
      rintro e w2 ⟨rfl, hb2⟩
      have hb : Below w.heap.size w w2 := below_two hb1 hb2 (Nat.le_refl _)
      have cS := steps_any ps a cap w2 (hop.below hb) hok (fun p hp => (hs p hp).2.2)
      rw [← HLS.out] at cS
      clear hr hs hs1 hop cL cC hok hT hfr HLS
      go_wp2_with (first | (go_at_call 34; refine (in_known _ _ _ _ _ hin).mono ?_; rintro e w' ⟨rfl, rfl⟩) | (go_at_call 31; refine cS.mono ?_; rintro e w3 ⟨v, rfl, hown, hb3⟩))
      clear cS hin
      have hbw : Below w.heap.size w w3 := below_two hb hb3 (Nat.le_refl _)
      obtain ⟨av, capv, rfl, hst⟩ := own_stepsAt hown
      clear hown hb hb1 hb2 hb3
      go_loopw [12, 13, 14] (fun ov nv i wr => ∃ (k old new : Nat), k ≤ l.length ∧ i = .int .i64 k ∧ Hid (moveAll m push (l.take k) = (old, new)) ∧ old ≤ 8000 ∧ new ≤ 8000 ∧ ov = .int .i64 old ∧ nv = .int .i64 new ∧ wr = w3) (fun _ _ i _ => l.length - (intOf i).toNat)
      case atStart => exact ⟨0, 0, 0, Nat.zero_le _, rfl, rfl, by omega, by omega, rfl, rfl, rfl⟩
      case round =>
        obtain ⟨k, old, new, hk, rfl, HM, ho, hn', rfl, rfl, rfl⟩ := hrel
        by_cases hlt : k < l.length
        · have hbd := moveAll_bound m push (l.take (k + 1))
          have htl : (l.take (k + 1)).length ≤ 8000 := by rw [List.length_take]; omega
          have HN : Hid (moveAll m push (l.take (k + 1)) = moveStep m push (old, new) l[k]) := by
            show _ = _
            rw [List.take_succ_eq_append_getElem hlt, moveAll_append, HM.out]
            rfl
          rw [HN.out] at hbd
          rcases hst with rfl | ⟨g, rfl, hgl, hcell⟩
          · simp at hlt
          · obtain ⟨c0, c1⟩ := hcell k hlt
            clear hcell HM
            generalize l[k] = s at *
            obtain ⟨kd, r⟩ := s
            simp only at c0 c1
            by_cases h2 : kd = 2
            · subst h2
              have HS : Hid (moveStep m push (old, new) (2, r) = (old, if old < m ∨ (old = m ∧ push = true) then new + 1 else new)) := by show _ = _; simp [moveStep]
              rw [HS.out] at hbd
              simp only at hbd
              by_cases hlt1 : old < m
              · rw [if_pos (.inl hlt1)] at HS hbd
                go_wp2
                go_roundw
                case rel => exact ⟨k + 1, old, new + 1, hlt, by go_num, HN.out.trans HS.out, by omega, by omega, by go_num, by go_num, trivial⟩
                case measure => simp [intOf]; omega
              · by_cases heq : old = m
                · subst heq
                  cases push with
                  | true =>
                    rw [if_pos (.inr ⟨rfl, rfl⟩)] at HS hbd
                    go_wp2
                    go_roundw
                    case rel => exact ⟨k + 1, old, new + 1, hlt, by go_num, HN.out.trans HS.out, by omega, by omega, by go_num, by go_num, trivial⟩
                    case measure => simp [intOf]; omega
                  | false =>
                    rw [if_neg (by simp)] at HS hbd
                    go_wp2
                    go_roundw
                    case rel => exact ⟨k + 1, old, new, hlt, by go_num, HN.out.trans HS.out, by omega, by omega, by go_num, by go_num, trivial⟩
                    case measure => simp [intOf]; omega
                · rw [if_neg (by omega)] at HS hbd
                  have t2 : (old == m) = false := by simpa using heq
                  go_wp2
                  go_roundw
                  case rel => exact ⟨k + 1, old, new, hlt, by go_num, HN.out.trans HS.out, by omega, by omega, by go_num, by go_num, trivial⟩
                  case measure => simp [intOf]; omega
            · have g2 : (kd == 2) = false := by simpa using h2
              have HS : Hid (moveStep m push (old, new) (kd, r) = (old + 1, if kd = 1 ∧ old < m then new + 1 else new)) := by show _ = _; simp [moveStep, h2]
              rw [HS.out] at hbd
              simp only at hbd
              by_cases h1 : kd = 1
              · subst h1
                by_cases hlt1 : old < m
                · rw [if_pos ⟨rfl, hlt1⟩] at HS hbd
                  go_wp2
                  go_roundw
                  case rel => exact ⟨k + 1, old + 1, new + 1, hlt, by go_num, HN.out.trans HS.out, by omega, by omega, by go_num, by go_num, trivial⟩
                  case measure => simp [intOf]; omega
                · rw [if_neg (by omega)] at HS hbd
                  go_wp2
                  go_roundw
                  case rel => exact ⟨k + 1, old + 1, new, hlt, by go_num, HN.out.trans HS.out, by omega, by omega, by go_num, by go_num, trivial⟩
                  case measure => simp [intOf]; omega
              · rw [if_neg (by omega)] at HS hbd
                have g1 : (kd == 1) = false := by simpa using h1
                clear h1 h2
                go_wp2
                go_roundw
                case rel => exact ⟨k + 1, old + 1, new, hlt, by go_num, HN.out.trans HS.out, by omega, by omega, by go_num, by go_num, trivial⟩
                case measure => simp [intOf]; omega
        · obtain rfl : k = l.length := by omega
          have hfin := HM.out
          rw [List.take_length] at hfin
          go_wp2
          go_ret2
          rw [hfin]
          exact ⟨rfl, hbw⟩
  · have hE : moveErr at_ ps = opErr ps := by unfold moveErr; rw [if_pos h0]
    have hR : moveRes at_ ps push = 0 := by unfold moveRes; rw [hE, if_pos h0]
    rw [hE, hR]
    generalize opErr ps = E at *
    have g0 : (E != 0) = true := by simpa using h0
    have g1 : (E == 0) = false := by simpa using h0
    clear h0 hE hR
    go_enter Tryd.func14, Tryd.ntmps14
    go_wp2_with fail
    refine cC.mono ?_
    rintro e w1 ⟨rfl, hb1⟩
    have cL := lengthsOf_any ps a cap w1 (hop.below hb1) (by omega) hs1
    generalize lens ps = L at *
    obtain ⟨f, t⟩ := L
    simp only at cL
    clear hop hs hs1
    go_wp2_with fail
    refine cL.mono ?_
    rintro e w2 ⟨rfl, hb2⟩
    go_wp2
    go_ret2
    exact ⟨rfl, below_two hb1 hb2 (Nat.le_refl _)⟩

end Go.Proofs.YtpiijhkohjnnhabDoor
