/-
  Walk: wherrylaw.sameRecords.
-/
import Derived.Test.YtknjnfknalfbdaaDoorTapeRow
import Derived.Test.YtknjnfknalfbdaaDoorSameOp
import Derived.Deep.LoopGhost
import Derived.Deep.RegionHeld3
namespace Go.Proofs.YtknjnfknalfbdaaDoor
open Go.RowKit Go.Lib

theorem sr_keep {ga oa gb ob i n : Nat} {ps : List Part} {xa ya : Option Addr} {xc yc : Nat} {w' w'' : World} (h : (fun w' : World => w'.cell? ⟨ga, oa + i * 2, none⟩ = some (.int .i64 (n : Int)) ∧ w'.cell? ⟨ga, oa + i * 2 + 1, none⟩ = some (.slice xa ps.length xc) ∧ w'.cell? ⟨gb, ob + i * 2, none⟩ = some (.int .i64 (n : Int)) ∧ w'.cell? ⟨gb, ob + i * 2 + 1, none⟩ = some (.slice ya ps.length yc)) w') (hla : ga < w'.heap.size) (hlb : gb < w'.heap.size) (hb : Below w'.heap.size w' w'') : (fun w' : World => w'.cell? ⟨ga, oa + i * 2, none⟩ = some (.int .i64 (n : Int)) ∧ w'.cell? ⟨ga, oa + i * 2 + 1, none⟩ = some (.slice xa ps.length xc) ∧ w'.cell? ⟨gb, ob + i * 2, none⟩ = some (.int .i64 (n : Int)) ∧ w'.cell? ⟨gb, ob + i * 2 + 1, none⟩ = some (.slice ya ps.length yc)) w'' :=
  ⟨(hb.cell (p := ⟨ga, oa + i * 2, none⟩) hla).trans h.1, (hb.cell (p := ⟨ga, oa + i * 2 + 1, none⟩) hla).trans h.2.1, (hb.cell (p := ⟨gb, ob + i * 2, none⟩) hlb).trans h.2.2.1, (hb.cell (p := ⟨gb, ob + i * 2 + 1, none⟩) hlb).trans h.2.2.2⟩

set_option maxRecDepth 100000 in
set_option maxHeartbeats 2000000 in
theorem sameRecords_true (A : List RecV) (a b : Option Addr) (c d : Nat) (w : World) (ha : RecsAt w a A) (hb : RecsAt w b A) (hl : A.length ≤ 10000000) (hs : ∀ r ∈ A, r.2.length ≤ 10000) :
    Calls Tryd.prog 47 #[.slice a A.length c, .slice b A.length d] w fun e w' => e = .returned (.bool true) ∧ Below w.heap.size w w' := by
  go_enter Tryd.func47, Tryd.ntmps47
  go_wp2_with fail
  go_loopg [5] A.length (fun g iv wr => ∃ i : Nat, i + g = A.length ∧ iv = .int .i64 (i : Int) ∧ Below w.heap.size w wr)
  case atStart => exact ⟨0, by omega, rfl, Below.refl _ _⟩
  case round =>
    obtain ⟨i, hi, rfl, hbw⟩ := hrel
    by_cases hlt : i < A.length
    · have hiz : (i : Int) < (A.length : Int) := by omega
      have hi0 : (0 : Int) ≤ (i : Int) := by omega
      have hsi := hs A[i] (List.getElem_mem hlt)
      rcases ha with h0 | ⟨ga, oa, rfl, hga, hca⟩
      · subst h0; simp at hlt
      · rcases hb with h0 | ⟨gb, ob, rfl, hgb, hcb⟩
        · subst h0; simp at hlt
        · obtain ⟨xa, xc, a0, a1, hoa⟩ := hca i hlt
          obtain ⟨ya, yc, b0, b1, hob⟩ := hcb i hlt
          clear hca hcb
          generalize A[i] = rc at *
          obtain ⟨n, ps⟩ := rc
          simp only at a0 a1 hoa b0 b1 hob hsi
          have kp : ∀ {v : Value} {g p : Nat}, g < w.heap.size → w.cell? ⟨g, p, none⟩ = some v → wr.drew.cell? ⟨g, p, none⟩ = some v := fun {v g p} hg h => (hbw.cell (p := ⟨g, p, none⟩) hg).trans h
          have hbd := below_two hbw (show Below wr.heap.size wr wr.drew from ⟨rfl, rfl, rfl, Nat.le_refl _, fun _ _ => rfl⟩) (Nat.le_refl _)
          have hS0 : (fun w' : World => w'.cell? ⟨ga, oa + i * 2, none⟩ = some (.int .i64 (n : Int)) ∧ w'.cell? ⟨ga, oa + i * 2 + 1, none⟩ = some (.slice xa ps.length xc) ∧ w'.cell? ⟨gb, ob + i * 2, none⟩ = some (.int .i64 (n : Int)) ∧ w'.cell? ⟨gb, ob + i * 2 + 1, none⟩ = some (.slice ya ps.length yc)) wr.drew := ⟨kp hga a0, kp hga a1, kp hgb b0, kp hgb b1⟩
          have cS := sameOp_true ps xa ya xc yc wr.drew (hoa.below hbd) (hob.below hbd) (by omega)
          have hla := Nat.lt_of_lt_of_le hga hbd.size
          have hlb := Nat.lt_of_lt_of_le hgb hbd.size
          clear kp a0 a1 b0 b1 hoa hob
          go_wp2_with fail
          go_region_held3 (fun w' : World => w'.cell? ⟨ga, oa + i * 2, none⟩ = some (.int .i64 (n : Int)) ∧ w'.cell? ⟨ga, oa + i * 2 + 1, none⟩ = some (.slice xa ps.length xc) ∧ w'.cell? ⟨gb, ob + i * 2, none⟩ = some (.int .i64 (n : Int)) ∧ w'.cell? ⟨gb, ob + i * 2 + 1, none⟩ = some (.slice ya ps.length yc)) (with_reducible first | exact hS0 | assumption | exact sr_keep hS0 hla hlb hbz) (first | (go_at_call 33; with_reducible refine Calls.mono cS ?_; rintro e wz ⟨rfl, hbz⟩))
          have hb9 := below_two hbd hbz (Nat.le_refl _)
          go_wp2_with fail
          go_roundg (A.length - i - 1)
          case measure => omega
          case rel => exact ⟨i + 1, by omega, by go_num, hb9⟩
    · have hiz : ¬ (i : Int) < (A.length : Int) := by omega
      go_wp2_with fail
      go_ret
      exact ⟨by simp, hbw⟩

end Go.Proofs.YtknjnfknalfbdaaDoor
