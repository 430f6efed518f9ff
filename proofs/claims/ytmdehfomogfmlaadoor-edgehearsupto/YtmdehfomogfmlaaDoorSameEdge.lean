/-
  Walks: wherrylaw.sameOps, sameEdge.
-/
import Derived.Test.YtmdehfomogfmlaaDoorRowOps
import Derived.Test.YtmdehfomogfmlaaDoorSameOp
import Derived.Deep.LoopGhost
import Derived.Deep.RegionHeld3
namespace Go.Proofs.YtmdehfomogfmlaaDoor
open Go.RowKit Go.Lib

set_option maxRecDepth 100000 in
set_option maxHeartbeats 2000000 in
theorem sameOps_true (E : List (List Part)) (vs us : List Value) (a b : Option Addr) (c d : Nat) (w : World) (ha : PendAt w a c E vs) (hb : PendAt w b d E us) (hE : ∀ q ∈ E, q.length ≤ 1048577) (hn : E.length ≤ 1048577) :
    Calls Tryd.prog 70 #[.slice a E.length c, .slice b E.length d] w fun e w' => e = .returned (.bool true) ∧ Below w.heap.size w w' := by
  have g0 : ((E.length : Int) != (E.length : Int)) = false := by simp
  go_enter Tryd.func70, Tryd.ntmps70
  go_wp2_with fail
  go_loopg [5] E.length (fun g iv wr => ∃ j : Nat, j + g = E.length ∧ iv = .int .i64 (j : Int) ∧ Below w.heap.size w wr)
  case atStart => exact ⟨0, by omega, rfl, Below.refl _ _⟩
  case round =>
    obtain ⟨j, hj, rfl, HB⟩ := hrel
    by_cases hlt : j < E.length
    · have hjz : (j : Int) < (E.length : Int) := by omega
      have hj0 : (0 : Int) ≤ (j : Int) := by omega
      have h1 : j < vs.length := by rw [ha.len]; exact hlt
      have h2 : j < us.length := by rw [hb.len]; exact hlt
      have ha' := ha.below HB
      have hb' := hb.below HB
      have hov := ha'.each j hlt h1
      have how := hb'.each j hlt h2
      rcases ha'.vals with h0 | ⟨b1, o1, rfl, hl1, hc1⟩
      · rw [h0] at h1; simp at h1
      · rcases hb'.vals with h0 | ⟨b2, o2, rfl, hl2, hc2⟩
        · rw [h0] at h2; simp at h2
        · have q1 := hc1 j h1
          have q2 := hc2 j h2
          obtain ⟨a1, c1, e1, p1, _, _⟩ := hov.form
          obtain ⟨a2, c2, e2, p2, _, _⟩ := how.form
          rw [e1] at q1
          rw [e2] at q2
          have hql := hE _ (List.getElem_mem hlt)
          clear hc1 hc2 e1 e2 hov how ha' hb'
          generalize E[j] = ps at *
          have cS := fun (wx : World) (hx : Below wr.heap.size wr wx) => sameOp_true ps a1 a2 c1 c2 wx (p1.below hx) (p2.below hx) (by omega)
          have hdd : Below wr.heap.size wr wr.drew := ⟨rfl, rfl, rfl, Nat.le_refl _, fun _ _ => rfl⟩
          have cS1 := cS wr.drew hdd
          have hS0 : (fun w' => w'.cell? ⟨b1, o1 + j, none⟩ = some (.slice a1 ps.length c1) ∧ w'.cell? ⟨b2, o2 + j, none⟩ = some (.slice a2 ps.length c2)) wr.drew := ⟨q1, q2⟩
          have keep : ∀ {w' : World}, Below wr.drew.heap.size wr.drew w' → (fun w' => w'.cell? ⟨b1, o1 + j, none⟩ = some (.slice a1 ps.length c1) ∧ w'.cell? ⟨b2, o2 + j, none⟩ = some (.slice a2 ps.length c2)) w' := fun {w'} hb => ⟨(hb.cell (p := ⟨b1, o1 + j, none⟩) hl1).trans q1, (hb.cell (p := ⟨b2, o2 + j, none⟩) hl2).trans q2⟩
          clear cS
          go_wp2_with fail
          go_region_held3 (fun w' => w'.cell? ⟨b1, o1 + j, none⟩ = some (.slice a1 ps.length c1) ∧ w'.cell? ⟨b2, o2 + j, none⟩ = some (.slice a2 ps.length c2)) (with_reducible first | exact hS0 | exact keep hb2) (first | (go_at_call 33; with_reducible refine Calls.mono cS1 ?_; rintro e w2 ⟨rfl, hb2⟩))
          have HB2 := below_two HB (below_two hdd hb2 (Nat.le_refl _)) (Nat.le_refl _)
          go_wp2_with fail
          go_roundg (E.length - j - 1)
          case measure => omega
          case rel => exact ⟨j + 1, by omega, by go_num, HB2⟩
    · have hjz : ¬ (j : Int) < (E.length : Int) := by omega
      go_wp2_with fail
      go_ret
      exact ⟨rfl, HB⟩

set_option maxRecDepth 100000 in
set_option maxHeartbeats 1000000 in
theorem sameEdge_true (sent heard : Int) (E : List (List Part)) (vs us : List Value) (a b : Option Addr) (c d : Nat) (w : World) (ha : PendAt w a c E vs) (hb : PendAt w b d E us) (hE : ∀ q ∈ E, q.length ≤ 1048577) (hn : E.length ≤ 1048577) :
    Calls Tryd.prog 31 #[.agg #[.int .i64 sent, .int .i64 heard, .slice a E.length c], .agg #[.int .i64 sent, .int .i64 heard, .slice b E.length d]] w fun e w' => e = .returned (.bool true) ∧ Below w.heap.size w w' := by
  have hb1 := (Below.refl w.heap.size w).alloc (Nat.le_refl _) (.cells #[.int .i64 sent, .int .i64 heard, .slice a E.length c] 26)
  have hp := row_old (heap_alloc_new w (.cells #[.int .i64 sent, .int .i64 heard, .slice a E.length c] 26)) (.cells #[.int .i64 sent, .int .i64 heard, .slice b E.length d] 26)
  have hq := heap_alloc_new (w.alloc (.cells #[.int .i64 sent, .int .i64 heard, .slice a E.length c] 26)) (.cells #[.int .i64 sent, .int .i64 heard, .slice b E.length d] 26)
  rw [show (w.alloc (.cells #[.int .i64 sent, .int .i64 heard, .slice a E.length c] 26)).heap.size = w.heap.size + 1 by simp] at hq
  have HB := hb1.alloc hb1.size (.cells #[.int .i64 sent, .int .i64 heard, .slice b E.length d] 26)
  obtain ⟨p0, _, _⟩ := blk hp
  obtain ⟨q0, _, _⟩ := blk hq
  have cS := sameOps_true E vs us a b c d _ (ha.below HB) (hb.below HB) hE hn
  clear hb1 hp hq
  go_enter Tryd.func31, Tryd.ntmps31
  go_wp2_with fail
  refine cS.mono ?_
  rintro r w1 ⟨rfl, hb1⟩
  go_wp2_with fail
  go_ret
  exact ⟨by simp, below_two HB hb1 (Nat.le_refl _)⟩

end Go.Proofs.YtmdehfomogfmlaaDoor
