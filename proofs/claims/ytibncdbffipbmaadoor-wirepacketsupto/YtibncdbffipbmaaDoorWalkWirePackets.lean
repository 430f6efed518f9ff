/-
  Walk: wherrylaw.WirePackets.
-/
import Derived.Test.YtibncdbffipbmaaDoorWirePacket
import Derived.Test.YtibncdbffipbmaaDoorWirePacketF
import Derived.Test.YtibncdbffipbmaaDoorEdgeMem
namespace Go.Proofs.YtibncdbffipbmaaDoor
open Go.RowKit Go.Lib

set_option maxRecDepth 100000 in
set_option maxHeartbeats 1000000 in
theorem wirePackets_walk (ep num : Int) (bare : Bool) (ack k h e : Int) (ps : List Part) (a : Option Addr) (c : Nat) (tx : ByteArray) (w : World) (ho : OpVal w (.slice a ps.length c) ps) (hso : OpSmall ps) (hx : tx.size ≤ 1048576) (hT : Tabs w) :
    Calls Tryd.prog 13 #[.agg #[.int .i64 ep, .int .i64 num, .bool bare, .int .i64 ack, .int .i64 k, .int .i64 h, .int .i64 e, .slice a ps.length c, .string tx]] w fun r w' => r = .returned (.bool true) ∧ Below w.heap.size w w' := by
  have hb0 := (Below.refl w.heap.size w).alloc (Nat.le_refl _) (.cells #[.int .i64 ep, .int .i64 num, .bool bare, .int .i64 ack, .int .i64 k, .int .i64 h, .int .i64 e, .slice a ps.length c, .string tx] 82)
  have hblk := heap_alloc_new w (.cells #[.int .i64 ep, .int .i64 num, .bool bare, .int .i64 ack, .int .i64 k, .int .i64 h, .int .i64 e, .slice a ps.length c, .string tx] 82)
  have hsz : w.heap.size < (w.alloc (.cells #[.int .i64 ep, .int .i64 num, .bool bare, .int .i64 ack, .int .i64 k, .int .i64 h, .int .i64 e, .slice a ps.length c, .string tx] 82)).heap.size := by simp
  have hop : OpAt w a ps := by
    obtain ⟨a', c', he, h, _, _⟩ := ho.form
    simp only [Value.slice.injEq, true_and] at he
    obtain ⟨rfl, rfl⟩ := he
    exact h
  have h1 := hso.1
  have h2 : ∀ p ∈ ps, p.text.size ≤ 70368744177664 := fun p hp => by have := (hso.2 p hp).2.2; omega
  have c1 := checkPacket_any ep num bare ack k h e ps a c tx _ (hop.below hb0) (by omega) h2 (by omega) (hT.below hb0)
  have c2 := fun w1 (hb : Below w.heap.size w w1) => packetFault_any ep num bare ack k h e ps a c tx w1 (hop.below hb) (by omega) h2 (by omega) (hT.below hb)
  generalize packetErr ep num bare ack k h e ps tx = er at *
  clear ho hso hop h1 h2 hT
  go_enter Tryd.func13, Tryd.ntmps13
  go_wp2_with fail
  refine c1.mono ?_
  rintro r w1 ⟨rfl, hb1⟩
  have HB1 := below_two hb0 hb1 (Nat.le_refl _)
  have fc := (hb1.block _ hsz).trans hblk
  have q0 : w1.cell? ⟨w.heap.size, 0, none⟩ = some (.int .i64 ep) := by rw [cell_of_row _ _ _ _ _ _ fc]; rfl
  have q1 : w1.cell? ⟨w.heap.size, 1, none⟩ = some (.int .i64 num) := by rw [cell_of_row _ _ _ _ _ _ fc]; rfl
  have q2 : w1.cell? ⟨w.heap.size, 2, none⟩ = some (.bool bare) := by rw [cell_of_row _ _ _ _ _ _ fc]; rfl
  have q3 : w1.cell? ⟨w.heap.size, 3, none⟩ = some (.int .i64 ack) := by rw [cell_of_row _ _ _ _ _ _ fc]; rfl
  have q4 : w1.cell? ⟨w.heap.size, 4, none⟩ = some (.int .i64 k) := by rw [cell_of_row _ _ _ _ _ _ fc]; rfl
  have q5 : w1.cell? ⟨w.heap.size, 5, none⟩ = some (.int .i64 h) := by rw [cell_of_row _ _ _ _ _ _ fc]; rfl
  have q6 : w1.cell? ⟨w.heap.size, 6, none⟩ = some (.int .i64 e) := by rw [cell_of_row _ _ _ _ _ _ fc]; rfl
  have q7 : w1.cell? ⟨w.heap.size, 7, none⟩ = some (.slice a ps.length c) := by rw [cell_of_row _ _ _ _ _ _ fc]; rfl
  have q8 : w1.cell? ⟨w.heap.size, 8, none⟩ = some (.string tx) := by rw [cell_of_row _ _ _ _ _ _ fc]; rfl
  have c2' := c2 w1 HB1
  clear c1 c2 hblk fc
  go_wp2_with fail
  refine c2'.mono ?_
  rintro r w2 ⟨rfl, hb2⟩
  go_wp2_with fail
  go_ret
  exact ⟨by simp, below_two HB1 hb2 (Nat.le_refl _)⟩

end Go.Proofs.YtibncdbffipbmaaDoor
