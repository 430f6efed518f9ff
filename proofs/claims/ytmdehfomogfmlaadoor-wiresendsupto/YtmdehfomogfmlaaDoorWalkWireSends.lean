/-
  Walk: wherrylaw.WireSends.
-/
import Derived.Test.YtmdehfomogfmlaaDoorPkBytes
import Derived.Test.YtmdehfomogfmlaaDoorEdgeMem
namespace Go.Proofs.YtmdehfomogfmlaaDoor
open Go.RowKit Go.Lib

theorem packetErr_nonneg {ep num : Int} {bare : Bool} {ack k h e : Int} {ps : List Part} {tx : ByteArray} (hz : packetErr ep num bare ack k h e ps tx = 0) : 0 ≤ ep ∧ 0 ≤ num ∧ 0 ≤ ack ∧ 0 ≤ k ∧ 0 ≤ h ∧ 0 ≤ e := by
  unfold packetErr at hz
  split at hz
  · cases hz
  rename_i i1
  split at hz
  · cases hz
  rename_i i2
  split at hz
  · cases hz
  rename_i i3
  have j1 : 0 ≤ ep ∧ ep ≤ 1048576 := of_decide_eq_true (show inN _ = true by simpa using i1)
  have j2 : 0 ≤ num ∧ num ≤ 1048576 := of_decide_eq_true (show inN _ = true by simpa using i2)
  have j3 : 0 ≤ ack ∧ ack ≤ 1048576 := of_decide_eq_true (show inN _ = true by simpa using i3)
  split at hz
  · split at hz
    · rename_i hc
      have := hc.2
      unfold emptyB at this
      simp at this
      omega
    · cases hz
  split at hz
  · cases hz
  split at hz
  · cases hz
  unfold frameErr at hz
  split at hz
  · cases hz
  rename_i hk
  split at hz
  · cases hz
  rename_i hh
  split at hz
  · cases hz
  rename_i he
  have jh : 0 ≤ h ∧ h ≤ 1048576 := of_decide_eq_true (show inN _ = true by simpa using hh)
  have je : 0 ≤ e ∧ e ≤ 1048576 := of_decide_eq_true (show inN _ = true by simpa using he)
  omega

set_option maxRecDepth 100000 in
set_option maxHeartbeats 2000000 in
theorem wireSends_walk (ep num : Int) (bare : Bool) (ack k h e : Int) (ps : List Part) (a : Option Addr) (c : Nat) (tx : ByteArray) (w : World) (ho : OpVal w (.slice a ps.length c) ps) (hso : OpSmall ps) (hxx : tx.size ≤ 1048576) (hT : Tabs w) :
    Calls Tryd.prog 10 #[.agg #[.int .i64 ep, .int .i64 num, .bool bare, .int .i64 ack, .int .i64 k, .int .i64 h, .int .i64 e, .slice a ps.length c, .string tx]] w fun r w' => r = .returned (.bool true) ∧ Below w.heap.size w w' := by
  have hop : OpAt w a ps := by
    obtain ⟨a', c', he, h, _, _⟩ := ho.form
    simp only [Value.slice.injEq, true_and] at he
    obtain ⟨rfl, rfl⟩ := he
    exact h
  have h1 := hso.1
  have h2 : ∀ p ∈ ps, p.text.size ≤ 1048576 := fun p hp => (hso.2 p hp).2.2
  have h3 : ∀ p ∈ ps, p.text.size ≤ 70368744177664 := fun p hp => by have := h2 p hp; omega
  by_cases herr : packetErr ep num bare ack k h e ps tx = 0
  · obtain ⟨n1, n2, n3, n4, n5, n6⟩ := packetErr_nonneg herr
    obtain ⟨ep, rfl⟩ : ∃ m : Nat, ep = (m : Int) := ⟨ep.toNat, by omega⟩
    obtain ⟨num, rfl⟩ : ∃ m : Nat, num = (m : Int) := ⟨num.toNat, by omega⟩
    obtain ⟨ack, rfl⟩ : ∃ m : Nat, ack = (m : Int) := ⟨ack.toNat, by omega⟩
    obtain ⟨k, rfl⟩ : ∃ m : Nat, k = (m : Int) := ⟨k.toNat, by omega⟩
    obtain ⟨h, rfl⟩ : ∃ m : Nat, h = (m : Int) := ⟨h.toNat, by omega⟩
    obtain ⟨e, rfl⟩ : ∃ m : Nat, e = (m : Int) := ⟨e.toNat, by omega⟩
    have hb0 := (Below.refl w.heap.size w).alloc (Nat.le_refl _) (.cells #[.int .i64 (ep : Int), .int .i64 (num : Int), .bool bare, .int .i64 (ack : Int), .int .i64 (k : Int), .int .i64 (h : Int), .int .i64 (e : Int), .slice a ps.length c, .string tx] 79)
    have hblk := heap_alloc_new w (.cells #[.int .i64 (ep : Int), .int .i64 (num : Int), .bool bare, .int .i64 (ack : Int), .int .i64 (k : Int), .int .i64 (h : Int), .int .i64 (e : Int), .slice a ps.length c, .string tx] 79)
    obtain ⟨q0, ql0, _⟩ := blk hblk
    have c1 := encodePacket_ok ⟨ep, num, bare, ack, ⟨k, h, e, ps, tx⟩⟩ a c _ (hop.below hb0) h2 (by simp only; omega) hxx (hT.below hb0) herr
    have c2 := fun w1 (hb : Below w.heap.size w w1) => packetBytes_ok ⟨ep, num, bare, ack, ⟨k, h, e, ps, tx⟩⟩ a c w1 (hop.below hb) h2 (by simp only; omega) hxx (hT.below hb) herr
    generalize packetW ⟨ep, num, bare, ack, ⟨k, h, e, ps, tx⟩⟩ = L at *
    unfold pkVal at c1 c2
    simp only at c1 c2
    clear ho hso hop h1 h2 h3 hT herr n1 n2 n3 n4 n5 n6
    go_enter Tryd.func10, Tryd.ntmps10
    go_wp2_with fail
    refine c1.mono ?_
    rintro r w1 ⟨v1, rfl, hown1, hb1⟩
    have HB1 := below_two hb0 hb1 (Nat.le_refl _)
    have fc := (hb1.block _ ql0).trans hblk
    obtain ⟨a1, d1, rfl, _, hby1, _⟩ := srcB_own hown1
    have c2' := c2 w1 HB1
    clear c1 c2 hblk q0 ql0 hown1 hb1
    obtain ⟨q1, ql1, _⟩ := blk fc
    go_wp2_with fail
    refine c2'.mono ?_
    rintro r w2 ⟨v2, rfl, hown2, hb2⟩
    have HB2 := below_two HB1 hb2 (Nat.le_refl _)
    obtain ⟨a2, d2, rfl, _, hby2, _⟩ := srcB_own hown2
    have hc1 := conv_bytes (hby1.below hb2) d1
    have hc2 := conv_bytes hby2 d2
    clear c2' q1 ql1 hown2 hb2 hby1 hby2 fc
    go_wp2_with fail
    go_ret
    exact ⟨by simp, HB2⟩
  · have hb0 := (Below.refl w.heap.size w).alloc (Nat.le_refl _) (.cells #[.int .i64 ep, .int .i64 num, .bool bare, .int .i64 ack, .int .i64 k, .int .i64 h, .int .i64 e, .slice a ps.length c, .string tx] 79)
    have hblk := heap_alloc_new w (.cells #[.int .i64 ep, .int .i64 num, .bool bare, .int .i64 ack, .int .i64 k, .int .i64 h, .int .i64 e, .slice a ps.length c, .string tx] 79)
    obtain ⟨q0, ql0, _⟩ := blk hblk
    have c1 := encodePacket_bad ep num bare ack k h e ps a c tx _ (hop.below hb0) (by omega) h3 (by omega) (hT.below hb0) herr
    have c2 := fun w1 (hb : Below w.heap.size w w1) => packetBytes_bad ep num bare ack k h e ps a c tx w1 (hop.below hb) (by omega) h3 (by omega) (hT.below hb) herr
    generalize packetErr ep num bare ack k h e ps tx = er at *
    clear ho hso hop h1 h2 h3 hT herr
    go_enter Tryd.func10, Tryd.ntmps10
    go_wp2_with fail
    refine c1.mono ?_
    rintro r w1 ⟨rfl, hb1⟩
    have HB1 := below_two hb0 hb1 (Nat.le_refl _)
    have fc := (hb1.block _ ql0).trans hblk
    have c2' := c2 w1 HB1
    clear c1 c2 hblk q0 ql0 hb1
    obtain ⟨q1, ql1, _⟩ := blk fc
    go_wp2_with fail
    refine c2'.mono ?_
    rintro r w2 ⟨rfl, hb2⟩
    have HB2 := below_two HB1 hb2 (Nat.le_refl _)
    have hc1 : (convert 80 9 (.slice none 0 0)).run Tryd.prog w2 = .ok (.string (bstr [])) w2 := conv_bytes (.inl rfl) 0
    clear c2' q1 ql1 hb2 fc
    go_wp2_with fail
    go_ret
    exact ⟨by simp, HB2⟩

end Go.Proofs.YtmdehfomogfmlaaDoor
