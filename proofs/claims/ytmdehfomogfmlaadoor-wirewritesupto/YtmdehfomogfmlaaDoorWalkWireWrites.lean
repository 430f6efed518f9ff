/-
  Walk: wherrylaw.WireWrites.
-/
import Derived.Test.YtmdehfomogfmlaaDoorRecBytes
namespace Go.Proofs.YtmdehfomogfmlaaDoor
open Go.RowKit Go.Lib

set_option maxRecDepth 100000 in
set_option maxHeartbeats 2000000 in
theorem wireWrites_walk (e : Int) (ps : List Part) (a : Option Addr) (c : Nat) (w : World) (ho : OpVal w (.slice a ps.length c) ps) (hso : OpSmall ps) (hT : Tabs w) :
    Calls Tryd.prog 11 #[.agg #[.int .i64 e, .slice a ps.length c]] w fun r w' => r = .returned (.bool true) ∧ Below w.heap.size w w' := by
  have hb0 := (Below.refl w.heap.size w).alloc (Nat.le_refl _) (.cells #[.int .i64 e, .slice a ps.length c] 85)
  have hblk := heap_alloc_new w (.cells #[.int .i64 e, .slice a ps.length c] 85)
  have hop : OpAt w a ps := by
    obtain ⟨a', c', he, h, _, _⟩ := ho.form
    simp only [Value.slice.injEq, true_and] at he
    obtain ⟨rfl, rfl⟩ := he
    exact h
  have h1 := hso.1
  have h2 : ∀ p ∈ ps, p.text.size ≤ 1048576 := fun p hp => (hso.2 p hp).2.2
  have h3 : ∀ p ∈ ps, p.text.size ≤ 70368744177664 := fun p hp => by have := h2 p hp; omega
  obtain ⟨q0, ql0, _⟩ := blk hblk
  by_cases herr : recordErr e ps = 0
  · have c1 := encodeRecord_ok e ps a c _ (hop.below hb0) h2 (hT.below hb0) herr
    have c2 := fun w1 (hb : Below w.heap.size w w1) => recordBytes_ok e ps a c w1 (hop.below hb) h2 (hT.below hb) herr
    generalize recW e.toNat ps = L at *
    clear ho hso hop h1 h2 h3 hT herr
    go_enter Tryd.func11, Tryd.ntmps11
    go_wp2_with fail
    refine c1.mono ?_
    rintro r w1 ⟨v1, rfl, hown1, hb1⟩
    have HB1 := below_two hb0 hb1 (Nat.le_refl _)
    have fc := (hb1.block _ ql0).trans hblk
    obtain ⟨a1, d1, rfl, _, hby1, _⟩ := srcB_own hown1
    have c2' := c2 w1 HB1
    clear c1 c2 hblk q0 ql0 hown1 hb1
    obtain ⟨q1, ql1, _⟩ := blk fc
    go_wp2_with fail
    refine c2'.mono ?_
    rintro r w2 ⟨v2, rfl, hown2, hb2⟩
    have HB2 := below_two HB1 hb2 (Nat.le_refl _)
    obtain ⟨a2, d2, rfl, _, hby2, _⟩ := srcB_own hown2
    have hc1 := conv_bytes (hby1.below hb2) d1
    have hc2 := conv_bytes hby2 d2
    clear c2' q1 ql1 hown2 hb2 hby1 hby2 fc
    go_wp2_with fail
    go_ret
    exact ⟨by simp, HB2⟩
  · have c1 := encodeRecord_bad e ps a c _ (hop.below hb0) (by omega) h3 (hT.below hb0) herr
    have c2 := fun w1 (hb : Below w.heap.size w w1) => recordBytes_bad e ps a c w1 (hop.below hb) (by omega) h3 (hT.below hb) herr
    generalize recordErr e ps = er at *
    clear ho hso hop h1 h2 h3 hT herr
    go_enter Tryd.func11, Tryd.ntmps11
    go_wp2_with fail
    refine c1.mono ?_
    rintro r w1 ⟨rfl, hb1⟩
    have HB1 := below_two hb0 hb1 (Nat.le_refl _)
    have fc := (hb1.block _ ql0).trans hblk
    have c2' := c2 w1 HB1
    clear c1 c2 hblk q0 ql0 hb1
    obtain ⟨q1, ql1, _⟩ := blk fc
    go_wp2_with fail
    refine c2'.mono ?_
    rintro r w2 ⟨rfl, hb2⟩
    have HB2 := below_two HB1 hb2 (Nat.le_refl _)
    have hc1 : (convert 80 9 (.slice none 0 0)).run Tryd.prog w2 = .ok (.string (bstr [])) w2 := conv_bytes (.inl rfl) 0
    clear c2' q1 ql1 hb2 fc
    go_wp2_with fail
    go_ret
    exact ⟨by simp, HB2⟩

end Go.Proofs.YtmdehfomogfmlaaDoor
