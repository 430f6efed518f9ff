/-
  Walks: link.copyOf; wherryref.FrameCopy.
-/
import Derived.Test.YtnpjcdfkjgenbaaDoorLinkMem
import Derived.Test.YtnpjcdfkjgenbaaDoorOpCopyWalk
import Derived.Deep.LoopGhost
import Derived.Deep.RegionLaw
import Derived.Deep.RegionHeld3
namespace Go.Proofs.YtnpjcdfkjgenbaaDoor
open Go.RowKit Go.Lib

theorem two_blocks (w : World) (o o' : Obj) : ((w.alloc o).alloc o').heap[w.heap.size]? = some o ∧ ((w.alloc o).alloc o').heap[w.heap.size + 1]? = some o' ∧ Below w.heap.size w ((w.alloc o).alloc o') ∧ ((w.alloc o).alloc o').heap.size = w.heap.size + 2 := by
  have h1 := heap_alloc_new (w.alloc o) o'
  rw [show (w.alloc o).heap.size = w.heap.size + 1 by simp] at h1
  have hb := (Below.refl w.heap.size w).alloc (Nat.le_refl _) o
  exact ⟨row_old (heap_alloc_new w o) o', h1, hb.alloc hb.size o', by simp⟩
theorem grown_below {w w' : World} (hg : w.grownBy w' none) : Below w.heap.size w w' := (Below.refl w.heap.size w).grown hg (Nat.le_refl _) (fun k e => by cases e)

set_option maxRecDepth 100000 in
set_option maxHeartbeats 1000000 in
theorem copyOf_any (f : FrI) (v : Value) (w : World) (ho : OpVal w v f.op) (hs : f.op.length ≤ 1048577) :
    Calls Tryd.prog 13 #[.agg #[.int .i64 f.kind, .int .i64 f.heard, .int .i64 f.epoch, v, .string f.text]] w fun r w' => ∃ u, r = .returned (.agg #[.int .i64 f.kind, .int .i64 f.heard, .int .i64 f.epoch, u, .string f.text]) ∧ w'.ownsRow w.heap.size 63 3 u f.op.length (partCells f.op) ∧ Below w.heap.size w w' := by
  obtain ⟨a, c, rfl, hop, _, hsr⟩ := ho.form
  obtain ⟨hpar, hres, HB0, hz⟩ := two_blocks w (.cells #[.int .i64 f.kind, .int .i64 f.heard, .int .i64 f.epoch, .slice a f.op.length c, .string f.text] 28) (.cells #[.int .i64 0, .int .i64 0, .int .i64 0, .slice none 0 0, .string ⟨#[]⟩] 28)
  have hsr0 := srcOp_below hsr hop HB0
  have hzw : w.heap.size ≤ ((w.alloc (.cells #[.int .i64 f.kind, .int .i64 f.heard, .int .i64 f.epoch, .slice a f.op.length c, .string f.text] 28)).alloc (.cells #[.int .i64 0, .int .i64 0, .int .i64 0, .slice none 0 0, .string ⟨#[]⟩] 28)).heap.size := HB0.size
  obtain ⟨q0, ql0, _⟩ := blk hpar
  clear hz hop hsr ho
  go_enter Tryd.func13, Tryd.ntmps13
  go_wp2_with (at_builtin; refine wpList_append_op rfl _ _ rfl w.heap.size hzw (.slice none 0 0) 0 [] rfl (World.ownsRow_nil _ _ _ _) a c f.op rfl hsr0 (by omega) ?_; intro v1 w1 hown hgr hmv; clear hmv; rw [Nat.zero_add, List.nil_append] at hown; have hof := own_form hown; obtain ⟨va, vc, rfl⟩ := hof; have hb1 := grown_below hgr; have HB1 := below_two HB0 hb1 (Nat.le_refl _); have hpar1 := (hb1.block _ ql0).trans hpar; have hres1 := (hb1.block _ (Array.getElem?_eq_some_iff.1 hres).1).trans hres; have hp2 : (w1.setCell ⟨w.heap.size, 3, none⟩ (.slice va f.op.length vc)).heap[w.heap.size]? = some (.cells #[.int .i64 f.kind, .int .i64 f.heard, .int .i64 f.epoch, .slice va f.op.length vc, .string f.text] 28 (0, 0)) := (blk_put hpar1 3 (.slice va f.op.length vc)).1; have hs2 := (blk_put hpar1 3 (.slice va f.op.length vc)).2; have hres2 := hs2.row hres1 (by omega); have g1 := blk hpar1; obtain ⟨p1, pl1, pf1⟩ := g1; have g2 := blk hp2; obtain ⟨p2, pl2, pf2⟩ := g2; have g3 := blk hres1; obtain ⟨r1, rl1, rf1⟩ := g3; have g4 := blk hres2; obtain ⟨r2, rl2, rf2⟩ := g4; clear q0)
  generalize ((w.alloc (.cells #[.int .i64 f.kind, .int .i64 f.heard, .int .i64 f.epoch, .slice a f.op.length c, .string f.text] 28)).alloc (.cells #[.int .i64 0, .int .i64 0, .int .i64 0, .slice none 0 0, .string ⟨#[]⟩] 28)) = w0 at *
  have hown2 := own_chg hown hs2 (fun k hk e => row_ne hown hpar1 (by decide) (by rw [← e]; exact hk.symm))
  have HB2 := HB1.trans (hs2.below (B := w.heap.size) (fun i e => by omega) HB1.size)
  obtain ⟨hfin, hch⟩ := puts_all hres2 [.int .i64 f.kind, .int .i64 f.heard, .int .i64 f.epoch, .slice va f.op.length vc, .string f.text] rfl
  simp only [puts, Nat.zero_add, Nat.reduceAdd] at hfin hch
  have hown3 := own_chg hown2 hch (fun k hk e => row_ne hown2 hres2 (by decide) (by rw [← e]; exact hk.symm))
  have HB3 := HB2.trans (hch.below (B := w.heap.size) (fun i e => by omega) HB2.size)
  generalize ((((((w1.setCell ⟨w.heap.size, 3, none⟩ (.slice va f.op.length vc)).setCell ⟨w.heap.size + 1, 0, none⟩ (.int .i64 f.kind)).setCell ⟨w.heap.size + 1, 1, none⟩ (.int .i64 f.heard)).setCell ⟨w.heap.size + 1, 2, none⟩ (.int .i64 f.epoch)).setCell ⟨w.heap.size + 1, 3, none⟩ (.slice va f.op.length vc)).setCell ⟨w.heap.size + 1, 4, none⟩ (.string f.text)) = w9 at *
  obtain ⟨t9, _, _⟩ := blk hfin
  exact bodyPost_ret (v := .agg #[.int .i64 f.kind, .int .i64 f.heard, .int .i64 f.epoch, .slice va f.op.length vc, .string f.text]) (by simp [results, Tryd.results13, go_sem, t9]) rfl ⟨.slice va f.op.length vc, rfl, hown3, HB3⟩

set_option maxRecDepth 100000 in
set_option maxHeartbeats 1000000 in
theorem frameCopy_any (f : FrI) (v : Value) (w : World) (ho : OpVal w v f.op) (hs : f.op.length ≤ 1048576) :
    Calls Tryd.prog 19 #[.agg #[.int .i64 f.kind, .int .i64 f.heard, .int .i64 f.epoch, v, .string f.text]] w fun r w' => ∃ u, r = .returned (.agg #[.int .i64 f.kind, .int .i64 f.heard, .int .i64 f.epoch, u, .string f.text]) ∧ w'.ownsRow w.heap.size 63 3 u f.op.length (partCells f.op) ∧ Below w.heap.size w w' := by
  obtain ⟨a, c, rfl, hop, _, hsr⟩ := ho.form
  obtain ⟨hpar, hres, HB0, hz⟩ := two_blocks w (.cells #[.int .i64 f.kind, .int .i64 f.heard, .int .i64 f.epoch, .slice a f.op.length c, .string f.text] 28) (.cells #[.int .i64 0, .int .i64 0, .int .i64 0, .slice none 0 0, .string ⟨#[]⟩] 28)
  have hzw : w.heap.size ≤ ((w.alloc (.cells #[.int .i64 f.kind, .int .i64 f.heard, .int .i64 f.epoch, .slice a f.op.length c, .string f.text] 28)).alloc (.cells #[.int .i64 0, .int .i64 0, .int .i64 0, .slice none 0 0, .string ⟨#[]⟩] 28)).heap.size := HB0.size
  have cC := opCopy_any f.op a c _ (hop.below HB0) hs
  obtain ⟨q0, ql0, _⟩ := blk hpar
  clear hz hop hsr ho
  go_enter Tryd.func19, Tryd.ntmps19
  go_wp2_with fail
  refine cC.mono ?_
  rintro r w1 ⟨v1, rfl, hown, hb1⟩
  clear cC
  generalize ((w.alloc (.cells #[.int .i64 f.kind, .int .i64 f.heard, .int .i64 f.epoch, .slice a f.op.length c, .string f.text] 28)).alloc (.cells #[.int .i64 0, .int .i64 0, .int .i64 0, .slice none 0 0, .string ⟨#[]⟩] 28)) = w0 at *
  replace hown := own_base hown hzw
  have HB1 := below_two HB0 hb1 (Nat.le_refl _)
  have hpar1 := (hb1.block _ ql0).trans hpar
  have hres1 := (hb1.block _ (Array.getElem?_eq_some_iff.1 hres).1).trans hres
  obtain ⟨va, vc, rfl⟩ := own_form hown
  have hp2 : (w1.setCell ⟨w.heap.size, 3, none⟩ (.slice va f.op.length vc)).heap[w.heap.size]? = some (.cells #[.int .i64 f.kind, .int .i64 f.heard, .int .i64 f.epoch, .slice va f.op.length vc, .string f.text] 28 (0, 0)) := (blk_put hpar1 3 (.slice va f.op.length vc)).1
  have hs2 := (blk_put hpar1 3 (.slice va f.op.length vc)).2
  have hres2 := hs2.row hres1 (by omega)
  have hown2 := own_chg hown hs2 (fun k hk e => row_ne hown hpar1 (by decide) (by rw [← e]; exact hk.symm))
  have HB2 := HB1.trans (hs2.below (B := w.heap.size) (fun i e => by omega) HB1.size)
  obtain ⟨hfin, hch⟩ := puts_all hres2 [.int .i64 f.kind, .int .i64 f.heard, .int .i64 f.epoch, .slice va f.op.length vc, .string f.text] rfl
  simp only [puts, Nat.zero_add, Nat.reduceAdd] at hfin hch
  have hown3 := own_chg hown2 hch (fun k hk e => row_ne hown2 hres2 (by decide) (by rw [← e]; exact hk.symm))
  have HB3 := HB2.trans (hch.below (B := w.heap.size) (fun i e => by omega) HB2.size)
  obtain ⟨p1, pl1, pf1⟩ := blk hpar1
  obtain ⟨p2, pl2, pf2⟩ := blk hp2
  obtain ⟨r1, rl1, rf1⟩ := blk hres1
  obtain ⟨r2, rl2, rf2⟩ := blk hres2
  clear hb1 hs2 hown hown2 hch q0 hpar hres HB0 HB1 HB2
  go_wp2_with fail
  generalize ((((((w1.setCell ⟨w.heap.size, 3, none⟩ (.slice va f.op.length vc)).setCell ⟨w.heap.size + 1, 0, none⟩ (.int .i64 f.kind)).setCell ⟨w.heap.size + 1, 1, none⟩ (.int .i64 f.heard)).setCell ⟨w.heap.size + 1, 2, none⟩ (.int .i64 f.epoch)).setCell ⟨w.heap.size + 1, 3, none⟩ (.slice va f.op.length vc)).setCell ⟨w.heap.size + 1, 4, none⟩ (.string f.text)) = w9 at *
  obtain ⟨t9, _, _⟩ := blk hfin
  exact bodyPost_ret (v := .agg #[.int .i64 f.kind, .int .i64 f.heard, .int .i64 f.epoch, .slice va f.op.length vc, .string f.text]) (by simp [results, Tryd.results19, go_sem, t9]) rfl ⟨.slice va f.op.length vc, rfl, hown3, HB3⟩

end Go.Proofs.YtnpjcdfkjgenbaaDoor
