/-
  Walk: wherryref.TapeRecovered of a tape that may not be.
-/
import Derived.Test.YtknjnfknalfbdaaDoorTapeRef
namespace Go.Proofs.YtknjnfknalfbdaaDoor
open Go.RowKit Go.Lib

set_option maxRecDepth 100000 in
set_option maxHeartbeats 2000000 in
theorem tapeRecovered_bad (l : List Nat) (a : Option Addr) (c : Nat) (s : Int) (w : World) (hlen : l.length ≤ 140737488351232) (hok : ¬ tapeOk l.length s) :
    Calls Tryd.prog 46 #[.agg #[.slice a l.length c, .int .i64 s]] w fun r w' => r = .returned (.tuple #[.slice none 0 0, .agg #[.slice none 0 0, .int .i64 0], .int .i64 9]) ∧ Below w.heap.size w w' := by
  obtain ⟨hpar, hres, HB0, hz⟩ := tape_two w (.cells #[.slice a l.length c, .int .i64 s] 80) (.cells #[.slice none 0 0, .int .i64 0] 80)
  have cM := tapeMay_any l.length s a c ((w.alloc (.cells #[.slice a l.length c, .int .i64 s] 80)).alloc (.cells #[.slice none 0 0, .int .i64 0] 80)) (by omega)
  rw [decide_eq_false hok] at cM
  have hz1 : w.heap.size < ((w.alloc (.cells #[.slice a l.length c, .int .i64 s] 80)).alloc (.cells #[.slice none 0 0, .int .i64 0] 80)).heap.size := by omega
  have hz2 : w.heap.size + 1 < ((w.alloc (.cells #[.slice a l.length c, .int .i64 s] 80)).alloc (.cells #[.slice none 0 0, .int .i64 0] 80)).heap.size := by omega
  have hzb : w.heap.size ≤ ((w.alloc (.cells #[.slice a l.length c, .int .i64 s] 80)).alloc (.cells #[.slice none 0 0, .int .i64 0] 80)).heap.size := by omega
  clear hz hok
  obtain ⟨q0, _, _⟩ := blk hpar
  go_enter Tryd.func46, Tryd.ntmps46
  go_wp2_with fail
  refine cM.mono ?_
  generalize ((w.alloc (.cells #[.slice a l.length c, .int .i64 s] 80)).alloc (.cells #[.slice none 0 0, .int .i64 0] 80)) = w0 at *
  rintro r w1 ⟨rfl, hb1⟩
  have HB1 := below_two HB0 hb1 (Nat.le_refl _)
  replace hres := (hb1.block _ hz2).trans hres
  obtain ⟨hfin, hch⟩ := tape_store hres (x := .slice none 0 0) (y := .int .i64 0)
  clear cM q0 hpar
  obtain ⟨q1, ql1, qf1⟩ := blk hres
  go_wp2_with fail
  generalize ((w1.setCell ⟨w.heap.size + 1, 0, none⟩ (.slice none 0 0)).setCell ⟨w.heap.size + 1, 1, none⟩ (.int .i64 0)) = w9 at *
  obtain ⟨t0, _, _⟩ := blk hfin
  refine bodyPost_ret (v := .tuple #[.slice none 0 0, .agg #[.slice none 0 0, .int .i64 0], .int .i64 9]) (by simp [results, Tryd.results46, go_sem, t0]) rfl ⟨rfl, HB1.trans (hch.below (fun i e => by omega) HB1.size)⟩

end Go.Proofs.YtknjnfknalfbdaaDoor
