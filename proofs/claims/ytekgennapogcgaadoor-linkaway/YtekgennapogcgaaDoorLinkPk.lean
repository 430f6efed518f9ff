/-
  Walks: link.packetOf, link.bare; wherryref.packetAt.
-/
import Derived.Test.YtekgennapogcgaaDoorLinkBeh
namespace Go.Proofs.YtekgennapogcgaaDoor
open Go.RowKit Go.Lib

theorem three_blocks (w : World) (o o' o'' : Obj) : (((w.alloc o).alloc o').alloc o'').heap[w.heap.size]? = some o ∧ (((w.alloc o).alloc o').alloc o'').heap[w.heap.size + 1]? = some o' ∧ (((w.alloc o).alloc o').alloc o'').heap[w.heap.size + 1 + 1]? = some o'' ∧ Below w.heap.size w (((w.alloc o).alloc o').alloc o'') ∧ (((w.alloc o).alloc o').alloc o'').heap.size = w.heap.size + 3 := by
  obtain ⟨h1, h2, h3, h4⟩ := two_blocks w o o'
  have h5 := heap_alloc_new ((w.alloc o).alloc o') o''
  rw [h4] at h5
  exact ⟨row_old h1 o'', row_old h2 o'', h5, h3.alloc h3.size o'', by simp⟩

theorem pk_keep {ep hd k h e : Int} {ua : Option Addr} {pn uc : Nat} {tx : ByteArray} {w w' w'' : World} (hS : (fun w' => w'.cell? ⟨w.heap.size, 0, none⟩ = some (.int .i64 ep) ∧ w'.cell? ⟨w.heap.size, 4, none⟩ = some (.int .i64 hd) ∧ w'.cell? ⟨w.heap.size + 1, 0, none⟩ = some (.int .i64 k) ∧ w'.cell? ⟨w.heap.size + 1, 1, none⟩ = some (.int .i64 h) ∧ w'.cell? ⟨w.heap.size + 1, 2, none⟩ = some (.int .i64 e) ∧ w'.cell? ⟨w.heap.size + 1, 3, none⟩ = some (.slice ua pn uc) ∧ w'.cell? ⟨w.heap.size + 1, 4, none⟩ = some (.string tx)) w') (h1 : w''.heap[w.heap.size]? = w'.heap[w.heap.size]?) (h2 : w''.heap[w.heap.size + 1]? = w'.heap[w.heap.size + 1]?) : (fun w' => w'.cell? ⟨w.heap.size, 0, none⟩ = some (.int .i64 ep) ∧ w'.cell? ⟨w.heap.size, 4, none⟩ = some (.int .i64 hd) ∧ w'.cell? ⟨w.heap.size + 1, 0, none⟩ = some (.int .i64 k) ∧ w'.cell? ⟨w.heap.size + 1, 1, none⟩ = some (.int .i64 h) ∧ w'.cell? ⟨w.heap.size + 1, 2, none⟩ = some (.int .i64 e) ∧ w'.cell? ⟨w.heap.size + 1, 3, none⟩ = some (.slice ua pn uc) ∧ w'.cell? ⟨w.heap.size + 1, 4, none⟩ = some (.string tx)) w'' := by
  have g1 : ∀ j, w''.cell? ⟨w.heap.size, j, none⟩ = w'.cell? ⟨w.heap.size, j, none⟩ := fun j => World.cell?_of_block (a := ⟨w.heap.size, j, none⟩) h1
  have g2 : ∀ j, w''.cell? ⟨w.heap.size + 1, j, none⟩ = w'.cell? ⟨w.heap.size + 1, j, none⟩ := fun j => World.cell?_of_block (a := ⟨w.heap.size + 1, j, none⟩) h2
  obtain ⟨a0, a1, a2, a3, a4, a5, a6⟩ := hS
  exact ⟨(g1 0).trans a0, (g1 4).trans a1, (g2 0).trans a2, (g2 1).trans a3, (g2 2).trans a4, (g2 3).trans a5, (g2 4).trans a6⟩
theorem pk_below {ep hd k h e : Int} {ua : Option Addr} {pn uc : Nat} {tx : ByteArray} {w w' w'' : World} (hS : (fun w' => w'.cell? ⟨w.heap.size, 0, none⟩ = some (.int .i64 ep) ∧ w'.cell? ⟨w.heap.size, 4, none⟩ = some (.int .i64 hd) ∧ w'.cell? ⟨w.heap.size + 1, 0, none⟩ = some (.int .i64 k) ∧ w'.cell? ⟨w.heap.size + 1, 1, none⟩ = some (.int .i64 h) ∧ w'.cell? ⟨w.heap.size + 1, 2, none⟩ = some (.int .i64 e) ∧ w'.cell? ⟨w.heap.size + 1, 3, none⟩ = some (.slice ua pn uc) ∧ w'.cell? ⟨w.heap.size + 1, 4, none⟩ = some (.string tx)) w') (hb : Below w'.heap.size w' w'') (hl : w.heap.size + 1 < w'.heap.size) : (fun w' => w'.cell? ⟨w.heap.size, 0, none⟩ = some (.int .i64 ep) ∧ w'.cell? ⟨w.heap.size, 4, none⟩ = some (.int .i64 hd) ∧ w'.cell? ⟨w.heap.size + 1, 0, none⟩ = some (.int .i64 k) ∧ w'.cell? ⟨w.heap.size + 1, 1, none⟩ = some (.int .i64 h) ∧ w'.cell? ⟨w.heap.size + 1, 2, none⟩ = some (.int .i64 e) ∧ w'.cell? ⟨w.heap.size + 1, 3, none⟩ = some (.slice ua pn uc) ∧ w'.cell? ⟨w.heap.size + 1, 4, none⟩ = some (.string tx)) w'' := pk_keep hS (hb.block _ (by omega)) (hb.block _ hl)
theorem pk_sets {ep hd k h e : Int} {ua : Option Addr} {pn uc : Nat} {tx : ByteArray} {w w' : World} (hS : (fun w' => w'.cell? ⟨w.heap.size, 0, none⟩ = some (.int .i64 ep) ∧ w'.cell? ⟨w.heap.size, 4, none⟩ = some (.int .i64 hd) ∧ w'.cell? ⟨w.heap.size + 1, 0, none⟩ = some (.int .i64 k) ∧ w'.cell? ⟨w.heap.size + 1, 1, none⟩ = some (.int .i64 h) ∧ w'.cell? ⟨w.heap.size + 1, 2, none⟩ = some (.int .i64 e) ∧ w'.cell? ⟨w.heap.size + 1, 3, none⟩ = some (.slice ua pn uc) ∧ w'.cell? ⟨w.heap.size + 1, 4, none⟩ = some (.string tx)) w') (x0 x1 x2 x3 x4 x5 x6 x7 x8 : Value) : (fun w' => w'.cell? ⟨w.heap.size, 0, none⟩ = some (.int .i64 ep) ∧ w'.cell? ⟨w.heap.size, 4, none⟩ = some (.int .i64 hd) ∧ w'.cell? ⟨w.heap.size + 1, 0, none⟩ = some (.int .i64 k) ∧ w'.cell? ⟨w.heap.size + 1, 1, none⟩ = some (.int .i64 h) ∧ w'.cell? ⟨w.heap.size + 1, 2, none⟩ = some (.int .i64 e) ∧ w'.cell? ⟨w.heap.size + 1, 3, none⟩ = some (.slice ua pn uc) ∧ w'.cell? ⟨w.heap.size + 1, 4, none⟩ = some (.string tx)) (((((((((w'.setCell ⟨w.heap.size + 1 + 1, 0, none⟩ x0).setCell ⟨w.heap.size + 1 + 1, 1, none⟩ x1).setCell ⟨w.heap.size + 1 + 1, 2, none⟩ x2).setCell ⟨w.heap.size + 1 + 1, 3, none⟩ x3).setCell ⟨w.heap.size + 1 + 1, 4, none⟩ x4).setCell ⟨w.heap.size + 1 + 1, 5, none⟩ x5).setCell ⟨w.heap.size + 1 + 1, 6, none⟩ x6).setCell ⟨w.heap.size + 1 + 1, 7, none⟩ x7).setCell ⟨w.heap.size + 1 + 1, 8, none⟩ x8) := by
  have hn : w.heap.size ≠ w.heap.size + 1 + 1 := by omega
  have hm : w.heap.size + 1 ≠ w.heap.size + 1 + 1 := by omega
  refine pk_keep hS ?_ ?_
  · rw [Below.heap_setCell _ _ _ _ hn, Below.heap_setCell _ _ _ _ hn, Below.heap_setCell _ _ _ _ hn, Below.heap_setCell _ _ _ _ hn, Below.heap_setCell _ _ _ _ hn, Below.heap_setCell _ _ _ _ hn, Below.heap_setCell _ _ _ _ hn, Below.heap_setCell _ _ _ _ hn, Below.heap_setCell _ _ _ _ hn]
  · rw [Below.heap_setCell _ _ _ _ hm, Below.heap_setCell _ _ _ _ hm, Below.heap_setCell _ _ _ _ hm, Below.heap_setCell _ _ _ _ hm, Below.heap_setCell _ _ _ _ hm, Below.heap_setCell _ _ _ _ hm, Below.heap_setCell _ _ _ _ hm, Below.heap_setCell _ _ _ _ hm, Below.heap_setCell _ _ _ _ hm]
set_option maxRecDepth 100000 in
set_option maxHeartbeats 2000000 in
theorem packetOf_any (ep nx hd num : Int) (sa qa : Option Addr) (sn sc qn qc : Nat) (f : FrI) (v : Value) (w : World) (ho : OpVal w v f.op) (hs : f.op.length ≤ 1048577) :
    Calls Tryd.prog 95 #[.agg #[.int .i64 ep, .int .i64 nx, .slice sa sn sc, .slice qa qn qc, .int .i64 hd], .int .i64 num, .agg #[.int .i64 f.kind, .int .i64 f.heard, .int .i64 f.epoch, v, .string f.text]] w fun r w' => ∃ u, r = .returned (.agg #[.int .i64 ep, .int .i64 num, .bool false, .int .i64 hd, .int .i64 f.kind, .int .i64 f.heard, .int .i64 f.epoch, u, .string f.text]) ∧ w'.ownsRow w.heap.size 33 3 u f.op.length (partCells f.op) ∧ Below w.heap.size w w' := by
  obtain ⟨k, h, e, ps, tx⟩ := f
  simp only at ho hs ⊢
  obtain ⟨ua, uc, rfl, _⟩ := ho.form
  obtain ⟨hl, hf, hr, HB0, hz⟩ := three_blocks w (.cells #[.int .i64 ep, .int .i64 nx, .slice sa sn sc, .slice qa qn qc, .int .i64 hd] 74) (.cells #[.int .i64 k, .int .i64 h, .int .i64 e, .slice ua ps.length uc, .string tx] 78) (.cells #[.int .i64 0, .int .i64 0, .bool false, .int .i64 0, .int .i64 0, .int .i64 0, .int .i64 0, .slice none 0 0, .string ⟨#[]⟩] 88)
  have cC := fun (wx : World) (hx : Below (((w.alloc (.cells #[.int .i64 ep, .int .i64 nx, .slice sa sn sc, .slice qa qn qc, .int .i64 hd] 74)).alloc (.cells #[.int .i64 k, .int .i64 h, .int .i64 e, .slice ua ps.length uc, .string tx] 78)).alloc (.cells #[.int .i64 0, .int .i64 0, .bool false, .int .i64 0, .int .i64 0, .int .i64 0, .int .i64 0, .slice none 0 0, .string ⟨#[]⟩] 88)).heap.size (((w.alloc (.cells #[.int .i64 ep, .int .i64 nx, .slice sa sn sc, .slice qa qn qc, .int .i64 hd] 74)).alloc (.cells #[.int .i64 k, .int .i64 h, .int .i64 e, .slice ua ps.length uc, .string tx] 78)).alloc (.cells #[.int .i64 0, .int .i64 0, .bool false, .int .i64 0, .int .i64 0, .int .i64 0, .int .i64 0, .slice none 0 0, .string ⟨#[]⟩] 88)) wx) => copyOf_any ⟨k, h, e, ps, tx⟩ (.slice ua ps.length uc) wx ((ho.below HB0).below hx) hs
  obtain ⟨l0, ll0, _⟩ := blk hl
  obtain ⟨f0, fl0, _⟩ := blk hf
  go_enter Tryd.func95, Tryd.ntmps95
  go_wp2_with fail
  generalize (((w.alloc (.cells #[.int .i64 ep, .int .i64 nx, .slice sa sn sc, .slice qa qn qc, .int .i64 hd] 74)).alloc (.cells #[.int .i64 k, .int .i64 h, .int .i64 e, .slice ua ps.length uc, .string tx] 78)).alloc (.cells #[.int .i64 0, .int .i64 0, .bool false, .int .i64 0, .int .i64 0, .int .i64 0, .int .i64 0, .slice none 0 0, .string ⟨#[]⟩] 88)) = w0 at *
  have hdd : Below w0.heap.size w0 w0.drew := ⟨rfl, rfl, rfl, Nat.le_refl _, fun _ _ => rfl⟩
  generalize hpl : ps.length = pn at *
  have HPN : Hid (ps.length = pn) := hpl
  clear hpl
  have hrd : w0.drew.heap[w.heap.size + 1 + 1]? = some (Obj.cells #[.int .i64 0, .int .i64 0, .bool false, .int .i64 0, .int .i64 0, .int .i64 0, .int .i64 0, .slice none 0 0, .string ⟨#[]⟩] 88 (0, 0)) := hr
  have hS0 : (fun w' => w'.cell? ⟨w.heap.size, 0, none⟩ = some (.int .i64 ep) ∧ w'.cell? ⟨w.heap.size, 4, none⟩ = some (.int .i64 hd) ∧ w'.cell? ⟨w.heap.size + 1, 0, none⟩ = some (.int .i64 k) ∧ w'.cell? ⟨w.heap.size + 1, 1, none⟩ = some (.int .i64 h) ∧ w'.cell? ⟨w.heap.size + 1, 2, none⟩ = some (.int .i64 e) ∧ w'.cell? ⟨w.heap.size + 1, 3, none⟩ = some (.slice ua pn uc) ∧ w'.cell? ⟨w.heap.size + 1, 4, none⟩ = some (.string tx)) w0.drew := ⟨l0 0, l0 4, f0 0, f0 1, f0 2, f0 3, f0 4⟩
  have hz1 : w.heap.size + 1 < w0.drew.heap.size := by show w.heap.size + 1 < w0.heap.size; omega
  clear l0 ll0 f0 fl0
  go_region_held3 (fun w' => w'.cell? ⟨w.heap.size, 0, none⟩ = some (.int .i64 ep) ∧ w'.cell? ⟨w.heap.size, 4, none⟩ = some (.int .i64 hd) ∧ w'.cell? ⟨w.heap.size + 1, 0, none⟩ = some (.int .i64 k) ∧ w'.cell? ⟨w.heap.size + 1, 1, none⟩ = some (.int .i64 h) ∧ w'.cell? ⟨w.heap.size + 1, 2, none⟩ = some (.int .i64 e) ∧ w'.cell? ⟨w.heap.size + 1, 3, none⟩ = some (.slice ua pn uc) ∧ w'.cell? ⟨w.heap.size + 1, 4, none⟩ = some (.string tx)) (with_reducible first | exact hS0 | assumption | exact pk_below hS0 hbz hz1 | exact pk_sets (by assumption) _ _ _ _ _ _ _ _ _) (first | (go_at_call 82; with_reducible refine Calls.mono (cC _ hdd) ?_; rintro ed wz ⟨u, rfl, hou, hbz⟩; have hrz := (hbz.block _ (Array.getElem?_eq_some_iff.1 hrd).1).trans hrd; have hbky := blk hrz; obtain ⟨rz, rlz, rfz⟩ := hbky; have hof := own_form hou; obtain ⟨xa, xc, rfl⟩ := hof))
  all_goals
    have HBz := below_two HB0 (below_two hdd hbz (Nat.le_refl _)) (Nat.le_refl _)
    have hrz := (hbz.block _ (Array.getElem?_eq_some_iff.1 hrd).1).trans hrd
    obtain ⟨hfin, hch⟩ := puts_all hrz [.int .i64 ep, .int .i64 num, .bool false, .int .i64 hd, .int .i64 k, .int .i64 h, .int .i64 e, .slice xa pn xc, .string tx] rfl
    simp only [puts, Nat.zero_add, Nat.reduceAdd] at hfin hch
    have HB2 := HBz.trans (hch.below (B := w.heap.size) (fun i e => by omega) HBz.size)
    have hown := own_base (own_chg hou hch (fun k hk e => row_ne hou hrz (by decide) (by rw [← e]; exact hk.symm))) (show w.heap.size ≤ w0.drew.heap.size by show w.heap.size ≤ w0.heap.size; omega)
    go_wp2_with fail
    generalize (((((((((wz.setCell ⟨w.heap.size + 1 + 1, 0, none⟩ (.int .i64 ep)).setCell ⟨w.heap.size + 1 + 1, 1, none⟩ (.int .i64 num)).setCell ⟨w.heap.size + 1 + 1, 2, none⟩ (.bool false)).setCell ⟨w.heap.size + 1 + 1, 3, none⟩ (.int .i64 hd)).setCell ⟨w.heap.size + 1 + 1, 4, none⟩ (.int .i64 k)).setCell ⟨w.heap.size + 1 + 1, 5, none⟩ (.int .i64 h)).setCell ⟨w.heap.size + 1 + 1, 6, none⟩ (.int .i64 e)).setCell ⟨w.heap.size + 1 + 1, 7, none⟩ (.slice xa pn xc)).setCell ⟨w.heap.size + 1 + 1, 8, none⟩ (.string tx)) = w9 at *
    obtain ⟨t9, _, _⟩ := blk hfin
    exact bodyPost_ret (v := .agg #[.int .i64 ep, .int .i64 num, .bool false, .int .i64 hd, .int .i64 k, .int .i64 h, .int .i64 e, .slice xa pn xc, .string tx]) (by simp [results, Tryd.results95, go_sem, t9]) rfl ⟨.slice xa pn xc, rfl, by rw [HPN.out]; exact hown, HB2⟩

set_option maxRecDepth 100000 in
set_option maxHeartbeats 1000000 in
theorem bare_any (ep nx hd : Int) (sa qa : Option Addr) (sn sc qn qc : Nat) (w : World) :
    Calls Tryd.prog 90 #[.agg #[.int .i64 ep, .int .i64 nx, .slice sa sn sc, .slice qa qn qc, .int .i64 hd]] w fun r w' => r = .returned (.agg #[.int .i64 ep, .int .i64 0, .bool true, .int .i64 hd, .int .i64 0, .int .i64 0, .int .i64 0, .slice none 0 0, .string ByteArray.empty]) ∧ Below w.heap.size w w' := by
  obtain ⟨hl, hr, HB0, hz⟩ := two_blocks w (.cells #[.int .i64 ep, .int .i64 nx, .slice sa sn sc, .slice qa qn qc, .int .i64 hd] 74) (.cells #[.int .i64 0, .int .i64 0, .bool false, .int .i64 0, .int .i64 0, .int .i64 0, .int .i64 0, .slice none 0 0, .string ⟨#[]⟩] 88)
  obtain ⟨l0, ll0, _⟩ := blk hl
  have HB2 := (two_blocks w (.cells #[.int .i64 ep, .int .i64 nx, .slice sa sn sc, .slice qa qn qc, .int .i64 hd] 74) (.cells #[.int .i64 ep, .int .i64 0, .bool true, .int .i64 hd, .int .i64 0, .int .i64 0, .int .i64 0, .slice none 0 0, .string ⟨#[]⟩] 88)).2.2.1
  clear hr HB0 hz
  go_enter Tryd.func90, Tryd.ntmps90
  go_wp2_with fail
  exact bodyPost_ret (v := .agg #[.int .i64 ep, .int .i64 0, .bool true, .int .i64 hd, .int .i64 0, .int .i64 0, .int .i64 0, .slice none 0 0, .string ⟨#[]⟩]) (by simp [results, Tryd.results90, go_sem]) rfl ⟨rfl, HB2⟩

end Go.Proofs.YtekgennapogcgaaDoor
