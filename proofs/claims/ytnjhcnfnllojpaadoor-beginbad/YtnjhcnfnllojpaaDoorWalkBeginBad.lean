/-
  Walk: wherrykeep.BeginBad.
-/
import Derived.Test.YtnjhcnfnllojpaaDoorNodeBeg
import Derived.Test.YtnjhcnfnllojpaaDoorKTree
namespace Go.Proofs.YtnjhcnfnllojpaaDoor
open Go.RowKit Go.Lib

/-- 'l[:m]' of numbers -/
theorem cut_ints (a : Option Addr) (L c n : Nat) (hn : n ≤ L) (hc : L ≤ c) (z : Int) (hz : z = (n : Int)) :
    ∀ wx : World, (Instr.slice 109 (.slice a L c) none (some (.int .i64 z)) none).run Tryd.prog wx = .ok (.slice a n c) wx := by
  subst hz
  intro wx
  have e : Tryd.prog.underlying 109 = some (.slice (Tryd.prog.elem 109)) := by kernel_rfl
  have hs : (sizeOf (Tryd.prog.elem 109)).run Tryd.prog wx = .ok 1 wx := by kernel_rfl
  rw [run_slice_h wx 109 a L c e .i64 (n : Int) (by omega) (by omega), hs]
  simp [Result.andThen, sliced, Addr.add]
theorem Ints.cut {w : World} {a : Option Addr} {l : List Int} (h : Ints w a l) (n : Nat) : Ints w a (l.take n) := by
  rcases h with rfl | ⟨g, off, rfl, hg, hx⟩
  · exact .inl (by simp)
  · exact .inr ⟨g, off, rfl, hg, fun i hi => by rw [List.getElem_take]; exact hx i (by rw [List.length_take] at hi; omega)⟩

set_option maxRecDepth 100000 in
set_option maxHeartbeats 2000000 in
theorem beginBad_walk (l : List Int) (a : Option Addr) (c : Nat) (x y : Int) (w : World) (h : Ints w a l) (hok : ∀ n ∈ l, I64 n) (hl : l.length ≤ 9223372036854775807) (hc : l.length ≤ c) (hx : I64 x) (hy : I64 y) (hT : Tabs w) :
    Calls Tryd.prog 21 #[.slice a l.length c, .int .i64 x, .int .i64 y] w fun e w' => e = .returned (.bool true) ∧ Below w.heap.size w w' := by
  obtain ⟨i0, hi0, hz0, hz1', hz2⟩ := info_parts info_int
  have hcut := cut_ints a l.length c (min l.length 5) (by omega) hc (min (l.length : Int) 5) (by omega)
  have cT := ktree_any (l.take (min l.length 5)) a c w (h.cut _) (fun n hn => hok n (List.mem_of_mem_take hn)) (by rw [List.length_take]; omega)
  have hm : (l.take (min l.length 5)).length = min l.length 5 := by rw [List.length_take]; omega
  rw [hm] at cT
  have hm5 : min l.length 5 ≤ 5 := by omega
  generalize min l.length 5 = m at *
  clear hm h hok
  have cX := fun wx => picked_same x 250 wx hx (by omega) (by omega)
  have hxp := pick_lt x 250 (by omega)
  generalize pick x 250 = bp at *
  have cY := fun wx => picked_same y 4 wx hy (by omega) (by omega)
  have hyp := pick_lt y 4 (by omega)
  generalize pick y 4 = k at *
  go_enter Tryd.func21, Tryd.ntmps21
  go_wp2_with fail
  refine cT.mono ?_
  rintro r w1 ⟨v, rfl, T, hown, hTT, hTl, hb1⟩
  obtain ⟨ta, tc, rfl⟩ := own_form hown
  obtain ⟨hs, _⟩ := treeErr_zero hTT
  have HT : Hid (treeErr (T ++ [0]) = 0) := treeErr_grow hTT (by omega) (by omega) (by omega)
  clear hTT cT
  have hz1 := hb1.size
  go_wp2_with (at_builtin; refine wpList_append_lies _ rfl _ _ 110 rfl w.heap.size 3 i0 _ 1 8 Tryd.underlying110 hi0 hz0 hz1' hz2 rfl (by decide) _ _ _ rfl (hown.alloc _) ⟨w1.heap.size, 0, none⟩ 1 1 [.int .i64 0] rfl rfl (World.news_of_block (cs := #[.int .i64 0]) (t := 3) (fr := (0, 0)) (heap_alloc_new w1 _)) (by simp [Value.oneCell']) (by omega) (by unfold maxLen; omega) (by omega) (by simp; omega) _ rfl ?_; intro g1 cap1 w2 hown1 hgrow1 hat1 hlt1)
  have hb2 : Below w.heap.size w w2 := (hb1.alloc hb1.size _).grown hgrow1 (by simp; omega) (fun j e => (hown.lt j e).1)
  have hlen : (T ++ [0]).length = T.length + 1 := by simp
  have hit : Ints w2 (some ⟨g1, 0, none⟩) (T ++ [0]) := ints_own (B := w.heap.size) (c := cap1) (by rw [intVals_append, hlen]; exact hown1)
  clear hown1 hgrow1 hown hat1 hlt1
  refine (cX _).mono ?_
  rintro r w3 ⟨rfl, hw3⟩
  rw [hw3]
  clear hw3 w3 cX
  go_wp2_with fail
  refine (cY _).mono ?_
  rintro r w3 ⟨rfl, hw3⟩
  rw [hw3]
  clear hw3 w3 cY
  have hk : k = 0 ∨ k = 1 ∨ k = 2 ∨ k = 3 := by omega
  rcases hk with hk | hk | hk | hk
  · subst hk
    have cB := fun wx (hx : Below w2.heap.size w2 wx) => begin_bad (T ++ [0]) (some ⟨g1, 0, none⟩) cap1 1 (1 + (bp : Int)) ⟨#[120]⟩ wx (hit.below hx) (by decide) (hT.below (below_two hb2 hx (Nat.le_refl _))) 4 (by unfold beginErr; rw [HT.out, hlen, if_neg (by decide)]; rw [if_neg (by omega), if_neg (by omega), show textErr ⟨#[120]⟩ = 0 by decide +kernel, if_neg (by decide), if_pos (by decide)]) (by decide)
    rw [hlen] at cB
    clear hit HT hlen hyp
    go_wp2_with fail
    refine (cB _ (Below.refl _ _)).mono ?_
    rintro r w3 ⟨rfl, hb3⟩
    have HB3 := below_two hb2 hb3 (Nat.le_refl _)
    have hr := heap_alloc_new w3 (.cells #[.int .i64 0, .int .i64 0, .int .i64 0, .bool false, .string ⟨#[]⟩, .slice none 0 0, .slice none 0 0, .slice none 0 0, .slice none 0 0, .slice none 0 0] 119)
    obtain ⟨r0, rl0, _⟩ := blk hr
    clear cB
    go_wp2_with fail
    go_ret
    exact ⟨rfl, HB3.alloc HB3.size _⟩
  · subst hk
    have cB := fun wx (hx : Below w2.heap.size w2 wx) => begin_bad (T ++ [0]) (some ⟨g1, 0, none⟩) cap1 1 (250 + (1 + (bp : Int))) ⟨#[120]⟩ wx (hit.below hx) (by decide) (hT.below (below_two hb2 hx (Nat.le_refl _))) 2 (by unfold beginErr; rw [HT.out, hlen, if_neg (by decide)]; rw [if_neg (by omega), if_pos (by omega)]) (by decide)
    rw [hlen] at cB
    clear hit HT hlen hyp
    go_wp2_with fail
    refine (cB _ (Below.refl _ _)).mono ?_
    rintro r w3 ⟨rfl, hb3⟩
    have HB3 := below_two hb2 hb3 (Nat.le_refl _)
    have hr := heap_alloc_new w3 (.cells #[.int .i64 0, .int .i64 0, .int .i64 0, .bool false, .string ⟨#[]⟩, .slice none 0 0, .slice none 0 0, .slice none 0 0, .slice none 0 0, .slice none 0 0] 119)
    obtain ⟨r0, rl0, _⟩ := blk hr
    clear cB
    go_wp2_with fail
    go_ret
    exact ⟨rfl, HB3.alloc HB3.size _⟩
  · subst hk
    have cB := fun wx (hx : Below w2.heap.size w2 wx) => begin_bad (T ++ [0]) (some ⟨g1, 0, none⟩) cap1 (-1) (1 + (bp : Int)) ⟨#[120]⟩ wx (hit.below hx) (by decide) (hT.below (below_two hb2 hx (Nat.le_refl _))) 13 (by unfold beginErr; rw [HT.out, hlen, if_neg (by decide)]; rw [if_pos (by omega)]) (by decide)
    rw [hlen] at cB
    clear hit HT hlen hyp
    go_wp2_with fail
    refine (cB _ (Below.refl _ _)).mono ?_
    rintro r w3 ⟨rfl, hb3⟩
    have HB3 := below_two hb2 hb3 (Nat.le_refl _)
    have hr := heap_alloc_new w3 (.cells #[.int .i64 0, .int .i64 0, .int .i64 0, .bool false, .string ⟨#[]⟩, .slice none 0 0, .slice none 0 0, .slice none 0 0, .slice none 0 0, .slice none 0 0] 119)
    obtain ⟨r0, rl0, _⟩ := blk hr
    clear cB
    go_wp2_with fail
    go_ret
    exact ⟨rfl, HB3.alloc HB3.size _⟩
  · subst hk
    have cB := fun wx (hx : Below w2.heap.size w2 wx) => begin_bad (T ++ [0]) (some ⟨g1, 0, none⟩) cap1 1 (1 + (bp : Int)) ⟨#[255]⟩ wx (hit.below hx) (by decide) (hT.below (below_two hb2 hx (Nat.le_refl _))) 4 (by unfold beginErr; rw [HT.out, hlen, if_neg (by decide)]; rw [if_neg (by omega), if_neg (by omega), show textErr ⟨#[255]⟩ = 4 by decide +kernel, if_pos (by decide)]) (by decide)
    rw [hlen] at cB
    clear hit HT hlen hyp
    go_wp2_with fail
    refine (cB _ (Below.refl _ _)).mono ?_
    rintro r w3 ⟨rfl, hb3⟩
    have HB3 := below_two hb2 hb3 (Nat.le_refl _)
    have hr := heap_alloc_new w3 (.cells #[.int .i64 0, .int .i64 0, .int .i64 0, .bool false, .string ⟨#[]⟩, .slice none 0 0, .slice none 0 0, .slice none 0 0, .slice none 0 0, .slice none 0 0] 119)
    obtain ⟨r0, rl0, _⟩ := blk hr
    clear cB
    go_wp2_with fail
    go_ret
    exact ⟨rfl, HB3.alloc HB3.size _⟩

end Go.Proofs.YtnjhcnfnllojpaaDoor
