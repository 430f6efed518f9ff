/-
  Walks: wherrylaw.octets, tapes, sameTape.
-/
import Derived.Test.YtknjnfknalfbdaaDoorTapeOps
import Derived.Deep.RegionHeld3
namespace Go.Proofs.YtknjnfknalfbdaaDoor
open Go.RowKit Go.Lib

set_option maxHeartbeats 400000 in
theorem octetsT_any (l : List Nat) (a : Option Addr) (c : Nat) (w : World) (hs : SrcB w a c l) (hl : l.length ≤ 140737488351232) :
    Calls Tryd.prog 84 #[.slice a l.length c] w fun r w' => ∃ v, r = .returned v ∧ w'.ownsRow w.heap.size 5 1 v l.length (octs l) ∧ Below w.heap.size w w' := by
  go_enter Tryd.func84, Tryd.ntmps84
  go_wp2_with (at_builtin; refine wpList_append_bytes rfl _ _ rfl w.heap.size (Nat.le_refl _) (.slice none 0 0) 0 [] rfl (World.ownsRow_nil _ _ _ _) a c l rfl hs (by omega) ?_; intro v1 w1 hown hgr hmv)
  rw [Nat.zero_add, List.nil_append] at hown
  go_ret
  exact ⟨v1, rfl, hown, (Below.refl _ _).grown hgr (Nat.le_refl _) (fun k e => by cases e)⟩

set_option maxRecDepth 100000 in
set_option maxHeartbeats 1000000 in
theorem tapes_any (l : List Nat) (a : Option Addr) (c : Nat) (s : Int) (w : World) (h : BArg w a c l) (hl : l.length ≤ 140737488351232) :
    Calls Tryd.prog 41 #[.agg #[.slice a l.length c, .int .i64 s]] w fun r w' => ∃ v, r = .returned (.agg #[v, .int .i64 s]) ∧ w'.ownsRow w.heap.size 5 1 v l.length (octs l) ∧ Below w.heap.size w w' := by
  obtain ⟨hpar, hres, HB0, hz⟩ := tape_two w (.cells #[.slice a l.length c, .int .i64 s] 80) (.cells #[.slice none 0 0, .int .i64 0] 80)
  have cO := fun w1 (hb : Below w.heap.size w w1) => octetsT_any l a c w1 (h.below hb).src hl
  have hz2 : w.heap.size + 1 < ((w.alloc (.cells #[.slice a l.length c, .int .i64 s] 80)).alloc (.cells #[.slice none 0 0, .int .i64 0] 80)).heap.size := by omega
  have hzb : w.heap.size ≤ ((w.alloc (.cells #[.slice a l.length c, .int .i64 s] 80)).alloc (.cells #[.slice none 0 0, .int .i64 0] 80)).heap.size := by omega
  clear hz h
  go_enter Tryd.func41, Tryd.ntmps41
  go_wp2_with fail
  generalize ((w.alloc (.cells #[.slice a l.length c, .int .i64 s] 80)).alloc (.cells #[.slice none 0 0, .int .i64 0] 80)) = w1 at *
  have HBd := below_two HB0 (below_drew w1) (Nat.le_refl _)
  have cC := cO _ HBd
  have hS0 := tp_of hpar
  have hres0 : w1.drew.heap[w.heap.size + 1]? = some (.cells #[.slice none 0 0, .int .i64 0] 80 (0, 0)) := hres
  clear hpar hres cO HB0
  go_region_held3 (fun w' => w'.cell? ⟨w.heap.size, 0, none⟩ = some (.slice a l.length c) ∧ w'.cell? ⟨w.heap.size, 1, none⟩ = some (.int .i64 s)) (with_reducible first | exact hS0 | assumption | exact tp_below hS0 hbz | exact tp_keep (by assumption) _ _) (first | (go_at_call 84; with_reducible refine Calls.mono cC ?_; rintro e wz ⟨v, rfl, hown, hbz⟩; have hof := own_form hown; obtain ⟨va, vc, rfl⟩ := hof; have hresz := (hbz.block _ (Array.getElem?_eq_some_iff.1 hres0).1).trans hres0; have hbk := blk hresz; obtain ⟨rz, rlz, rfz⟩ := hbk))
  have hresz := (hbz.block _ (Array.getElem?_eq_some_iff.1 hres0).1).trans hres0
  have HBz := below_two HBd hbz (Nat.le_refl _)
  obtain ⟨hfin, hch⟩ := tape_store hresz (x := .slice va l.length vc) (y := .int .i64 s)
  have hown2 := own_chg hown hch (fun k hk e => row_ne hown hresz (by decide) (by rw [← e]; exact hk.symm))
  have hB1 := HBd.size
  go_wp2_with fail
  generalize ((wz.setCell ⟨w.heap.size + 1, 0, none⟩ (.slice va l.length vc)).setCell ⟨w.heap.size + 1, 1, none⟩ (.int .i64 s)) = w9 at *
  obtain ⟨t0, _, _⟩ := blk hfin
  refine bodyPost_ret (v := .agg #[.slice va l.length vc, .int .i64 s]) (by simp [results, Tryd.results41, go_sem, t0]) rfl ⟨.slice va l.length vc, rfl, own_base hown2 hB1, HBz.trans (hch.below (fun i e => by omega) HBz.size)⟩

set_option maxRecDepth 100000 in
set_option maxHeartbeats 1000000 in
theorem sameTape_true (l : List Nat) (a b : Option Addr) (c d : Nat) (s : Int) (w : World) (ha : Bytes w a l) (hb : Bytes w b l) :
    Calls Tryd.prog 44 #[.agg #[.slice a l.length c, .int .i64 s], .agg #[.slice b l.length d, .int .i64 s]] w fun r w' => r = .returned (.bool true) ∧ Below w.heap.size w w' := by
  obtain ⟨hp1, hp2, HB0, hz⟩ := tape_two w (.cells #[.slice a l.length c, .int .i64 s] 80) (.cells #[.slice b l.length d, .int .i64 s] 80)
  have c1 := fun wx (hx : Below w.heap.size w wx) => conv_bytes (ha.below hx) c
  have c2 := fun wx (hx : Below w.heap.size w wx) => conv_bytes (hb.below hx) d
  have c1' := c1 _ HB0
  have c2' := c2 _ HB0
  obtain ⟨q1, _, _⟩ := blk hp1
  obtain ⟨q2, _, _⟩ := blk hp2
  clear hz ha hb c1 c2
  go_enter Tryd.func44, Tryd.ntmps44
  go_wp2_with fail
  go_ret
  exact ⟨by simp, HB0⟩

end Go.Proofs.YtknjnfknalfbdaaDoor
