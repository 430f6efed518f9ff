/-
  Walk: wherrylaw.EdgeSends.
-/
import Derived.Test.YtmdehfomogfmlaaDoorSendAll
import Derived.Test.YtmdehfomogfmlaaDoorSameEdge
import Derived.Deep.RegionHeld3
namespace Go.Proofs.YtmdehfomogfmlaaDoor
open Go.RowKit Go.Lib

theorem kept_newE {X W' : World} {cs : Array Value} {T : TypeId} (hb : Below (X.alloc (.cells cs T)).heap.size (X.alloc (.cells cs T)) W') : W'.heap[X.heap.size]? = some (.cells cs T (0, 0)) := (hb.block _ (by simp)).trans (heap_alloc_new X _)
theorem kept_drewE {X W' : World} {cs : Array Value} {T : TypeId} (hb : Below (X.alloc (.cells cs T)).drew.heap.size (X.alloc (.cells cs T)).drew W') : W'.heap[X.heap.size]? = some (.cells cs T (0, 0)) := (hb.block X.heap.size (show X.heap.size < (X.alloc (.cells cs T)).heap.size by simp)).trans (heap_alloc_new X _)
theorem kept_moreE {W W' : World} {b : Nat} {o : Obj} (h : W.heap[b]? = some o) (hb : Below W.heap.size W W') : W'.heap[b]? = some o := (hb.block _ (Array.getElem?_eq_some_iff.1 h).1).trans h

set_option maxRecDepth 100000 in
set_option maxHeartbeats 4000000 in
theorem edgeSends_walk (sent heard : Int) (E : List (List Part)) (vs : List Value) (a : Option Addr) (c : Nat) (ps : List Part) (oa : Option Addr) (oc : Nat) (w : World) (hp : PendAt w a c E vs) (hE : ∀ q ∈ E, OpSmall q) (hlen : E.length ≤ 1048576) (hs : -9223372036854775808 ≤ sent ∧ sent ≤ 9223372036854775807) (ho : OpVal w (.slice oa ps.length oc) ps) (hso : OpSmall ps) (hT : Tabs w) :
    Calls Tryd.prog 6 #[.agg #[.int .i64 sent, .int .i64 heard, .slice a E.length c], .slice oa ps.length oc] w fun r w' => r = .returned (.bool true) ∧ Below w.heap.size w w' := by
  have HB := (Below.refl w.heap.size w).alloc (Nat.le_refl _) (.cells #[.int .i64 sent, .int .i64 heard, .slice a E.length c] 26)
  have hx := heap_alloc_new w (.cells #[.int .i64 sent, .int .i64 heard, .slice a E.length c] 26)
  have cC := edgeCopy_any sent heard E vs a c _ (hp.below HB) (fun q hq => (hE q hq).1) hlen
  obtain ⟨x0, xl0, _⟩ := blk hx
  have hop : OpAt w oa ps := by
    obtain ⟨a', c', he, h, _, _⟩ := ho.form
    simp only [Value.slice.injEq, true_and] at he
    obtain ⟨rfl, rfl⟩ := he
    exact h
  go_enter Tryd.func6, Tryd.ntmps6
  go_wp2_with fail
  refine cC.mono ?_
  generalize (w.alloc (.cells #[.int .i64 sent, .int .i64 heard, .slice a E.length c] 26)) = w0 at *
  rintro r w1 ⟨ca, cc, rfl, ⟨us, hrow⟩, hbn⟩
  replace hrow := hrow.base HB.size
  replace HB := below_two HB hbn (Nat.le_refl _)
  replace hx := (hbn.block _ xl0).trans hx
  clear cC x0 xl0 hbn
  have hba := (Below.refl w1.heap.size w1).alloc (Nat.le_refl _) (.cells #[.int .i64 sent, .int .i64 heard, .slice ca E.length cc] 26)
  have hcb := heap_alloc_new w1 (.cells #[.int .i64 sent, .int .i64 heard, .slice ca E.length cc] 26)
  replace hrow := hrow.below hba
  replace hx := row_old hx (.cells #[.int .i64 sent, .int .i64 heard, .slice ca E.length cc] 26)
  replace HB := below_two HB hba (Nat.le_refl _)
  obtain ⟨c0, cl0, _⟩ := blk hcb
  clear hba
  go_wp2_with fail
  generalize (w1.alloc (.cells #[.int .i64 sent, .int .i64 heard, .slice ca E.length cc] 26)) = w2 at *
  have hdd : Below w2.heap.size w2 w2.drew := ⟨rfl, rfl, rfl, Nat.le_refl _, fun _ _ => rfl⟩
  have cO := fun (wx : World) (hx : Below w2.heap.size w2 wx) => opCopy_any ps oa oc wx ((hop.below HB).below hx) hso.1
  have hpc : ∀ wx, Below w2.heap.size w2 wx → PendAt wx ca cc E us := fun wx hx => (RowOps.pend hrow).below hx
  have cS := fun (wx : World) (v : Value) (B : Nat) (hx : Below w2.heap.size w2 wx) (hv : wx.ownsRow B 68 3 v ps.length (partCells ps)) => send_all sent heard E us ca cc ps v wx (hpc wx hx) hE hlen hs (opVal_own hv) hso (hT.below (below_two HB hx (Nat.le_refl _)))
  have cT := fun (wx : World) (hx : Below w.heap.size w wx) => sentOf_all sent heard E vs a c ps _ wx (hp.below hx) hE hlen hs (ho.below hx) hso (hT.below hx)
  obtain ⟨hb1, hb2⟩ := sendE_small (sent := sent) (heard := heard) hE hlen hso
  generalize sendS sent heard E ps = sS at *
  generalize sendH sent heard E ps = sH at *
  generalize sendE sent heard E ps = sE at *
  generalize sendErr sent heard E ps = er at *
  have hS0 : (fun w' => w'.cell? ⟨w1.heap.size, 0, none⟩ = some (.int .i64 sent) ∧ w'.cell? ⟨w1.heap.size, 1, none⟩ = some (.int .i64 heard) ∧ w'.cell? ⟨w1.heap.size, 2, none⟩ = some (.slice ca E.length cc) ∧ Below w2.heap.size w2 w') w2.drew := ⟨by show w2.cell? _ = _; rw [c0]; rfl, by show w2.cell? _ = _; rw [c0]; rfl, by show w2.cell? _ = _; rw [c0]; rfl, hdd⟩
  have toB : ∀ w', (fun w' => w'.cell? ⟨w1.heap.size, 0, none⟩ = some (.int .i64 sent) ∧ w'.cell? ⟨w1.heap.size, 1, none⟩ = some (.int .i64 heard) ∧ w'.cell? ⟨w1.heap.size, 2, none⟩ = some (.slice ca E.length cc) ∧ Below w2.heap.size w2 w') w' → Below w2.heap.size w2 w' := fun _ h => h.2.2.2
  have keepB : ∀ {w' w'' : World}, (fun w' => w'.cell? ⟨w1.heap.size, 0, none⟩ = some (.int .i64 sent) ∧ w'.cell? ⟨w1.heap.size, 1, none⟩ = some (.int .i64 heard) ∧ w'.cell? ⟨w1.heap.size, 2, none⟩ = some (.slice ca E.length cc) ∧ Below w2.heap.size w2 w') w' → Below w2.heap.size w' w'' → (fun w' => w'.cell? ⟨w1.heap.size, 0, none⟩ = some (.int .i64 sent) ∧ w'.cell? ⟨w1.heap.size, 1, none⟩ = some (.int .i64 heard) ∧ w'.cell? ⟨w1.heap.size, 2, none⟩ = some (.slice ca E.length cc) ∧ Below w2.heap.size w2 w') w'' := fun {w' w''} h hb => ⟨(hb.cell (p := ⟨w1.heap.size, 0, none⟩) cl0).trans h.1, (hb.cell (p := ⟨w1.heap.size, 1, none⟩) cl0).trans h.2.1, (hb.cell (p := ⟨w1.heap.size, 2, none⟩) cl0).trans h.2.2.1, h.2.2.2.trans hb⟩
  have keepC : ∀ {w' w'' : World}, (fun w' => w'.cell? ⟨w1.heap.size, 0, none⟩ = some (.int .i64 sent) ∧ w'.cell? ⟨w1.heap.size, 1, none⟩ = some (.int .i64 heard) ∧ w'.cell? ⟨w1.heap.size, 2, none⟩ = some (.slice ca E.length cc) ∧ Below w2.heap.size w2 w') w' → Below w'.heap.size w' w'' → (fun w' => w'.cell? ⟨w1.heap.size, 0, none⟩ = some (.int .i64 sent) ∧ w'.cell? ⟨w1.heap.size, 1, none⟩ = some (.int .i64 heard) ∧ w'.cell? ⟨w1.heap.size, 2, none⟩ = some (.slice ca E.length cc) ∧ Below w2.heap.size w2 w') w'' := fun {w' w''} h hb => keepB h ⟨hb.os, hb.tape, hb.output, hb.size, fun k hk => hb.block k (Nat.lt_of_lt_of_le hk h.2.2.2.size)⟩
  have keepA : ∀ {w' : World} (o : Obj), (fun w' => w'.cell? ⟨w1.heap.size, 0, none⟩ = some (.int .i64 sent) ∧ w'.cell? ⟨w1.heap.size, 1, none⟩ = some (.int .i64 heard) ∧ w'.cell? ⟨w1.heap.size, 2, none⟩ = some (.slice ca E.length cc) ∧ Below w2.heap.size w2 w') w' → (fun w' => w'.cell? ⟨w1.heap.size, 0, none⟩ = some (.int .i64 sent) ∧ w'.cell? ⟨w1.heap.size, 1, none⟩ = some (.int .i64 heard) ∧ w'.cell? ⟨w1.heap.size, 2, none⟩ = some (.slice ca E.length cc) ∧ Below w2.heap.size w2 w') (w'.alloc o) := fun {w'} o h => keepC h ((Below.refl _ w').alloc (Nat.le_refl _) o)
  have keepD : ∀ {w' : World} (o : Obj), (fun w' => w'.cell? ⟨w1.heap.size, 0, none⟩ = some (.int .i64 sent) ∧ w'.cell? ⟨w1.heap.size, 1, none⟩ = some (.int .i64 heard) ∧ w'.cell? ⟨w1.heap.size, 2, none⟩ = some (.slice ca E.length cc) ∧ Below w2.heap.size w2 w') w'.drew → (fun w' => w'.cell? ⟨w1.heap.size, 0, none⟩ = some (.int .i64 sent) ∧ w'.cell? ⟨w1.heap.size, 1, none⟩ = some (.int .i64 heard) ∧ w'.cell? ⟨w1.heap.size, 2, none⟩ = some (.slice ca E.length cc) ∧ Below w2.heap.size w2 w') (w'.alloc o).drew := fun {w'} o h => keepC h ⟨rfl, rfl, rfl, by show w'.heap.size ≤ (w'.alloc o).heap.size; simp, fun k hk => Below.heap_alloc w' o k hk⟩
  have szd : w2.heap.size ≤ w2.drew.heap.size := Nat.le_refl _
  have szd2 : w2.heap.size ≤ w2.heap.size := Nat.le_refl _
  generalize hpl : ps.length = pn at *
  have HPN : Hid (ps.length = pn) := hpl
  clear hpl
  go_region_held3 (fun w' => w'.cell? ⟨w1.heap.size, 0, none⟩ = some (.int .i64 sent) ∧ w'.cell? ⟨w1.heap.size, 1, none⟩ = some (.int .i64 heard) ∧ w'.cell? ⟨w1.heap.size, 2, none⟩ = some (.slice ca E.length cc) ∧ Below w2.heap.size w2 w') (with_reducible first | exact hS0 | exact keepD _ hS0 | assumption | exact keepC (by assumption) hbv | exact keepC (by assumption) hby | exact keepA _ (by assumption) | exact keepA _ hSv | exact keepB (by assumption) ((((Below.refl _ _).setCell (by first | exact szy | exact szv | exact szd | exact szd2) _).setCell (by first | exact szy | exact szv | exact szd | exact szd2) _).setCell (by first | exact szy | exact szv | exact szd | exact szd2) _)) (first | (go_at_call 29; with_reducible refine Calls.mono (cO _ (toB _ (by assumption))) ?_; rintro e wy ⟨u, rfl, hou, hby⟩; have szy := Nat.le_trans (toB _ (by assumption)).size hby.size; (first | have ny := kept_drewE hby | skip)) | (go_at_call 19; with_reducible refine Calls.mono (cS _ _ _ (toB _ (by assumption)) (by first | exact hou | exact own_below hou ((Below.refl _ _).alloc (Nat.le_refl _) _))) ?_; rintro e wv ⟨ra, rc, rfl, ⟨rus, hrr⟩, hbv⟩; have hSv := keepC (by assumption) hbv; have szv := Nat.le_trans (toB _ (by assumption)).size hbv.size; (first | have nv := kept_newE hbv | have nv := kept_moreE ny hbv | skip); (first | (have hnf := blk nv; obtain ⟨n0, nl, nf⟩ := hnf) | skip)))
  · have hN := heap_alloc_new wv (.cells #[.int .i64 sS, .int .i64 sH, .slice ra sE.length rc] 26)
    have hR6 := hrr.below ((Below.refl _ wv).alloc (Nat.le_refl _) (.cells #[.int .i64 sS, .int .i64 sH, .slice ra sE.length rc] 26))
    generalize (wv.alloc (.cells #[.int .i64 sS, .int .i64 sH, .slice ra sE.length rc] 26)) = w6 at *
    have HBW := toB _ (by assumption)
    have HB6 := below_two HB HBW (Nat.le_refl _)
    have hx6 := (HBW.block _ (Array.getElem?_eq_some_iff.1 hx).1).trans hx
    have hc6 := (HBW.block _ cl0).trans hcb
    have hrow6 := hrow.below HBW
    obtain ⟨x6, xl6, _⟩ := blk hx6
    have cT6 := cT w6 HB6
    clear cO cS cT hpc hS0 keepA keepB keepC keepD toB hSv hbv hby hou hrr
    go_wp2_with fail
    refine cT6.mono ?_
    rintro r w7 ⟨ba, bc, rfl, ⟨bus, hbr⟩, hb7⟩
    have hN8 := row_old ((hb7.block _ (Array.getElem?_eq_some_iff.1 hN).1).trans hN) (.cells #[.int .i64 sS, .int .i64 sH, .slice ba sE.length bc] 26)
    have hx8 := row_old ((hb7.block _ xl6).trans hx6) (.cells #[.int .i64 sS, .int .i64 sH, .slice ba sE.length bc] 26)
    have hc8 := row_old ((hb7.block _ (Array.getElem?_eq_some_iff.1 hc6).1).trans hc6) (.cells #[.int .i64 sS, .int .i64 sH, .slice ba sE.length bc] 26)
    have hB8 := heap_alloc_new w7 (.cells #[.int .i64 sS, .int .i64 sH, .slice ba sE.length bc] 26)
    have hba := (Below.refl w7.heap.size w7).alloc (Nat.le_refl _) (.cells #[.int .i64 sS, .int .i64 sH, .slice ba sE.length bc] 26)
    have hR8 := (hR6.below hb7).below hba
    have hbr8 := hbr.below hba
    have hrow8 := (hrow6.below hb7).below hba
    have HB8 := below_two (below_two HB6 hb7 (Nat.le_refl _)) hba (Nat.le_refl _)
    clear cT6 x6 xl6 hb7 hba hN hx6 hc6 hR6 hrow6 hbr HB6
    obtain ⟨n8, nl8, _⟩ := blk hN8
    obtain ⟨b8, bl8, _⟩ := blk hB8
    have c1 := sameEdge_true sS sH sE rus bus ra ba rc bc _ (RowOps.pend hR8) (RowOps.pend hbr8) hb1 hb2
    go_wp2_with fail
    refine c1.mono ?_
    generalize (w7.alloc (.cells #[.int .i64 sS, .int .i64 sH, .slice ba sE.length bc] 26)) = w8 at *
    rintro r w9 ⟨rfl, hb9⟩
    have hx9 := (hb9.block _ (Array.getElem?_eq_some_iff.1 hx8).1).trans hx8
    have hc9 := (hb9.block _ (Array.getElem?_eq_some_iff.1 hc8).1).trans hc8
    have HB9 := below_two HB8 hb9 (Nat.le_refl _)
    have c2 := sameEdge_true sent heard E us vs ca a cc c w9 (RowOps.pend (hrow8.below hb9)) (hp.below HB9) (fun q hq => by have := (hE q hq).1; omega) (by omega)
    clear c1 n8 nl8 b8 bl8 hb9 hx8 hc8
    obtain ⟨x9, xl9, _⟩ := blk hx9
    obtain ⟨d9, dl9, _⟩ := blk hc9
    go_wp2_with fail
    refine c2.mono ?_
    rintro r w10 ⟨rfl, hb10⟩
    go_wp2_with fail
    go_ret
    exact ⟨by simp, below_two HB9 hb10 (Nat.le_refl _)⟩
  · obtain ⟨hN, hch⟩ := puts_all nv [.int .i64 sS, .int .i64 sH, .slice ra sE.length rc] rfl
    simp only [puts, Nat.zero_add, Nat.reduceAdd] at hN hch
    have hR6 := hrr.stored nv (by decide) (by decide) hch
    clear hch
    generalize (((wv.setCell ⟨wy.heap.size, 0, none⟩ (.int .i64 sS)).setCell ⟨wy.heap.size, 1, none⟩ (.int .i64 sH)).setCell ⟨wy.heap.size, 2, none⟩ (.slice ra sE.length rc)) = w6 at *
    have HBW := toB _ (by assumption)
    have HB6 := below_two HB HBW (Nat.le_refl _)
    have hx6 := (HBW.block _ (Array.getElem?_eq_some_iff.1 hx).1).trans hx
    have hc6 := (HBW.block _ cl0).trans hcb
    have hrow6 := hrow.below HBW
    obtain ⟨x6, xl6, _⟩ := blk hx6
    have cT6 := cT w6 HB6
    clear cO cS cT hpc hS0 keepA keepB keepC keepD toB hSv hbv hby hou hrr
    go_wp2_with fail
    refine cT6.mono ?_
    rintro r w7 ⟨ba, bc, rfl, ⟨bus, hbr⟩, hb7⟩
    have hN8 := row_old ((hb7.block _ (Array.getElem?_eq_some_iff.1 hN).1).trans hN) (.cells #[.int .i64 sS, .int .i64 sH, .slice ba sE.length bc] 26)
    have hx8 := row_old ((hb7.block _ xl6).trans hx6) (.cells #[.int .i64 sS, .int .i64 sH, .slice ba sE.length bc] 26)
    have hc8 := row_old ((hb7.block _ (Array.getElem?_eq_some_iff.1 hc6).1).trans hc6) (.cells #[.int .i64 sS, .int .i64 sH, .slice ba sE.length bc] 26)
    have hB8 := heap_alloc_new w7 (.cells #[.int .i64 sS, .int .i64 sH, .slice ba sE.length bc] 26)
    have hba := (Below.refl w7.heap.size w7).alloc (Nat.le_refl _) (.cells #[.int .i64 sS, .int .i64 sH, .slice ba sE.length bc] 26)
    have hR8 := (hR6.below hb7).below hba
    have hbr8 := hbr.below hba
    have hrow8 := (hrow6.below hb7).below hba
    have HB8 := below_two (below_two HB6 hb7 (Nat.le_refl _)) hba (Nat.le_refl _)
    clear cT6 x6 xl6 hb7 hba hN hx6 hc6 hR6 hrow6 hbr HB6
    obtain ⟨n8, nl8, _⟩ := blk hN8
    obtain ⟨b8, bl8, _⟩ := blk hB8
    have c1 := sameEdge_true sS sH sE rus bus ra ba rc bc _ (RowOps.pend hR8) (RowOps.pend hbr8) hb1 hb2
    go_wp2_with fail
    refine c1.mono ?_
    generalize (w7.alloc (.cells #[.int .i64 sS, .int .i64 sH, .slice ba sE.length bc] 26)) = w8 at *
    rintro r w9 ⟨rfl, hb9⟩
    have hx9 := (hb9.block _ (Array.getElem?_eq_some_iff.1 hx8).1).trans hx8
    have hc9 := (hb9.block _ (Array.getElem?_eq_some_iff.1 hc8).1).trans hc8
    have HB9 := below_two HB8 hb9 (Nat.le_refl _)
    have c2 := sameEdge_true sent heard E us vs ca a cc c w9 (RowOps.pend (hrow8.below hb9)) (hp.below HB9) (fun q hq => by have := (hE q hq).1; omega) (by omega)
    clear c1 n8 nl8 b8 bl8 hb9 hx8 hc8
    obtain ⟨x9, xl9, _⟩ := blk hx9
    obtain ⟨d9, dl9, _⟩ := blk hc9
    go_wp2_with fail
    refine c2.mono ?_
    rintro r w10 ⟨rfl, hb10⟩
    go_wp2_with fail
    go_ret
    exact ⟨by simp, below_two HB9 hb10 (Nat.le_refl _)⟩
  · obtain ⟨hN, hch⟩ := puts_all nv [.int .i64 sS, .int .i64 sH, .slice ra sE.length rc] rfl
    simp only [puts, Nat.zero_add, Nat.reduceAdd] at hN hch
    have hR6 := hrr.stored nv (by decide) (by decide) hch
    clear hch
    generalize (((wv.setCell ⟨w2.heap.size, 0, none⟩ (.int .i64 sS)).setCell ⟨w2.heap.size, 1, none⟩ (.int .i64 sH)).setCell ⟨w2.heap.size, 2, none⟩ (.slice ra sE.length rc)) = w6 at *
    have HBW := toB _ (by assumption)
    have HB6 := below_two HB HBW (Nat.le_refl _)
    have hx6 := (HBW.block _ (Array.getElem?_eq_some_iff.1 hx).1).trans hx
    have hc6 := (HBW.block _ cl0).trans hcb
    have hrow6 := hrow.below HBW
    obtain ⟨x6, xl6, _⟩ := blk hx6
    have cT6 := cT w6 HB6
    clear cO cS cT hpc hS0 keepA keepB keepC keepD toB hSv hbv hby hou hrr
    go_wp2_with fail
    refine cT6.mono ?_
    rintro r w7 ⟨ba, bc, rfl, ⟨bus, hbr⟩, hb7⟩
    have hN8 := row_old ((hb7.block _ (Array.getElem?_eq_some_iff.1 hN).1).trans hN) (.cells #[.int .i64 sS, .int .i64 sH, .slice ba sE.length bc] 26)
    have hx8 := row_old ((hb7.block _ xl6).trans hx6) (.cells #[.int .i64 sS, .int .i64 sH, .slice ba sE.length bc] 26)
    have hc8 := row_old ((hb7.block _ (Array.getElem?_eq_some_iff.1 hc6).1).trans hc6) (.cells #[.int .i64 sS, .int .i64 sH, .slice ba sE.length bc] 26)
    have hB8 := heap_alloc_new w7 (.cells #[.int .i64 sS, .int .i64 sH, .slice ba sE.length bc] 26)
    have hba := (Below.refl w7.heap.size w7).alloc (Nat.le_refl _) (.cells #[.int .i64 sS, .int .i64 sH, .slice ba sE.length bc] 26)
    have hR8 := (hR6.below hb7).below hba
    have hbr8 := hbr.below hba
    have hrow8 := (hrow6.below hb7).below hba
    have HB8 := below_two (below_two HB6 hb7 (Nat.le_refl _)) hba (Nat.le_refl _)
    clear cT6 x6 xl6 hb7 hba hN hx6 hc6 hR6 hrow6 hbr HB6
    obtain ⟨n8, nl8, _⟩ := blk hN8
    obtain ⟨b8, bl8, _⟩ := blk hB8
    have c1 := sameEdge_true sS sH sE rus bus ra ba rc bc _ (RowOps.pend hR8) (RowOps.pend hbr8) hb1 hb2
    go_wp2_with fail
    refine c1.mono ?_
    generalize (w7.alloc (.cells #[.int .i64 sS, .int .i64 sH, .slice ba sE.length bc] 26)) = w8 at *
    rintro r w9 ⟨rfl, hb9⟩
    have hx9 := (hb9.block _ (Array.getElem?_eq_some_iff.1 hx8).1).trans hx8
    have hc9 := (hb9.block _ (Array.getElem?_eq_some_iff.1 hc8).1).trans hc8
    have HB9 := below_two HB8 hb9 (Nat.le_refl _)
    have c2 := sameEdge_true sent heard E us vs ca a cc c w9 (RowOps.pend (hrow8.below hb9)) (hp.below HB9) (fun q hq => by have := (hE q hq).1; omega) (by omega)
    clear c1 n8 nl8 b8 bl8 hb9 hx8 hc8
    obtain ⟨x9, xl9, _⟩ := blk hx9
    obtain ⟨d9, dl9, _⟩ := blk hc9
    go_wp2_with fail
    refine c2.mono ?_
    rintro r w10 ⟨rfl, hb10⟩
    go_wp2_with fail
    go_ret
    exact ⟨by simp, below_two HB9 hb10 (Nat.le_refl _)⟩

end Go.Proofs.YtmdehfomogfmlaaDoor
