/-
  Walks: the pen's methods.
-/
import Derived.Test.YtepehgjdepioeaaDoorPenMem
import Derived.Deep.RegionHeld3
import Derived.Deep.RegionLaw
import Derived.Deep.DeepCutAuto
namespace Go.Proofs.YtepehgjdepioeaaDoor
open Go.RowKit Go.Lib

theorem PenAt.cells {w : World} {B b : Nat} {dv iv : Value} {P : PenS} (h : PenAt w B b dv iv P) : w.cell? ⟨b, 0, none⟩ = some dv ∧ w.cell? ⟨b, 1, none⟩ = some iv ∧ w.cell? ⟨b, 2, none⟩ = some (.int .i64 (P.del : Int)) :=
  ⟨by rw [cell_of_row _ _ _ _ _ _ h.blk]; rfl, by rw [cell_of_row _ _ _ _ _ _ h.blk]; rfl, by rw [cell_of_row _ _ _ _ _ _ h.blk]; rfl⟩
theorem PenAt.frozen {w : World} {B b : Nat} {dv iv : Value} {P : PenS} (h : PenAt w B b dv iv P) (j : Nat) : w.frozen? ⟨b, j, none⟩ = false := by
  simp [World.frozen?, h.blk]

/-- one of the pen's own three cells is written -/
theorem penStep_set {w : World} {b : Nat} {dv iv dv' iv' : Value} {j : Nat} {u : Value} (m1 : Moves w dv dv') (m2 : Moves w iv iv') : PenStep w (w.setCell ⟨b, j, none⟩ u) b dv iv dv' iv' :=
  ⟨(Chg.refl _ w).setCell (p := ⟨b, j, none⟩) (.inl rfl) u, m1, m2⟩

theorem own_set {w : World} {B : Nat} {e : TypeId} {size : Nat} {v : Value} {n : Nat} {xs : List Value} {b j : Nat} {cs : Array Value} {T : TypeId} {fr : Nat × Nat} (h : w.ownsRow B e size v n xs) (hb : w.heap[b]? = some (.cells cs T fr)) (hT : T ≠ e) (u : Value) : (w.setCell ⟨b, j, none⟩ u).ownsRow B e size v n xs :=
  own_chg (F := fun k => k = b) h ((Chg.refl (fun k => k = b) w).setCell (p := ⟨b, j, none⟩) rfl u) (fun k hk e => by subst e; exact row_ne h hb hT hk.symm)

/-- rows of two kinds of elements are two rows -/
theorem own_ne {w : World} {B e e' size size' : Nat} {v v' : Value} {n n' : Nat} {xs xs' : List Value} (h : w.ownsRow B e size v n xs) (h' : w.ownsRow B e' size' v' n' xs') (hT : e ≠ e') : ∀ k, v.ownBlock = some k → ¬ v'.ownBlock = some k := by
  intro k hk hk'
  rcases h.2 with ⟨rfl, _⟩ | ⟨g, cap, cur, rfl, _, hg, _⟩
  · simp [Value.ownBlock] at hk
  · simp [Value.ownBlock] at hk
    subst hk
    exact row_ne h' hg hT hk'.symm

set_option maxHeartbeats 400000 in
theorem remove_any (w : World) (B b : Nat) (dv iv : Value) (P : PenS) (n : Nat) (h : PenAt w B b dv iv P) (hn : P.del + n ≤ 1000000000) :
    Calls Tryd.prog 43 #[.pointer (some ⟨b, 0, none⟩), .int .i64 (n : Int)] w fun e w' => e = .returned (.tuple #[]) ∧ PenAt w' B b dv iv { P with del := P.del + n } ∧ PenStep w w' b dv iv dv iv := by
  obtain ⟨c0, c1, c2⟩ := h.cells
  have f2 := h.frozen 2
  go_enter Tryd.func43, Tryd.ntmps43
  go_wp2
  go_end0
  refine ⟨rfl, ⟨h.base, ?_, own_set h.own h.blk (by decide) _, own_set h.ins h.blk (by decide) _⟩, penStep_set (Moves.refl _ _) (Moves.refl _ _)⟩
  rw [heap_setCell_same w b 2 _ _ _ h.blk]
  simp

set_option maxRecDepth 100000 in
set_option maxHeartbeats 400000 in
theorem insert_any (w : World) (B b : Nat) (dv iv : Value) (P : PenS) (s : ByteArray) (h : PenAt w B b dv iv P) (hB : B ≤ w.heap.size) (hn : P.ins.size + s.size ≤ 1000000000) :
    Calls Tryd.prog 42 #[.pointer (some ⟨b, 0, none⟩), .string s] w fun e w' => e = .returned (.tuple #[]) ∧ ∃ iv', PenAt w' B b dv iv' { P with ins := P.ins ++ s } ∧ PenStep w w' b dv iv dv iv' := by
  obtain ⟨i0, hi, hz0, hz1, hz2⟩ := info_parts info_u8
  obtain ⟨c0, c1, c2⟩ := h.cells
  have f1 := h.frozen 1
  go_enter Tryd.func42, Tryd.ntmps42
  go_wp2_with (at_builtin; refine wpList_append_string_lies w rfl (.tmp 8) (.tmp 9) 68 9 rfl B 5 i0 Tryd.underlying68 Tryd.underlying9 hi hz0 hz1 hz2 iv P.ins.size _ rfl h.ins s rfl (by unfold maxLen; omega) (by omega) hB ?_; intro iv' w1 hown hgrow hmv; obtain ⟨ia, ic, rfl⟩ := own_form hown; have blk1 := row_kept h.ins h.blk (by decide) hgrow; have c1' : w1.cell? ⟨b, 1, none⟩ = some iv := (by rw [cell_of_row _ _ _ _ _ _ blk1]; rfl); have f1' : w1.frozen? ⟨b, 1, none⟩ = false := (by simp [World.frozen?, blk1]))
  go_end0
  have hne : ∀ k, dv.ownBlock = some k → ¬ iv.ownBlock = some k := own_ne h.own h.ins (by decide)
  refine ⟨rfl, .slice ia (P.ins.size + s.size) ic, ⟨h.base, ?_, own_set (own_chg (F := fun k => iv.ownBlock = some k) h.own ((Chg.refl _ w).grown hgrow (fun k _ e => e)) hne) blk1 (by decide) _, ?_⟩, ?_⟩
  · rw [heap_setCell_same w1 b 1 _ _ _ blk1]
    simp
  · have := own_set (j := 1) hown blk1 (by decide) (.slice ia (P.ins.size + s.size) ic)
    rw [strCells_append, ByteArray.size_append]
    exact this
  · exact ⟨(Chg.grown (Chg.refl _ w) hgrow (fun k _ e => .inr (.inr e))).setCell (p := ⟨b, 1, none⟩) (.inl rfl) _, Moves.refl _ _, hmv⟩

/-- 'x[:0]' of an owned row -/
theorem own_zero {w : World} {B e size : Nat} {a : Option Addr} {n cap : Nat} {xs : List Value} (h : w.ownsRow B e size (.slice a n cap) n xs) : w.ownsRow B e size (.slice a 0 cap) 0 [] := by
  refine ⟨by simp, ?_⟩
  rcases h.2 with ⟨h1, h2⟩ | ⟨g, cap', cur, h1, hb, hg, h2, h3, h4, h5⟩
  · left
    simp at h1
    obtain ⟨rfl, _, rfl⟩ := h1
    exact ⟨rfl, rfl⟩
  · right
    simp at h1
    obtain ⟨rfl, rfl⟩ := h1
    exact ⟨g, cap, cur, rfl, hb, hg, Nat.zero_le _, h3, h4, by simp⟩

/-- behind 'p.done = append(p.done, part)' -/
theorem pen_append {w w1 : World} {B b : Nat} {dv iv : Value} {P : PenS} (h : PenAt w B b dv iv P) (p : Part) {g cap : Nat} {o : Obj}
    (hown : w1.ownsRow B 42 3 (.slice (some ⟨g, 0, none⟩) (P.done.length + 1) cap) (P.done.length + 1) (partCells P.done ++ partCells [p])) (hgrow : (w.alloc o).drew.grownBy w1 dv.ownBlock) (hat : dv.ownBlock = some g ∨ g = w.heap.size + 1) :
    PenAt (w1.setCell ⟨b, 0, none⟩ (.slice (some ⟨g, 0, none⟩) (P.done.length + 1) cap)) B b (.slice (some ⟨g, 0, none⟩) (P.done.length + 1) cap) iv { P with done := P.done ++ [p] } ∧
      PenStep w (w1.setCell ⟨b, 0, none⟩ (.slice (some ⟨g, 0, none⟩) (P.done.length + 1) cap)) b dv iv (.slice (some ⟨g, 0, none⟩) (P.done.length + 1) cap) iv := by
  have blk1 := row_kept (own_drew (h.own.alloc _)) (row_old h.blk _) (by decide) hgrow
  have c1 : Chg (fun k => dv.ownBlock = some k) w w1 := ((Chg.refl _ w).alloc o).drew.grown hgrow (fun k _ e => e)
  have hins1 := own_chg h.ins c1 (own_ne h.ins h.own (by decide))
  refine ⟨⟨h.base, ?_, ?_, own_set hins1 blk1 (by decide) _⟩, ⟨?_, ?_, Moves.refl _ _⟩⟩
  · rw [heap_setCell_same w1 b 0 _ _ _ blk1]
    simp
  · have := own_set (j := 0) hown blk1 (by decide) (.slice (some ⟨g, 0, none⟩) (P.done.length + 1) cap)
    rw [← partCells_append] at this
    simpa using this
  · exact (((Chg.refl _ w).alloc o).drew.grown hgrow (fun k _ e => .inr (.inl e))).setCell (p := ⟨b, 0, none⟩) (.inl rfl) _
  · intro k hk
    simp [Value.ownBlock] at hk
    subst hk
    rcases hat with h1 | h1
    · exact .inl h1
    · exact .inr (by omega)

set_option maxRecDepth 100000 in
set_option maxHeartbeats 1000000 in
/-- 'string(p.inserted)' -/
theorem conv_ins (w : World) (B : Nat) (iv : Value) (s : ByteArray) (h : w.ownsRow B 5 1 iv s.size (strCells s)) (hs : s.size ≠ 0) : (convert 68 9 iv).run Tryd.prog w = .ok (.string s) w := by
  obtain ⟨g, cap, rfl, _, _⟩ := h.form (by omega)
  have hc := h.cells (g := g) rfl
  have hb := run_convert_bytes_back (P := Tryd.prog) w 68 9 5 ⟨g, 0, none⟩ cap s.data.toList Tryd.underlying68 Tryd.underlying5 Tryd.underlying9 (fun j hj => hc j _ (by simp only [strCells, List.getElem?_map, List.getElem?_eq_getElem hj, Option.map_some]))
  rw [bytes_len] at hb
  exact hb

set_option maxRecDepth 100000 in
set_option maxHeartbeats 2000000 in
theorem flush_any (w : World) (B b : Nat) (dv iv : Value) (P : PenS) (h : PenAt w B b dv iv P) (hB : B ≤ w.heap.size) (hn : P.done.length ≤ 1000000) (hs : P.ins.size ≤ 1000000000) (hd : P.del ≤ 1000000000) :
    Calls Tryd.prog 52 #[.pointer (some ⟨b, 0, none⟩)] w fun e w' => e = .returned (.tuple #[]) ∧ ∃ dv' iv', PenAt w' B b dv' iv' ⟨P.done ++ waitIns P ++ waitDel P, ByteArray.empty, 0⟩ ∧ PenStep w w' b dv iv dv' iv' := by
  obtain ⟨i0, hi, hz0, hz1, hz2⟩ := info_parts info_part
  obtain ⟨c0, c1, c2⟩ := h.cells
  have f0 := h.frozen 0
  obtain ⟨ia, ic, rfl⟩ := own_form h.ins
  go_enter Tryd.func52, Tryd.ntmps52
  go_upto_if 7 with fail
  go_cut [] (fun w1 => ∃ dv1, PenAt w1 B b dv1 (.slice ia P.ins.size ic) ⟨P.done ++ waitIns P, P.ins, P.del⟩ ∧ PenStep w w1 b dv (.slice ia P.ins.size ic) dv1 (.slice ia P.ins.size ic))
  case first =>
    by_cases hi0 : P.ins.size = 0
    · have t1 : decide (0 < P.ins.size) = false := decide_eq_false (by omega)
      have HW : Hid (waitIns P = []) := by show waitIns P = []; simp [waitIns, hi0]
      go_wp2
      go_meet
      case rel => exact ⟨dv, by rw [HW.out, List.append_nil]; exact h, ⟨Chg.refl _ _, Moves.refl _ _, Moves.refl _ _⟩⟩
    · have t1 : decide (0 < P.ins.size) = true := decide_eq_true (by omega)
      have lb : b < w.heap.size := (h.F_lt b (.inl rfl)).2
      have HW : Hid (waitIns P = [⟨2, 0, P.ins⟩]) := by show waitIns P = _; simp [waitIns, hi0]
      have hcv1 := conv_ins w.drew B _ P.ins (own_drew h.ins) hi0
      go_wp2
      go_region_law ((refine step_append_lies _ (by rfl) _ _ _ (by rfl) B 42 i0 _ 3 32 Tryd.underlying25 hi hz0 hz1 hz2 rfl (by omega) dv P.done.length (partCells P.done) (by rfl) (own_drew (h.own.alloc _)) ⟨w.heap.size, 0, none⟩ 1 1 [.int .i64 2, .int .i64 0, .string P.ins] (by rfl) (by rfl) (World.news_of_block (cs := #[.int .i64 2, .int .i64 0, .string P.ins]) (t := 42) (fr := (0, 0)) (heap_alloc_new w _)) (by simp [Value.oneCell']) (by omega) (by unfold maxLen; omega) (by omega) (by simp; omega) (w.heap.size + 1) (by simp) ?_; intro g1 cap1 w1 hown1 hgrow1 hat1 hlt1; have blk1 := row_kept (own_drew (h.own.alloc _)) (row_old h.blk _) (by decide) hgrow1; have k0 : w1.cell? ⟨b, 0, none⟩ = some dv := (by rw [cell_of_row _ _ _ _ _ _ blk1]; rfl); have kf : w1.frozen? ⟨b, 0, none⟩ = false := (by simp [World.frozen?, blk1])))
      all_goals go_wp2
      all_goals go_meet
      all_goals (refine ⟨.slice (some ⟨g1, 0, none⟩) (P.done.length + 1) cap1, ?_⟩; rw [HW.out]; exact pen_append h ⟨2, 0, P.ins⟩ hown1 hgrow1 hat1)
  case rest =>
    obtain ⟨dv1, hp1, hst1⟩ := hcut
    clear c0 c1 c2 f0
    obtain ⟨c0, c1, c2⟩ := hp1.cells
    have f0 := hp1.frozen 0
    have hsz := hst1.chg.size
    have hl1 : (P.done ++ waitIns P).length ≤ 1000001 := by
      have : (waitIns P).length ≤ 1 := by unfold waitIns; split <;> simp
      rw [List.length_append]; omega
    simp only at c2
    generalize hD : P.done ++ waitIns P = D1 at *
    have HD : Hid (P.done ++ waitIns P = D1) := hD
    clear hD
    go_upto_if 27 with fail
    go_cut [] (fun w1 => ∃ dv2, PenAt w1 B b dv2 (.slice ia P.ins.size ic) ⟨D1 ++ waitDel P, P.ins, P.del⟩ ∧ PenStep wc w1 b dv1 (.slice ia P.ins.size ic) dv2 (.slice ia P.ins.size ic))
    case first =>
      by_cases hd0 : P.del = 0
      · have t1 : decide (0 < P.del) = false := decide_eq_false (by omega)
        have HW : Hid (waitDel P = []) := by show waitDel P = []; simp [waitDel, hd0]
        go_wp2
        go_meet
        case rel => exact ⟨dv1, by rw [HW.out, List.append_nil]; exact hp1, ⟨Chg.refl _ _, Moves.refl _ _, Moves.refl _ _⟩⟩
      · have t1 : decide (0 < P.del) = true := decide_eq_true (by omega)
        have lb : b < wc.heap.size := (hp1.F_lt b (.inl rfl)).2
        have HW : Hid (waitDel P = [⟨3, (P.del : Int), ByteArray.empty⟩]) := by show waitDel P = _; simp [waitDel, hd0]
        go_wp2
        go_region_law ((refine step_append_lies _ (by rfl) _ _ _ (by rfl) B 42 i0 _ 3 32 Tryd.underlying25 hi hz0 hz1 hz2 rfl (by omega) dv1 D1.length (partCells D1) (by rfl) (own_drew (hp1.own.alloc _)) ⟨wc.heap.size, 0, none⟩ 1 1 [.int .i64 3, .int .i64 (P.del : Int), .string .empty] (by rfl) (by rfl) (World.news_of_block (cs := #[.int .i64 3, .int .i64 (P.del : Int), .string .empty]) (t := 42) (fr := (0, 0)) (heap_alloc_new wc _)) (by simp [Value.oneCell']) (by omega) (by unfold maxLen; omega) (by omega) (by simp; omega) (wc.heap.size + 1) (by simp) ?_; intro g1 cap1 w1 hown1 hgrow1 hat1 hlt1; have blk1 := row_kept (own_drew (hp1.own.alloc _)) (row_old hp1.blk _) (by decide) hgrow1; have k0 : w1.cell? ⟨b, 0, none⟩ = some dv1 := (by rw [cell_of_row _ _ _ _ _ _ blk1]; rfl); have kf : w1.frozen? ⟨b, 0, none⟩ = false := (by simp [World.frozen?, blk1])))
        all_goals go_wp2
        all_goals go_meet
        all_goals (refine ⟨.slice (some ⟨g1, 0, none⟩) (D1.length + 1) cap1, ?_⟩; rw [HW.out]; exact pen_append hp1 ⟨3, (P.del : Int), ByteArray.empty⟩ hown1 hgrow1 hat1)
    case rest =>
      obtain ⟨dv2, hp2, hst2⟩ := hcut
      clear c0 c1 c2 hsz
      obtain ⟨c0, c1, c2⟩ := hp2.cells
      simp only at c0 c1 c2
      have f1 := hp2.frozen 1
      have f2 := hp2.frozen 2
      have hlen : (0 : Int) ≤ (ic : Int) := by omega
      go_wp2
      go_end0
      refine ⟨rfl, dv2, .slice ia 0 ic, ⟨h.base, ?_, ?_, ?_⟩, ?_⟩
      · rw [heap_setCell_same _ b 2 _ _ _ (heap_setCell_same _ b 1 _ _ _ hp2.blk)]
        simp
      · simp only
        rw [HD.out]
        exact own_set (own_set hp2.own hp2.blk (by decide) _) (heap_setCell_same _ b 1 _ _ _ hp2.blk) (by decide) _
      · exact own_set (own_set (own_zero hp2.ins) hp2.blk (by decide) _) (heap_setCell_same _ b 1 _ _ _ hp2.blk) (by decide) _
      · refine hst1.trans (hst2.trans ?_)
        exact ⟨((Chg.refl _ _).setCell (p := ⟨b, 1, none⟩) (.inl rfl) _).setCell (p := ⟨b, 2, none⟩) (.inl rfl) _, Moves.refl _ _, fun k hk => .inl (by cases ia <;> exact hk)⟩

end Go.Proofs.YtepehgjdepioeaaDoor
