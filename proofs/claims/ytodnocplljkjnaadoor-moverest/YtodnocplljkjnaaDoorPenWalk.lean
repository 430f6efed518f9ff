/-
  Walks: the pen's methods.
-/
import Derived.Test.YtodnocplljkjnaaDoorPenMem
import Derived.Deep.RegionHeld3
import Derived.Deep.RegionLaw
import Derived.Deep.DeepCutAuto
import Derived.Test.YtodnocplljkjnaaDoorPure
import Derived.Lib.Builder

/- Walks: the pen's methods. -/
namespace Go.Proofs.YtodnocplljkjnaaDoor
open Go.RowKit Go.Lib

theorem PenAt.cells {w : World} {B b : Nat} {dv iv : Value} {P : PenS} (h : PenAt w B b dv iv P) : w.cell? ⟨b, 0, none⟩ = some dv ∧ w.cell? ⟨b, 1, none⟩ = some iv ∧ w.cell? ⟨b, 2, none⟩ = some (.int .i64 (P.del : Int)) :=
  ⟨by rw [cell_of_row _ _ _ _ _ _ h.blk]; rfl, by rw [cell_of_row _ _ _ _ _ _ h.blk]; rfl, by rw [cell_of_row _ _ _ _ _ _ h.blk]; rfl⟩
theorem PenAt.frozen {w : World} {B b : Nat} {dv iv : Value} {P : PenS} (h : PenAt w B b dv iv P) (j : Nat) : w.frozen? ⟨b, j, none⟩ = false := by
  simp [World.frozen?, h.blk]

/-- one of the pen's own three cells is written -/
theorem penStep_set {w : World} {b : Nat} {dv iv dv' iv' : Value} {j : Nat} {u : Value} (m1 : Moves w dv dv') (m2 : Moves w iv iv') : PenStep w (w.setCell ⟨b, j, none⟩ u) b dv iv dv' iv' :=
  ⟨(Chg.refl _ w).setCell (p := ⟨b, j, none⟩) (.inl rfl) u, m1, m2⟩

theorem own_set {w : World} {B : Nat} {e : TypeId} {size : Nat} {v : Value} {n : Nat} {xs : List Value} {b j : Nat} {cs : Array Value} {T : TypeId} {fr : Nat × Nat} (h : w.ownsRow B e size v n xs) (hb : w.heap[b]? = some (.cells cs T fr)) (hT : T ≠ e) (u : Value) : (w.setCell ⟨b, j, none⟩ u).ownsRow B e size v n xs :=
  own_chg (F := fun k => k = b) h ((Chg.refl (fun k => k = b) w).setCell (p := ⟨b, j, none⟩) rfl u) (fun k hk e => by subst e; exact row_ne h hb hT hk.symm)

/-- rows of two kinds of elements are two rows -/
theorem own_ne {w : World} {B e e' size size' : Nat} {v v' : Value} {n n' : Nat} {xs xs' : List Value} (h : w.ownsRow B e size v n xs) (h' : w.ownsRow B e' size' v' n' xs') (hT : e ≠ e') : ∀ k, v.ownBlock = some k → ¬ v'.ownBlock = some k := by
  intro k hk hk'
  rcases h.2 with ⟨rfl, _⟩ | ⟨g, cap, cur, rfl, _, hg, _⟩
  · simp [Value.ownBlock] at hk
  · simp [Value.ownBlock] at hk
    subst hk
    exact row_ne h' hg hT hk'.symm

set_option maxHeartbeats 400000 in
theorem remove_any (w : World) (B b : Nat) (dv iv : Value) (P : PenS) (n : Nat) (h : PenAt w B b dv iv P) (hn : P.del + n ≤ 1000000000) :
    Calls Tryd.prog 54 #[.pointer (some ⟨b, 0, none⟩), .int .i64 (n : Int)] w fun e w' => e = .returned (.tuple #[]) ∧ PenAt w' B b dv iv { P with del := P.del + n } ∧ PenStep w w' b dv iv dv iv := by
  obtain ⟨c0, c1, c2⟩ := h.cells
  have f2 := h.frozen 2
  go_enter Tryd.func54, Tryd.ntmps54
  go_wp2
  go_end0
  refine ⟨rfl, ⟨h.base, ?_, own_set h.own h.blk (by decide) _, own_set h.ins h.blk (by decide) _⟩, penStep_set (Moves.refl _ _) (Moves.refl _ _)⟩
  rw [heap_setCell_same w b 2 _ _ _ h.blk]
  simp

set_option maxRecDepth 100000 in
set_option maxHeartbeats 400000 in
theorem insert_any (w : World) (B b : Nat) (dv iv : Value) (P : PenS) (s : ByteArray) (h : PenAt w B b dv iv P) (hB : B ≤ w.heap.size) (hn : P.ins.size + s.size ≤ 1000000000) :
    Calls Tryd.prog 47 #[.pointer (some ⟨b, 0, none⟩), .string s] w fun e w' => e = .returned (.tuple #[]) ∧ ∃ iv', PenAt w' B b dv iv' { P with ins := P.ins ++ s } ∧ PenStep w w' b dv iv dv iv' := by
  obtain ⟨i0, hi, hz0, hz1, hz2⟩ := info_parts info_u8
  obtain ⟨c0, c1, c2⟩ := h.cells
  have f1 := h.frozen 1
  go_enter Tryd.func47, Tryd.ntmps47
  go_wp2_with (at_builtin; refine wpList_append_string_lies w rfl (.tmp 8) (.tmp 9) 62 9 rfl B 5 i0 Tryd.underlying62 Tryd.underlying9 hi hz0 hz1 hz2 iv P.ins.size _ rfl h.ins s rfl (by unfold maxLen; omega) (by omega) hB ?_; intro iv' w1 hown hgrow hmv; obtain ⟨ia, ic, rfl⟩ := own_form hown; have blk1 := row_kept h.ins h.blk (by decide) hgrow; have c1' : w1.cell? ⟨b, 1, none⟩ = some iv := (by rw [cell_of_row _ _ _ _ _ _ blk1]; rfl); have f1' : w1.frozen? ⟨b, 1, none⟩ = false := (by simp [World.frozen?, blk1]))
  go_end0
  have hne : ∀ k, dv.ownBlock = some k → ¬ iv.ownBlock = some k := own_ne h.own h.ins (by decide)
  refine ⟨rfl, .slice ia (P.ins.size + s.size) ic, ⟨h.base, ?_, own_set (own_chg (F := fun k => iv.ownBlock = some k) h.own ((Chg.refl _ w).grown hgrow (fun k _ e => e)) hne) blk1 (by decide) _, ?_⟩, ?_⟩
  · rw [heap_setCell_same w1 b 1 _ _ _ blk1]
    simp
  · have := own_set (j := 1) hown blk1 (by decide) (.slice ia (P.ins.size + s.size) ic)
    rw [strCells_append, ByteArray.size_append]
    exact this
  · exact ⟨(Chg.grown (Chg.refl _ w) hgrow (fun k _ e => .inr (.inr e))).setCell (p := ⟨b, 1, none⟩) (.inl rfl) _, Moves.refl _ _, hmv⟩

/-- 'x[:0]' of an owned row -/
theorem own_zero {w : World} {B e size : Nat} {a : Option Addr} {n cap : Nat} {xs : List Value} (h : w.ownsRow B e size (.slice a n cap) n xs) : w.ownsRow B e size (.slice a 0 cap) 0 [] := by
  refine ⟨by simp, ?_⟩
  rcases h.2 with ⟨h1, h2⟩ | ⟨g, cap', cur, h1, hb, hg, h2, h3, h4, h5⟩
  · left
    simp at h1
    obtain ⟨rfl, _, rfl⟩ := h1
    exact ⟨rfl, rfl⟩
  · right
    simp at h1
    obtain ⟨rfl, rfl⟩ := h1
    exact ⟨g, cap, cur, rfl, hb, hg, Nat.zero_le _, h3, h4, by simp⟩

/-- behind 'p.done = append(p.done, part)' -/
theorem pen_append {w w1 : World} {B b : Nat} {dv iv : Value} {P : PenS} (h : PenAt w B b dv iv P) (p : Part) {g cap : Nat} {o : Obj}
    (hown : w1.ownsRow B 33 3 (.slice (some ⟨g, 0, none⟩) (P.done.length + 1) cap) (P.done.length + 1) (partCells P.done ++ partCells [p])) (hgrow : (w.alloc o).drew.grownBy w1 dv.ownBlock) (hat : dv.ownBlock = some g ∨ g = w.heap.size + 1) :
    PenAt (w1.setCell ⟨b, 0, none⟩ (.slice (some ⟨g, 0, none⟩) (P.done.length + 1) cap)) B b (.slice (some ⟨g, 0, none⟩) (P.done.length + 1) cap) iv { P with done := P.done ++ [p] } ∧
      PenStep w (w1.setCell ⟨b, 0, none⟩ (.slice (some ⟨g, 0, none⟩) (P.done.length + 1) cap)) b dv iv (.slice (some ⟨g, 0, none⟩) (P.done.length + 1) cap) iv := by
  have blk1 := row_kept (own_drew (h.own.alloc _)) (row_old h.blk _) (by decide) hgrow
  have c1 : Chg (fun k => dv.ownBlock = some k) w w1 := ((Chg.refl _ w).alloc o).drew.grown hgrow (fun k _ e => e)
  have hins1 := own_chg h.ins c1 (own_ne h.ins h.own (by decide))
  refine ⟨⟨h.base, ?_, ?_, own_set hins1 blk1 (by decide) _⟩, ⟨?_, ?_, Moves.refl _ _⟩⟩
  · rw [heap_setCell_same w1 b 0 _ _ _ blk1]
    simp
  · have := own_set (j := 0) hown blk1 (by decide) (.slice (some ⟨g, 0, none⟩) (P.done.length + 1) cap)
    rw [← partCells_append] at this
    simpa using this
  · exact (((Chg.refl _ w).alloc o).drew.grown hgrow (fun k _ e => .inr (.inl e))).setCell (p := ⟨b, 0, none⟩) (.inl rfl) _
  · intro k hk
    simp [Value.ownBlock] at hk
    subst hk
    rcases hat with h1 | h1
    · exact .inl h1
    · exact .inr (by omega)

set_option maxRecDepth 100000 in
set_option maxHeartbeats 1000000 in
/-- 'string(p.inserted)' -/
theorem conv_ins (w : World) (B : Nat) (iv : Value) (s : ByteArray) (h : w.ownsRow B 5 1 iv s.size (strCells s)) (hs : s.size ≠ 0) : (convert 62 9 iv).run Tryd.prog w = .ok (.string s) w := by
  obtain ⟨g, cap, rfl, _, _⟩ := h.form (by omega)
  have hc := h.cells (g := g) rfl
  have hb := run_convert_bytes_back (P := Tryd.prog) w 62 9 5 ⟨g, 0, none⟩ cap s.data.toList Tryd.underlying62 Tryd.underlying5 Tryd.underlying9 (fun j hj => hc j _ (by simp only [strCells, List.getElem?_map, List.getElem?_eq_getElem hj, Option.map_some]))
  rw [bytes_len] at hb
  exact hb

set_option maxRecDepth 100000 in
set_option maxHeartbeats 2000000 in
theorem flush_any (w : World) (B b : Nat) (dv iv : Value) (P : PenS) (h : PenAt w B b dv iv P) (hB : B ≤ w.heap.size) (hn : P.done.length ≤ 1000000) (hs : P.ins.size ≤ 1000000000) (hd : P.del ≤ 1000000000) :
    Calls Tryd.prog 53 #[.pointer (some ⟨b, 0, none⟩)] w fun e w' => e = .returned (.tuple #[]) ∧ ∃ dv' iv', PenAt w' B b dv' iv' ⟨P.done ++ waitIns P ++ waitDel P, ByteArray.empty, 0⟩ ∧ PenStep w w' b dv iv dv' iv' := by
  obtain ⟨i0, hi, hz0, hz1, hz2⟩ := info_parts info_part
  obtain ⟨c0, c1, c2⟩ := h.cells
  have f0 := h.frozen 0
  obtain ⟨ia, ic, rfl⟩ := own_form h.ins
  go_enter Tryd.func53, Tryd.ntmps53
  go_upto_if 7 with fail
  go_cut [] (fun w1 => ∃ dv1, PenAt w1 B b dv1 (.slice ia P.ins.size ic) ⟨P.done ++ waitIns P, P.ins, P.del⟩ ∧ PenStep w w1 b dv (.slice ia P.ins.size ic) dv1 (.slice ia P.ins.size ic))
  case first =>
    by_cases hi0 : P.ins.size = 0
    · have t1 : decide (0 < P.ins.size) = false := decide_eq_false (by omega)
      have HW : Hid (waitIns P = []) := by show waitIns P = []; simp [waitIns, hi0]
      go_wp2
      go_meet
      case rel => exact ⟨dv, by rw [HW.out, List.append_nil]; exact h, ⟨Chg.refl _ _, Moves.refl _ _, Moves.refl _ _⟩⟩
    · have t1 : decide (0 < P.ins.size) = true := decide_eq_true (by omega)
      have lb : b < w.heap.size := (h.F_lt b (.inl rfl)).2
      have HW : Hid (waitIns P = [⟨2, 0, P.ins⟩]) := by show waitIns P = _; simp [waitIns, hi0]
      have hcv1 := conv_ins w.drew B _ P.ins (own_drew h.ins) hi0
      go_wp2
      go_region_law ((refine step_append_lies _ (by rfl) _ _ _ (by rfl) B 33 i0 _ 3 32 Tryd.underlying28 hi hz0 hz1 hz2 rfl (by omega) dv P.done.length (partCells P.done) (by rfl) (own_drew (h.own.alloc _)) ⟨w.heap.size, 0, none⟩ 1 1 [.int .i64 2, .int .i64 0, .string P.ins] (by rfl) (by rfl) (World.news_of_block (cs := #[.int .i64 2, .int .i64 0, .string P.ins]) (t := 33) (fr := (0, 0)) (heap_alloc_new w _)) (by simp [Value.oneCell']) (by omega) (by unfold maxLen; omega) (by omega) (by simp; omega) (w.heap.size + 1) (by simp) ?_; intro g1 cap1 w1 hown1 hgrow1 hat1 hlt1; have blk1 := row_kept (own_drew (h.own.alloc _)) (row_old h.blk _) (by decide) hgrow1; have k0 : w1.cell? ⟨b, 0, none⟩ = some dv := (by rw [cell_of_row _ _ _ _ _ _ blk1]; rfl); have kf : w1.frozen? ⟨b, 0, none⟩ = false := (by simp [World.frozen?, blk1])))
      all_goals go_wp2
      all_goals go_meet
      all_goals (refine ⟨.slice (some ⟨g1, 0, none⟩) (P.done.length + 1) cap1, ?_⟩; rw [HW.out]; exact pen_append h ⟨2, 0, P.ins⟩ hown1 hgrow1 hat1)
  case rest =>
    obtain ⟨dv1, hp1, hst1⟩ := hcut
    clear c0 c1 c2 f0
    obtain ⟨c0, c1, c2⟩ := hp1.cells
    have f0 := hp1.frozen 0
    have hsz := hst1.chg.size
    have hl1 : (P.done ++ waitIns P).length ≤ 1000001 := by
      have : (waitIns P).length ≤ 1 := by unfold waitIns; split <;> simp
      rw [List.length_append]; omega
    simp only at c2
    generalize hD : P.done ++ waitIns P = D1 at *
    have HD : Hid (P.done ++ waitIns P = D1) := hD
    clear hD
    go_upto_if 27 with fail
    go_cut [] (fun w1 => ∃ dv2, PenAt w1 B b dv2 (.slice ia P.ins.size ic) ⟨D1 ++ waitDel P, P.ins, P.del⟩ ∧ PenStep wc w1 b dv1 (.slice ia P.ins.size ic) dv2 (.slice ia P.ins.size ic))
    case first =>
      by_cases hd0 : P.del = 0
      · have t1 : decide (0 < P.del) = false := decide_eq_false (by omega)
        have HW : Hid (waitDel P = []) := by show waitDel P = []; simp [waitDel, hd0]
        go_wp2
        go_meet
        case rel => exact ⟨dv1, by rw [HW.out, List.append_nil]; exact hp1, ⟨Chg.refl _ _, Moves.refl _ _, Moves.refl _ _⟩⟩
      · have t1 : decide (0 < P.del) = true := decide_eq_true (by omega)
        have lb : b < wc.heap.size := (hp1.F_lt b (.inl rfl)).2
        have HW : Hid (waitDel P = [⟨3, (P.del : Int), ByteArray.empty⟩]) := by show waitDel P = _; simp [waitDel, hd0]
        go_wp2
        go_region_law ((refine step_append_lies _ (by rfl) _ _ _ (by rfl) B 33 i0 _ 3 32 Tryd.underlying28 hi hz0 hz1 hz2 rfl (by omega) dv1 D1.length (partCells D1) (by rfl) (own_drew (hp1.own.alloc _)) ⟨wc.heap.size, 0, none⟩ 1 1 [.int .i64 3, .int .i64 (P.del : Int), .string .empty] (by rfl) (by rfl) (World.news_of_block (cs := #[.int .i64 3, .int .i64 (P.del : Int), .string .empty]) (t := 33) (fr := (0, 0)) (heap_alloc_new wc _)) (by simp [Value.oneCell']) (by omega) (by unfold maxLen; omega) (by omega) (by simp; omega) (wc.heap.size + 1) (by simp) ?_; intro g1 cap1 w1 hown1 hgrow1 hat1 hlt1; have blk1 := row_kept (own_drew (hp1.own.alloc _)) (row_old hp1.blk _) (by decide) hgrow1; have k0 : w1.cell? ⟨b, 0, none⟩ = some dv1 := (by rw [cell_of_row _ _ _ _ _ _ blk1]; rfl); have kf : w1.frozen? ⟨b, 0, none⟩ = false := (by simp [World.frozen?, blk1])))
        all_goals go_wp2
        all_goals go_meet
        all_goals (refine ⟨.slice (some ⟨g1, 0, none⟩) (D1.length + 1) cap1, ?_⟩; rw [HW.out]; exact pen_append hp1 ⟨3, (P.del : Int), ByteArray.empty⟩ hown1 hgrow1 hat1)
    case rest =>
      obtain ⟨dv2, hp2, hst2⟩ := hcut
      clear c0 c1 c2 hsz
      obtain ⟨c0, c1, c2⟩ := hp2.cells
      simp only at c0 c1 c2
      have f1 := hp2.frozen 1
      have f2 := hp2.frozen 2
      have hlen : (0 : Int) ≤ (ic : Int) := by omega
      go_wp2
      go_end0
      refine ⟨rfl, dv2, .slice ia 0 ic, ⟨h.base, ?_, ?_, ?_⟩, ?_⟩
      · rw [heap_setCell_same _ b 2 _ _ _ (heap_setCell_same _ b 1 _ _ _ hp2.blk)]
        simp
      · simp only
        rw [HD.out]
        exact own_set (own_set hp2.own hp2.blk (by decide) _) (heap_setCell_same _ b 1 _ _ _ hp2.blk) (by decide) _
      · exact own_set (own_set (own_zero hp2.ins) hp2.blk (by decide) _) (heap_setCell_same _ b 1 _ _ _ hp2.blk) (by decide) _
      · refine hst1.trans (hst2.trans ?_)
        exact ⟨((Chg.refl _ _).setCell (p := ⟨b, 1, none⟩) (.inl rfl) _).setCell (p := ⟨b, 2, none⟩) (.inl rfl) _, Moves.refl _ _, fun k hk => .inl (by cases ia <;> exact hk)⟩

end Go.Proofs.YtodnocplljkjnaaDoor

/- Walks: the pen's keep and op. -/
namespace Go.Proofs.YtodnocplljkjnaaDoor
open Go.RowKit Go.Lib

theorem PenS.all_len (P : PenS) : P.all.length ≤ P.done.length + 2 := by
  unfold PenS.all waitIns waitDel
  simp only [List.length_append]
  split <;> split <;> simp

set_option maxHeartbeats 400000 in
theorem op_any (w : World) (B b : Nat) (dv iv : Value) (P : PenS) (h : PenAt w B b dv iv P) (hB : B ≤ w.heap.size) (hn : P.done.length ≤ 1000000) (hs : P.ins.size ≤ 1000000000) (hd : P.del ≤ 1000000000) :
    Calls Tryd.prog 51 #[.pointer (some ⟨b, 0, none⟩)] w fun e w' => ∃ dv' iv', e = .returned dv' ∧ PenAt w' B b dv' iv' ⟨P.all, ByteArray.empty, 0⟩ ∧ PenStep w w' b dv iv dv' iv' := by
  go_enter Tryd.func51, Tryd.ntmps51
  go_wp2_with fail
  refine (flush_any w B b dv iv P h hB hn hs hd).mono ?_
  rintro e w1 ⟨rfl, dv', iv', hp, hst⟩
  obtain ⟨D, HD⟩ : ∃ D, Hid (P.all = D) := ⟨_, rfl⟩
  have hp : PenAt w1 B b dv' iv' ⟨P.all, ByteArray.empty, 0⟩ := hp
  rw [HD.out] at hp
  obtain ⟨c0, _, _⟩ := hp.cells
  obtain ⟨da, dc, rfl⟩ := own_form hp.own
  go_wp2
  go_ret
  exact ⟨_, iv', rfl, by rw [HD.out]; exact hp, hst⟩

theorem grown_drew {w w' : World} {row : Option Nat} (h : w.grownBy w' row) : w.drew.grownBy w' row := ⟨h.os, h.tape, h.output, h.size, h.block⟩

/-- the last part's cells -/
theorem own_last {w : World} {B : Nat} {v : Value} {D : List Part} {p : Part} (h : w.ownsRow B 33 3 v (D ++ [p]).length (partCells (D ++ [p]))) :
    ∃ g cap, v = .slice (some ⟨g, 0, none⟩) (D.length + 1) cap ∧ w.cell? ⟨g, D.length * 3, none⟩ = some (.int .i64 p.kind) ∧ w.cell? ⟨g, D.length * 3 + 1, none⟩ = some (.int .i64 p.n) := by
  obtain ⟨g, cap, rfl, _, _⟩ := h.form (by simp)
  have hc := h.cells (g := g) rfl
  have e : partCells (D ++ [p]) = partCells D ++ [Value.int .i64 p.kind, Value.int .i64 p.n, Value.string p.text] := by rw [partCells_append, partCells_one]
  have l := partCells_length D
  have h0 := hc (D.length * 3) (.int .i64 p.kind) (by rw [e, List.getElem?_append_right (by omega), l]; simp)
  have h1 := hc (D.length * 3 + 1) (.int .i64 p.n) (by rw [e, List.getElem?_append_right (by omega), l, show D.length * 3 + 1 - D.length * 3 = 1 by omega]; rfl)
  rw [WideShapes.add_plain] at h0 h1
  simp only [Nat.zero_add] at h0 h1
  exact ⟨g, cap, by simp, h0, h1⟩

set_option maxRecDepth 100000 in
set_option maxHeartbeats 1000000 in
theorem keep_any (w : World) (B b : Nat) (dv iv : Value) (P : PenS) (n : Nat) (h : PenAt w B b dv iv P) (hB : B ≤ w.heap.size) (hn : P.done.length ≤ 1000000) (hs : P.ins.size ≤ 1000000000) (hd : P.del ≤ 1000000000) (hk : n ≤ 1000000000) (hm : ∀ p ∈ P.all, p.kind = 1 → 0 ≤ p.n ∧ p.n ≤ 1000000000) :
    Calls Tryd.prog 48 #[.pointer (some ⟨b, 0, none⟩), .int .i64 (n : Int)] w fun e w' => e = .returned (.tuple #[]) ∧ ∃ dv' iv', PenAt w' B b dv' iv' ⟨addKeep P.all n, ByteArray.empty, 0⟩ ∧ PenStep w w' b dv iv dv' iv' := by
  obtain ⟨i0, hi, hz0, hz1, hz2⟩ := info_parts info_part
  have hall := P.all_len
  go_enter Tryd.func48, Tryd.ntmps48
  go_wp2_with fail
  refine (flush_any w B b dv iv P h hB hn hs hd).mono ?_
  rintro e w1 ⟨rfl, dv1, iv1, hp, hst⟩
  have hp : PenAt w1 B b dv1 iv1 ⟨P.all, ByteArray.empty, 0⟩ := hp
  obtain ⟨c0, _, _⟩ := hp.cells
  have f0 := hp.frozen 0
  have hB1 := Nat.le_trans hB hst.chg.size
  obtain ⟨D, HDe⟩ : ∃ D, Hid (P.all = D) := ⟨_, rfl⟩
  rw [HDe.out] at hp hall hm
  rcases List.eq_nil_or_concat D with rfl | ⟨D0, p, rfl⟩
  · obtain ⟨da, dc, rfl⟩ := own_form hp.own
    simp only [List.length_nil] at hp c0 hst
    have t1 : decide ((0 : Int) ≤ 0 - 1) = false := by decide
    go_wp2_with (at_builtin; refine wpList_append_lies _ rfl (.tmp 42) (.tmp 45) 28 rfl B 33 i0 _ 3 32 Tryd.underlying28 hi hz0 hz1 hz2 rfl (by decide) (.slice da 0 dc) 0 (partCells []) rfl (hp.own.alloc _) ⟨w1.heap.size, 0, none⟩ 1 1 [.int .i64 1, .int .i64 (n : Int), .string .empty] rfl rfl (World.news_of_block (cs := #[.int .i64 1, .int .i64 (n : Int), .string .empty]) (t := 33) (fr := (0, 0)) (heap_alloc_new w1 _)) (by simp [Value.oneCell']) (by omega) (by unfold maxLen; omega) (by omega) (by simp; omega) (w1.heap.size + 1) (by simp) ?_; intro g1 cap1 w2 hown1 hgrow1 hat1 hlt1; have blk1 := row_kept (hp.own.alloc _) (row_old hp.blk _) (by decide) hgrow1; have k0 : w2.cell? ⟨b, 0, none⟩ = some ((.slice da 0 dc)) := (by rw [cell_of_row _ _ _ _ _ _ blk1]; rfl); have kf : w2.frozen? ⟨b, 0, none⟩ = false := (by simp [World.frozen?, blk1]))
    go_end0
    obtain ⟨q1, q2⟩ := pen_append hp ⟨1, (n : Int), ByteArray.empty⟩ hown1 (grown_drew hgrow1) hat1
    refine ⟨rfl, _, iv1, ?_, hst.trans q2⟩
    rw [HDe.out, addKeep_nil]
    exact q1
  · rw [List.concat_eq_append] at *
    obtain ⟨g, dc, rfl, k0, k1⟩ := own_last hp.own
    have hlen : D0.length ≤ 1000002 := by simp only [List.length_append, List.length_cons, List.length_nil] at hall; omega
    by_cases h1 : p.kind = 1
    · have hpn := hm p (by simp) h1
      rw [h1] at k0
      have t2 : (0 : Int) ≤ (D0.length : Int) := by omega
      have kfz : ∀ j, w1.frozen? ⟨g, j, none⟩ = false := fun j => by
        rcases hp.own.2 with ⟨h', _⟩ | ⟨g', cap', cur, h', hb, hg, _⟩
        · simp at h'
        · simp only [Value.slice.injEq, Option.some.injEq, Addr.mk.injEq, and_true] at h'
          obtain ⟨rfl, _⟩ := h'
          simp [World.frozen?, hg]
      go_wp2
      refine bodyPost_ret (v := .tuple #[]) (by simp [results, Tryd.results48, go_sem]) rfl ⟨rfl, .slice (some ⟨g, 0, none⟩) (D0.length + 1) dc, iv1, ?_, ?_⟩
      · rw [HDe.out, addKeep_grow _ _ _ h1]
        have hbg : b ≠ g := fun e => row_ne hp.own hp.blk (by decide) (by subst e; rfl)
        have hown' : w1.ownsRow B 33 3 (.slice (some ⟨g, 0, none⟩) (D0.length + 1) dc) (D0.length + 1) (partCells (D0 ++ [p])) := by simpa using hp.own
        refine ⟨h.base, ?_, ?_, ?_⟩
        · rw [Below.heap_setCell w1 ⟨g, _, none⟩ _ b hbg]
          exact hp.blk
        · have := (hown'.stored (D0.length * 3 + 1) (.int .i64 (p.n + n))).1
          have e : (partCells (D0 ++ [p])).set (D0.length * 3 + 1) (.int .i64 (p.n + n)) = partCells (D0 ++ [⟨1, p.n + n, p.text⟩]) := by
            rw [partCells_append, partCells_append, partCells_one, partCells_one, List.set_append_right _ _ (by rw [partCells_length]; omega), partCells_length, show D0.length * 3 + 1 - D0.length * 3 = 1 by omega, h1]
            rfl
          rw [e] at this
          simpa using this
        · exact own_chg (F := fun k => k = g) hp.ins ((Chg.refl (fun k => k = g) w1).setCell (p := ⟨g, _, none⟩) rfl _) (fun k hk e => by subst e; exact own_ne hp.ins hp.own (by decide) k hk rfl)
      · refine hst.trans ⟨(Chg.refl _ w1).setCell (p := ⟨g, _, none⟩) (.inr (.inl rfl)) _, Moves.refl _ _, Moves.refl _ _⟩
    · have g1 : (p.kind == 1) = false := by simpa using h1
      have t2 : (0 : Int) ≤ (D0.length : Int) := by omega
      go_wp2_with (at_builtin; refine wpList_append_lies _ rfl (.tmp 42) (.tmp 45) 28 rfl B 33 i0 _ 3 32 Tryd.underlying28 hi hz0 hz1 hz2 rfl (by decide) (.slice (some ⟨g, 0, none⟩) (D0.length + 1) dc) (D0.length + 1) (partCells (D0 ++ [p])) rfl ((show w1.ownsRow B 33 3 (.slice (some ⟨g, 0, none⟩) (D0.length + 1) dc) (D0.length + 1) (partCells (D0 ++ [p])) from by simpa using hp.own).alloc _) ⟨w1.heap.size, 0, none⟩ 1 1 [.int .i64 1, .int .i64 (n : Int), .string .empty] rfl rfl (World.news_of_block (cs := #[.int .i64 1, .int .i64 (n : Int), .string .empty]) (t := 33) (fr := (0, 0)) (heap_alloc_new w1 _)) (by simp [Value.oneCell']) (by omega) (by unfold maxLen; omega) (by omega) (by simp; omega) (w1.heap.size + 1) (by simp) ?_; intro g1 cap1 w2 hown1 hgrow1 hat1 hlt1; have blk1 := row_kept ((show w1.ownsRow B 33 3 (.slice (some ⟨g, 0, none⟩) (D0.length + 1) dc) (D0.length + 1) (partCells (D0 ++ [p])) from by simpa using hp.own).alloc _) (row_old hp.blk _) (by decide) hgrow1; have k0 : w2.cell? ⟨b, 0, none⟩ = some ((.slice (some ⟨g, 0, none⟩) (D0.length + 1) dc)) := (by rw [cell_of_row _ _ _ _ _ _ blk1]; rfl); have kf : w2.frozen? ⟨b, 0, none⟩ = false := (by simp [World.frozen?, blk1]))
      go_end0
      obtain ⟨q1, q2⟩ := pen_append hp ⟨1, (n : Int), ByteArray.empty⟩ (by rw [partCells_one]; simpa using hown1) (grown_drew hgrow1) hat1
      simp only [List.length_append, List.length_cons, List.length_nil, Nat.zero_add] at q1 q2
      refine ⟨rfl, .slice (some ⟨g1, 0, none⟩) (D0.length + 1 + 1) cap1, iv1, ?_, hst.trans q2⟩
      rw [HDe.out, addKeep_new _ _ _ h1]
      exact q1

end Go.Proofs.YtodnocplljkjnaaDoor

/- The pen's methods, told by the steps that it has written. -/
namespace Go.Proofs.YtodnocplljkjnaaDoor
open Go.RowKit Go.Lib

/-- A pen in block b that has written these steps. -/
def PenL (w : World) (B b : Nat) (dv iv : Value) (l : List Step) : Prop := PenAt w B b dv iv (penOf l)

theorem keepL (w : World) (B b : Nat) (dv iv : Value) (l : List Step) (n : Nat) (h : PenL w B b dv iv l) (hB : B ≤ w.heap.size) (hl : l.length ≤ 100000) (h1 : 1 ≤ n) (hk : n ≤ 100000) :
    Calls Tryd.prog 48 #[.pointer (some ⟨b, 0, none⟩), .int .i64 (n : Int)] w fun e w' => e = .returned (.tuple #[]) ∧ ∃ dv' iv', PenL w' B b dv' iv' (l ++ List.replicate n ((1 : Int), (0 : Int))) ∧ PenStep w w' b dv iv dv' iv' := by
  have ok := penOf_ok l
  unfold PenL
  rw [penOf_keeps l n h1]
  exact keep_any w B b dv iv (penOf l) n h hB (by have := ok.done; omega) (by have := ok.ins; omega) (by have := ok.del; omega) (by omega) (fun p hp hk1 => by have := ok.all.2 p hp hk1; omega)
theorem removeL (w : World) (B b : Nat) (dv iv : Value) (l : List Step) (n : Nat) (h : PenL w B b dv iv l) (hl : l.length ≤ 100000) (hk : n ≤ 100000) :
    Calls Tryd.prog 54 #[.pointer (some ⟨b, 0, none⟩), .int .i64 (n : Int)] w fun e w' => e = .returned (.tuple #[]) ∧ PenL w' B b dv iv (l ++ List.replicate n ((3 : Int), (0 : Int))) ∧ PenStep w w' b dv iv dv iv := by
  have ok := penOf_ok l
  unfold PenL
  rw [penOf_removes l n]
  exact remove_any w B b dv iv (penOf l) n h (by have := ok.del; omega)
theorem insertL (w : World) (B b : Nat) (dv iv : Value) (l : List Step) (rs : List Nat) (h : PenL w B b dv iv l) (hB : B ≤ w.heap.size) (hl : l.length ≤ 100000) (hs : (str rs).size ≤ 10000000) :
    Calls Tryd.prog 47 #[.pointer (some ⟨b, 0, none⟩), .string (str rs)] w fun e w' => e = .returned (.tuple #[]) ∧ ∃ iv', PenL w' B b dv iv' (l ++ rs.map (fun r : Nat => ((2 : Int), (r : Int)))) ∧ PenStep w w' b dv iv dv iv' := by
  have ok := penOf_ok l
  unfold PenL
  rw [penOf_inserts l rs]
  exact insert_any w B b dv iv (penOf l) (str rs) h hB (by have := ok.ins; omega)
theorem opL (w : World) (B b : Nat) (dv iv : Value) (l : List Step) (h : PenL w B b dv iv l) (hB : B ≤ w.heap.size) (hl : l.length ≤ 100000) :
    Calls Tryd.prog 51 #[.pointer (some ⟨b, 0, none⟩)] w fun e w' => ∃ dv' iv', e = .returned dv' ∧ PenAt w' B b dv' iv' ⟨group l, ByteArray.empty, 0⟩ ∧ PenStep w w' b dv iv dv' iv' := by
  have ok := penOf_ok l
  exact op_any w B b dv iv (penOf l) h hB (by have := ok.done; omega) (by have := ok.ins; omega) (by have := ok.del; omega)
theorem penL_below {w w' : World} {B b : Nat} {dv iv : Value} {l : List Step} (h : PenL w B b dv iv l) (hb : Below w.heap.size w w') : PenL w' B b dv iv l :=
  PenAt.kept (F := fun _ => False) h (Chg.of_below hb) (fun _ _ h => h)

end Go.Proofs.YtodnocplljkjnaaDoor

/- Two pens side by side. -/
namespace Go.Proofs.YtodnocplljkjnaaDoor
open Go.RowKit Go.Lib

/-- Two pens that share nothing, with what they have written. -/
structure PensI (w : World) (B bp bq : Nat) (dp ip dq iq : Value) (lp lq : List Step) : Prop where
  p : PenL w B bp dp ip lp
  q : PenL w B bq dq iq lq
  apart : ∀ k, penF bp dp ip k → ¬ penF bq dq iq k
  base : B ≤ w.heap.size
def Pens (w : World) (B bp bq : Nat) (lp lq : List Step) : Prop := ∃ dp ip dq iq, PensI w B bp bq dp ip dq iq lp lq
theorem Pens.symm {w : World} {B bp bq : Nat} {lp lq : List Step} (h : Pens w B bp bq lp lq) : Pens w B bq bp lq lp := by
  obtain ⟨dp, ip, dq, iq, h⟩ := h
  exact ⟨dq, iq, dp, ip, h.q, h.p, fun k h1 h2 => h.apart k h2 h1, h.base⟩
theorem Pens.kept {F : Nat → Prop} {w w' : World} {B bp bq : Nat} {lp lq : List Step} (h : Pens w B bp bq lp lq) (c : Chg F w w') (hF : ∀ k, F k → k < B) : Pens w' B bp bq lp lq := by
  obtain ⟨dp, ip, dq, iq, h⟩ := h
  exact ⟨dp, ip, dq, iq, PenAt.kept h.p c (fun k hk e => by have := (PenAt.F_lt h.p k hk).1; have := hF k e; omega), PenAt.kept h.q c (fun k hk e => by have := (PenAt.F_lt h.q k hk).1; have := hF k e; omega), h.apart, Nat.le_trans h.base c.size⟩
theorem Pens.below {w w' : World} {B bp bq : Nat} {lp lq : List Step} (h : Pens w B bp bq lp lq) (hb : Below w.heap.size w w') : Pens w' B bp bq lp lq := by
  obtain ⟨dp, ip, dq, iq, h⟩ := h
  exact ⟨dp, ip, dq, iq, penL_below h.p hb, penL_below h.q hb, h.apart, Nat.le_trans h.base hb.size⟩
theorem PensI.stepP {w w' : World} {B bp bq : Nat} {dp ip dq iq dp' ip' : Value} {lp lq lp' : List Step} (h : PensI w B bp bq dp ip dq iq lp lq) (hp : PenL w' B bp dp' ip' lp') (hs : PenStep w w' bp dp ip dp' ip') : Pens w' B bp bq lp' lq ∧ Chg (fun k => B ≤ k) w w' := by
  refine ⟨⟨dp', ip', dq, iq, hp, PenAt.kept h.q hs.chg (fun k hk e => h.apart k e hk), penF_apart hs (fun k hk => (PenAt.F_lt h.q k hk).2) h.apart, Nat.le_trans h.base hs.chg.size⟩, ?_⟩
  exact ⟨hs.chg.os, hs.chg.tape, hs.chg.output, hs.chg.size, fun k hk hn => hs.chg.block k hk (fun e => hn (PenAt.F_lt h.p k e).1)⟩

theorem pens_keepP (w : World) (B bp bq : Nat) (lp lq : List Step) (n : Nat) (h : Pens w B bp bq lp lq) (hl : lp.length ≤ 100000) (h1 : 1 ≤ n) (hk : n ≤ 100000) :
    Calls Tryd.prog 48 #[.pointer (some ⟨bp, 0, none⟩), .int .i64 (n : Int)] w fun e w' => e = .returned (.tuple #[]) ∧ Pens w' B bp bq (lp ++ List.replicate n (1, 0)) lq ∧ Chg (fun k => B ≤ k) w w' := by
  obtain ⟨dp, ip, dq, iq, h⟩ := h
  refine (keepL w B bp dp ip lp n h.p h.base hl h1 hk).mono ?_
  rintro e w' ⟨rfl, dp', ip', hp, hs⟩
  exact ⟨rfl, h.stepP hp hs⟩
theorem pens_removeP (w : World) (B bp bq : Nat) (lp lq : List Step) (n : Nat) (h : Pens w B bp bq lp lq) (hl : lp.length ≤ 100000) (hk : n ≤ 100000) :
    Calls Tryd.prog 54 #[.pointer (some ⟨bp, 0, none⟩), .int .i64 (n : Int)] w fun e w' => e = .returned (.tuple #[]) ∧ Pens w' B bp bq (lp ++ List.replicate n (3, 0)) lq ∧ Chg (fun k => B ≤ k) w w' := by
  obtain ⟨dp, ip, dq, iq, h⟩ := h
  refine (removeL w B bp dp ip lp n h.p hl hk).mono ?_
  rintro e w' ⟨rfl, hp, hs⟩
  exact ⟨rfl, h.stepP hp hs⟩
theorem pens_insertP (w : World) (B bp bq : Nat) (lp lq : List Step) (rs : List Nat) (h : Pens w B bp bq lp lq) (hl : lp.length ≤ 100000) (hs : (str rs).size ≤ 10000000) :
    Calls Tryd.prog 47 #[.pointer (some ⟨bp, 0, none⟩), .string (str rs)] w fun e w' => e = .returned (.tuple #[]) ∧ Pens w' B bp bq (lp ++ insS rs) lq ∧ Chg (fun k => B ≤ k) w w' := by
  obtain ⟨dp, ip, dq, iq, h⟩ := h
  refine (insertL w B bp dp ip lp rs h.p h.base hl hs).mono ?_
  rintro e w' ⟨rfl, ip', hp, hs⟩
  exact ⟨rfl, h.stepP hp hs⟩
theorem pens_keepQ (w : World) (B bp bq : Nat) (lp lq : List Step) (n : Nat) (h : Pens w B bp bq lp lq) (hl : lq.length ≤ 100000) (h1 : 1 ≤ n) (hk : n ≤ 100000) :
    Calls Tryd.prog 48 #[.pointer (some ⟨bq, 0, none⟩), .int .i64 (n : Int)] w fun e w' => e = .returned (.tuple #[]) ∧ Pens w' B bp bq lp (lq ++ List.replicate n (1, 0)) ∧ Chg (fun k => B ≤ k) w w' := by
  refine (pens_keepP w B bq bp lq lp n h.symm hl h1 hk).mono ?_
  rintro e w' ⟨rfl, hp, hs⟩
  exact ⟨rfl, hp.symm, hs⟩
theorem pens_removeQ (w : World) (B bp bq : Nat) (lp lq : List Step) (n : Nat) (h : Pens w B bp bq lp lq) (hl : lq.length ≤ 100000) (hk : n ≤ 100000) :
    Calls Tryd.prog 54 #[.pointer (some ⟨bq, 0, none⟩), .int .i64 (n : Int)] w fun e w' => e = .returned (.tuple #[]) ∧ Pens w' B bp bq lp (lq ++ List.replicate n (3, 0)) ∧ Chg (fun k => B ≤ k) w w' := by
  refine (pens_removeP w B bq bp lq lp n h.symm hl hk).mono ?_
  rintro e w' ⟨rfl, hp, hs⟩
  exact ⟨rfl, hp.symm, hs⟩
theorem pens_insertQ (w : World) (B bp bq : Nat) (lp lq : List Step) (rs : List Nat) (h : Pens w B bp bq lp lq) (hl : lq.length ≤ 100000) (hs : (str rs).size ≤ 10000000) :
    Calls Tryd.prog 47 #[.pointer (some ⟨bq, 0, none⟩), .string (str rs)] w fun e w' => e = .returned (.tuple #[]) ∧ Pens w' B bp bq lp (lq ++ insS rs) ∧ Chg (fun k => B ≤ k) w w' := by
  refine (pens_insertP w B bq bp lq lp rs h.symm hl hs).mono ?_
  rintro e w' ⟨rfl, hp, hs⟩
  exact ⟨rfl, hp.symm, hs⟩
/-- 'return p.op(), q.op()' -/
theorem pens_opP (w : World) (B bp bq : Nat) (lp lq : List Step) (h : Pens w B bp bq lp lq) (hl : lp.length ≤ 100000) :
    Calls Tryd.prog 51 #[.pointer (some ⟨bp, 0, none⟩)] w fun e w' => ∃ v, e = .returned v ∧ w'.ownsRow B 33 3 v (group lp).length (partCells (group lp)) ∧ (∃ dq iq, PenL w' B bq dq iq lq ∧ ∀ k, v.ownBlock = some k → ¬ penF bq dq iq k) ∧ Chg (fun k => B ≤ k) w w' := by
  obtain ⟨dp, ip, dq, iq, h⟩ := h
  refine (opL w B bp dp ip lp h.p h.base hl).mono ?_
  rintro e w' ⟨dp', ip', rfl, hp, hs⟩
  have hc : Chg (fun k => B ≤ k) w w' := ⟨hs.chg.os, hs.chg.tape, hs.chg.output, hs.chg.size, fun k hk hn => hs.chg.block k hk (fun e => hn (PenAt.F_lt h.p k e).1)⟩
  have ha := penF_apart hs (fun k hk => (PenAt.F_lt h.q k hk).2) h.apart
  exact ⟨_, rfl, hp.own, ⟨dq, iq, PenAt.kept h.q hs.chg (fun k hk e => h.apart k e hk), fun k hk => ha k (.inr (.inl hk))⟩, hc⟩

theorem PensI.below {w w' : World} {B bp bq : Nat} {dp ip dq iq : Value} {lp lq : List Step} (h : PensI w B bp bq dp ip dq iq lp lq) (hb : Below w.heap.size w w') : PensI w' B bp bq dp ip dq iq lp lq :=
  ⟨penL_below h.p hb, penL_below h.q hb, h.apart, Nat.le_trans h.base hb.size⟩
theorem PensI.kept {F : Nat → Prop} {w w' : World} {B bp bq : Nat} {dp ip dq iq : Value} {lp lq : List Step} (h : PensI w B bp bq dp ip dq iq lp lq) (c : Chg F w w') (hF : ∀ k, F k → k < B ∨ w.heap.size ≤ k) : PensI w' B bp bq dp ip dq iq lp lq :=
  ⟨PenAt.kept h.p c (fun k hk e => by have := PenAt.F_lt h.p k hk; have := hF k e; omega), PenAt.kept h.q c (fun k hk e => by have := PenAt.F_lt h.q k hk; have := hF k e; omega), h.apart, Nat.le_trans h.base c.size⟩
theorem chg_base {w w' : World} {B b : Nat} {dv iv dv' iv' : Value} {l : List Step} (h : PenL w B b dv iv l) (hs : PenStep w w' b dv iv dv' iv') : Chg (fun k => B ≤ k) w w' :=
  ⟨hs.chg.os, hs.chg.tape, hs.chg.output, hs.chg.size, fun k hk hn => hs.chg.block k hk (fun e => hn (PenAt.F_lt h k e).1)⟩
theorem alloc2 (w : World) (A C : Obj) : Below w.heap.size w ((w.alloc A).alloc C) := ((Below.refl _ _).alloc (Nat.le_refl _) _).alloc (by simp) _

end Go.Proofs.YtodnocplljkjnaaDoor

/- Walk: text.meet. -/
namespace Go.Proofs.YtodnocplljkjnaaDoor
open Go.RowKit Go.Lib

set_option maxRecDepth 100000 in
set_option maxHeartbeats 1000000 in
theorem meet_kk (w : World) (B bp bq : Nat) (lp lq : List Step) (kx ky : Int) (n : Nat) (tx ty : ByteArray) (h : Pens w B bp bq lp lq) (hlp : lp.length ≤ 100000) (hlq : lq.length ≤ 100000) (h1 : 1 ≤ n) (hk : n ≤ 100000) (hx : kx = 1) (hy : ky = 1) :
    Calls Tryd.prog 49 #[.agg #[.int .i64 kx, .int .i64 (n : Int), .string tx], .agg #[.int .i64 ky, .int .i64 (n : Int), .string ty], .pointer (some ⟨bp, 0, none⟩), .pointer (some ⟨bq, 0, none⟩)] w fun e w' => e = .returned (.tuple #[]) ∧ Pens w' B bp bq (lp ++ List.replicate n (1, 0)) (lq ++ List.replicate n (1, 0)) ∧ Chg (fun k => B ≤ k) w w' := by
  subst hx hy
  obtain ⟨dp, ip, dq, iq, h⟩ := h
  have hbase := h.base
  go_enter Tryd.func49, Tryd.ntmps49
  go_wp2_with fail
  have h2 := fun A C => h.below (alloc2 w A C)
  refine (keepL _ B bp dp ip lp n (h2 _ _).p (h2 _ _).base hlp h1 hk).mono ?_
  rintro e w1 ⟨rfl, dp', ip', hp1, hs1⟩
  obtain ⟨hP1, hc1⟩ := (h2 _ _).stepP hp1 hs1
  have k1 : w1.cell? ⟨w.heap.size, 1, none⟩ = some (.int .i64 (n : Int)) := by
    rw [World.cell?_of_block (a := ⟨w.heap.size, 1, none⟩) (hs1.chg.block w.heap.size (by simp; omega) (fun hF => by have := (PenAt.F_lt h.p _ hF).2; omega))]
    rw [Lib.cell_of_heap (row_old (heap_alloc_new w _) _)]
    rfl
  clear hs1 hp1 h2
  have hc : Chg (fun k => B ≤ k) w w1 := (((Chg.refl _ w).alloc _).alloc _).trans hc1 (fun _ _ e => e)
  clear hc1
  go_wp2_with fail
  refine (pens_keepQ w1 B bp bq _ lq n hP1 hlq h1 hk).mono ?_
  rintro e w2 ⟨rfl, hP2, hc2⟩
  go_wp2
  go_end0
  exact ⟨rfl, hP2, hc.trans hc2 (fun _ _ e => e)⟩
set_option maxRecDepth 100000 in
set_option maxHeartbeats 1000000 in
theorem meet_dk (w : World) (B bp bq : Nat) (lp lq : List Step) (kx ky : Int) (n : Nat) (tx ty : ByteArray) (h : Pens w B bp bq lp lq) (hlp : lp.length ≤ 100000) (hk : n ≤ 100000) (hx : kx = 3) (hy : ky = 1) :
    Calls Tryd.prog 49 #[.agg #[.int .i64 kx, .int .i64 (n : Int), .string tx], .agg #[.int .i64 ky, .int .i64 (n : Int), .string ty], .pointer (some ⟨bp, 0, none⟩), .pointer (some ⟨bq, 0, none⟩)] w fun e w' => e = .returned (.tuple #[]) ∧ Pens w' B bp bq (lp ++ List.replicate n (3, 0)) lq ∧ Chg (fun k => B ≤ k) w w' := by
  subst hx hy
  go_enter Tryd.func49, Tryd.ntmps49
  go_wp2_with fail
  refine (pens_removeP _ B bp bq lp lq n (h.below (alloc2 w _ _)) hlp hk).mono ?_
  rintro e w1 ⟨rfl, hP1, hc1⟩
  have hc : Chg (fun k => B ≤ k) w w1 := (((Chg.refl _ w).alloc _).alloc _).trans hc1 (fun _ _ e => e)
  clear hc1
  go_wp2
  go_end0
  exact ⟨rfl, hP1, hc⟩
set_option maxRecDepth 100000 in
set_option maxHeartbeats 1000000 in
theorem meet_kd (w : World) (B bp bq : Nat) (lp lq : List Step) (kx ky : Int) (n : Nat) (tx ty : ByteArray) (h : Pens w B bp bq lp lq) (hlq : lq.length ≤ 100000) (hk : n ≤ 100000) (hx : kx = 1) (hy : ky = 3) :
    Calls Tryd.prog 49 #[.agg #[.int .i64 kx, .int .i64 (n : Int), .string tx], .agg #[.int .i64 ky, .int .i64 (n : Int), .string ty], .pointer (some ⟨bp, 0, none⟩), .pointer (some ⟨bq, 0, none⟩)] w fun e w' => e = .returned (.tuple #[]) ∧ Pens w' B bp bq lp (lq ++ List.replicate n (3, 0)) ∧ Chg (fun k => B ≤ k) w w' := by
  subst hx hy
  go_enter Tryd.func49, Tryd.ntmps49
  go_wp2_with fail
  refine (pens_removeQ _ B bp bq lp lq n (h.below (alloc2 w _ _)) hlq hk).mono ?_
  rintro e w1 ⟨rfl, hP1, hc1⟩
  have hc : Chg (fun k => B ≤ k) w w1 := (((Chg.refl _ w).alloc _).alloc _).trans hc1 (fun _ _ e => e)
  clear hc1
  go_wp2
  go_end0
  exact ⟨rfl, hP1, hc⟩
set_option maxRecDepth 100000 in
set_option maxHeartbeats 1000000 in
theorem meet_dd (w : World) (B bp bq : Nat) (lp lq : List Step) (kx ky : Int) (n : Nat) (tx ty : ByteArray) (h : Pens w B bp bq lp lq) (hx : kx = 3) (hy : ky = 3) :
    Calls Tryd.prog 49 #[.agg #[.int .i64 kx, .int .i64 (n : Int), .string tx], .agg #[.int .i64 ky, .int .i64 (n : Int), .string ty], .pointer (some ⟨bp, 0, none⟩), .pointer (some ⟨bq, 0, none⟩)] w fun e w' => e = .returned (.tuple #[]) ∧ Pens w' B bp bq lp lq ∧ Chg (fun k => B ≤ k) w w' := by
  subst hx hy
  go_enter Tryd.func49, Tryd.ntmps49
  go_wp2
  go_end0
  exact ⟨rfl, h.below (alloc2 w _ _), ((Chg.refl _ w).alloc _).alloc _⟩
theorem meet_any (w : World) (B bp bq : Nat) (lp lq : List Step) (kx ky : Int) (n : Nat) (tx ty : ByteArray) (h : Pens w B bp bq lp lq) (hlp : lp.length ≤ 100000) (hlq : lq.length ≤ 100000) (h1 : 1 ≤ n) (hk : n ≤ 100000) (hx : kx = 1 ∨ kx = 3) (hy : ky = 1 ∨ ky = 3) :
    Calls Tryd.prog 49 #[.agg #[.int .i64 kx, .int .i64 (n : Int), .string tx], .agg #[.int .i64 ky, .int .i64 (n : Int), .string ty], .pointer (some ⟨bp, 0, none⟩), .pointer (some ⟨bq, 0, none⟩)] w fun e w' => e = .returned (.tuple #[]) ∧
      Pens w' B bp bq (lp ++ (if ky = 1 then List.replicate n (kx, 0) else [])) (lq ++ (if kx = 1 then List.replicate n (ky, 0) else [])) ∧ Chg (fun k => B ≤ k) w w' := by
  rcases hx with hx | hx <;> rcases hy with hy | hy
  · simpa [hx, hy] using meet_kk w B bp bq lp lq kx ky n tx ty h hlp hlq h1 hk hx hy
  · simpa [hx, hy] using meet_kd w B bp bq lp lq kx ky n tx ty h hlq hk hx hy
  · simpa [hx, hy] using meet_dk w B bp bq lp lq kx ky n tx ty h hlp hk hx hy
  · simpa [hx, hy] using meet_dd w B bp bq lp lq kx ky n tx ty h hx hy

end Go.Proofs.YtodnocplljkjnaaDoor
