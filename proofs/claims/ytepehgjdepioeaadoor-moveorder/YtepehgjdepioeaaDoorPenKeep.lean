/-
  Walks: the pen's keep and op.
-/
import Derived.Test.YtepehgjdepioeaaDoorPenWalk
namespace Go.Proofs.YtepehgjdepioeaaDoor
open Go.RowKit Go.Lib

theorem PenS.all_len (P : PenS) : P.all.length ≤ P.done.length + 2 := by
  unfold PenS.all waitIns waitDel
  simp only [List.length_append]
  split <;> split <;> simp

set_option maxHeartbeats 400000 in
theorem op_any (w : World) (B b : Nat) (dv iv : Value) (P : PenS) (h : PenAt w B b dv iv P) (hB : B ≤ w.heap.size) (hn : P.done.length ≤ 1000000) (hs : P.ins.size ≤ 1000000000) (hd : P.del ≤ 1000000000) :
    Calls Tryd.prog 44 #[.pointer (some ⟨b, 0, none⟩)] w fun e w' => ∃ dv' iv', e = .returned dv' ∧ PenAt w' B b dv' iv' ⟨P.all, ByteArray.empty, 0⟩ ∧ PenStep w w' b dv iv dv' iv' := by
  go_enter Tryd.func44, Tryd.ntmps44
  go_wp2_with fail
  refine (flush_any w B b dv iv P h hB hn hs hd).mono ?_
  rintro e w1 ⟨rfl, dv', iv', hp, hst⟩
  obtain ⟨D, HD⟩ : ∃ D, Hid (P.all = D) := ⟨_, rfl⟩
  have hp : PenAt w1 B b dv' iv' ⟨P.all, ByteArray.empty, 0⟩ := hp
  rw [HD.out] at hp
  obtain ⟨c0, _, _⟩ := hp.cells
  obtain ⟨da, dc, rfl⟩ := own_form hp.own
  go_wp2
  go_ret
  exact ⟨_, iv', rfl, by rw [HD.out]; exact hp, hst⟩

theorem grown_drew {w w' : World} {row : Option Nat} (h : w.grownBy w' row) : w.drew.grownBy w' row := ⟨h.os, h.tape, h.output, h.size, h.block⟩

/-- the last part's cells -/
theorem own_last {w : World} {B : Nat} {v : Value} {D : List Part} {p : Part} (h : w.ownsRow B 42 3 v (D ++ [p]).length (partCells (D ++ [p]))) :
    ∃ g cap, v = .slice (some ⟨g, 0, none⟩) (D.length + 1) cap ∧ w.cell? ⟨g, D.length * 3, none⟩ = some (.int .i64 p.kind) ∧ w.cell? ⟨g, D.length * 3 + 1, none⟩ = some (.int .i64 p.n) := by
  obtain ⟨g, cap, rfl, _, _⟩ := h.form (by simp)
  have hc := h.cells (g := g) rfl
  have e : partCells (D ++ [p]) = partCells D ++ [Value.int .i64 p.kind, Value.int .i64 p.n, Value.string p.text] := by rw [partCells_append, partCells_one]
  have l := partCells_length D
  have h0 := hc (D.length * 3) (.int .i64 p.kind) (by rw [e, List.getElem?_append_right (by omega), l]; simp)
  have h1 := hc (D.length * 3 + 1) (.int .i64 p.n) (by rw [e, List.getElem?_append_right (by omega), l, show D.length * 3 + 1 - D.length * 3 = 1 by omega]; rfl)
  rw [WideShapes.add_plain] at h0 h1
  simp only [Nat.zero_add] at h0 h1
  exact ⟨g, cap, by simp, h0, h1⟩

set_option maxRecDepth 100000 in
set_option maxHeartbeats 1000000 in
theorem keep_any (w : World) (B b : Nat) (dv iv : Value) (P : PenS) (n : Nat) (h : PenAt w B b dv iv P) (hB : B ≤ w.heap.size) (hn : P.done.length ≤ 1000000) (hs : P.ins.size ≤ 1000000000) (hd : P.del ≤ 1000000000) (hk : n ≤ 1000000000) (hm : ∀ p ∈ P.all, p.kind = 1 → 0 ≤ p.n ∧ p.n ≤ 1000000000) :
    Calls Tryd.prog 41 #[.pointer (some ⟨b, 0, none⟩), .int .i64 (n : Int)] w fun e w' => e = .returned (.tuple #[]) ∧ ∃ dv' iv', PenAt w' B b dv' iv' ⟨addKeep P.all n, ByteArray.empty, 0⟩ ∧ PenStep w w' b dv iv dv' iv' := by
  obtain ⟨i0, hi, hz0, hz1, hz2⟩ := info_parts info_part
  have hall := P.all_len
  go_enter Tryd.func41, Tryd.ntmps41
  go_wp2_with fail
  refine (flush_any w B b dv iv P h hB hn hs hd).mono ?_
  rintro e w1 ⟨rfl, dv1, iv1, hp, hst⟩
  have hp : PenAt w1 B b dv1 iv1 ⟨P.all, ByteArray.empty, 0⟩ := hp
  obtain ⟨c0, _, _⟩ := hp.cells
  have f0 := hp.frozen 0
  have hB1 := Nat.le_trans hB hst.chg.size
  obtain ⟨D, HDe⟩ : ∃ D, Hid (P.all = D) := ⟨_, rfl⟩
  rw [HDe.out] at hp hall hm
  rcases List.eq_nil_or_concat D with rfl | ⟨D0, p, rfl⟩
  · obtain ⟨da, dc, rfl⟩ := own_form hp.own
    simp only [List.length_nil] at hp c0 hst
    have t1 : decide ((0 : Int) ≤ 0 - 1) = false := by decide
    go_wp2_with (at_builtin; refine wpList_append_lies _ rfl (.tmp 42) (.tmp 45) 25 rfl B 42 i0 _ 3 32 Tryd.underlying25 hi hz0 hz1 hz2 rfl (by decide) (.slice da 0 dc) 0 (partCells []) rfl (hp.own.alloc _) ⟨w1.heap.size, 0, none⟩ 1 1 [.int .i64 1, .int .i64 (n : Int), .string .empty] rfl rfl (World.news_of_block (cs := #[.int .i64 1, .int .i64 (n : Int), .string .empty]) (t := 42) (fr := (0, 0)) (heap_alloc_new w1 _)) (by simp [Value.oneCell']) (by omega) (by unfold maxLen; omega) (by omega) (by simp; omega) (w1.heap.size + 1) (by simp) ?_; intro g1 cap1 w2 hown1 hgrow1 hat1 hlt1; have blk1 := row_kept (hp.own.alloc _) (row_old hp.blk _) (by decide) hgrow1; have k0 : w2.cell? ⟨b, 0, none⟩ = some ((.slice da 0 dc)) := (by rw [cell_of_row _ _ _ _ _ _ blk1]; rfl); have kf : w2.frozen? ⟨b, 0, none⟩ = false := (by simp [World.frozen?, blk1]))
    go_end0
    obtain ⟨q1, q2⟩ := pen_append hp ⟨1, (n : Int), ByteArray.empty⟩ hown1 (grown_drew hgrow1) hat1
    refine ⟨rfl, _, iv1, ?_, hst.trans q2⟩
    rw [HDe.out, addKeep_nil]
    exact q1
  · rw [List.concat_eq_append] at *
    obtain ⟨g, dc, rfl, k0, k1⟩ := own_last hp.own
    have hlen : D0.length ≤ 1000002 := by simp only [List.length_append, List.length_cons, List.length_nil] at hall; omega
    by_cases h1 : p.kind = 1
    · have hpn := hm p (by simp) h1
      rw [h1] at k0
      have t2 : (0 : Int) ≤ (D0.length : Int) := by omega
      have kfz : ∀ j, w1.frozen? ⟨g, j, none⟩ = false := fun j => by
        rcases hp.own.2 with ⟨h', _⟩ | ⟨g', cap', cur, h', hb, hg, _⟩
        · simp at h'
        · simp only [Value.slice.injEq, Option.some.injEq, Addr.mk.injEq, and_true] at h'
          obtain ⟨rfl, _⟩ := h'
          simp [World.frozen?, hg]
      go_wp2
      refine bodyPost_ret (v := .tuple #[]) (by simp [results, Tryd.results41, go_sem]) rfl ⟨rfl, .slice (some ⟨g, 0, none⟩) (D0.length + 1) dc, iv1, ?_, ?_⟩
      · rw [HDe.out, addKeep_grow _ _ _ h1]
        have hbg : b ≠ g := fun e => row_ne hp.own hp.blk (by decide) (by subst e; rfl)
        have hown' : w1.ownsRow B 42 3 (.slice (some ⟨g, 0, none⟩) (D0.length + 1) dc) (D0.length + 1) (partCells (D0 ++ [p])) := by simpa using hp.own
        refine ⟨h.base, ?_, ?_, ?_⟩
        · rw [Below.heap_setCell w1 ⟨g, _, none⟩ _ b hbg]
          exact hp.blk
        · have := (hown'.stored (D0.length * 3 + 1) (.int .i64 (p.n + n))).1
          have e : (partCells (D0 ++ [p])).set (D0.length * 3 + 1) (.int .i64 (p.n + n)) = partCells (D0 ++ [⟨1, p.n + n, p.text⟩]) := by
            rw [partCells_append, partCells_append, partCells_one, partCells_one, List.set_append_right _ _ (by rw [partCells_length]; omega), partCells_length, show D0.length * 3 + 1 - D0.length * 3 = 1 by omega, h1]
            rfl
          rw [e] at this
          simpa using this
        · exact own_chg (F := fun k => k = g) hp.ins ((Chg.refl (fun k => k = g) w1).setCell (p := ⟨g, _, none⟩) rfl _) (fun k hk e => by subst e; exact own_ne hp.ins hp.own (by decide) k hk rfl)
      · refine hst.trans ⟨(Chg.refl _ w1).setCell (p := ⟨g, _, none⟩) (.inr (.inl rfl)) _, Moves.refl _ _, Moves.refl _ _⟩
    · have g1 : (p.kind == 1) = false := by simpa using h1
      have t2 : (0 : Int) ≤ (D0.length : Int) := by omega
      go_wp2_with (at_builtin; refine wpList_append_lies _ rfl (.tmp 42) (.tmp 45) 25 rfl B 42 i0 _ 3 32 Tryd.underlying25 hi hz0 hz1 hz2 rfl (by decide) (.slice (some ⟨g, 0, none⟩) (D0.length + 1) dc) (D0.length + 1) (partCells (D0 ++ [p])) rfl ((show w1.ownsRow B 42 3 (.slice (some ⟨g, 0, none⟩) (D0.length + 1) dc) (D0.length + 1) (partCells (D0 ++ [p])) from by simpa using hp.own).alloc _) ⟨w1.heap.size, 0, none⟩ 1 1 [.int .i64 1, .int .i64 (n : Int), .string .empty] rfl rfl (World.news_of_block (cs := #[.int .i64 1, .int .i64 (n : Int), .string .empty]) (t := 42) (fr := (0, 0)) (heap_alloc_new w1 _)) (by simp [Value.oneCell']) (by omega) (by unfold maxLen; omega) (by omega) (by simp; omega) (w1.heap.size + 1) (by simp) ?_; intro g1 cap1 w2 hown1 hgrow1 hat1 hlt1; have blk1 := row_kept ((show w1.ownsRow B 42 3 (.slice (some ⟨g, 0, none⟩) (D0.length + 1) dc) (D0.length + 1) (partCells (D0 ++ [p])) from by simpa using hp.own).alloc _) (row_old hp.blk _) (by decide) hgrow1; have k0 : w2.cell? ⟨b, 0, none⟩ = some ((.slice (some ⟨g, 0, none⟩) (D0.length + 1) dc)) := (by rw [cell_of_row _ _ _ _ _ _ blk1]; rfl); have kf : w2.frozen? ⟨b, 0, none⟩ = false := (by simp [World.frozen?, blk1]))
      go_end0
      obtain ⟨q1, q2⟩ := pen_append hp ⟨1, (n : Int), ByteArray.empty⟩ (by rw [partCells_one]; simpa using hown1) (grown_drew hgrow1) hat1
      simp only [List.length_append, List.length_cons, List.length_nil, Nat.zero_add] at q1 q2
      refine ⟨rfl, .slice (some ⟨g1, 0, none⟩) (D0.length + 1 + 1) cap1, iv1, ?_, hst.trans q2⟩
      rw [HDe.out, addKeep_new _ _ _ h1]
      exact q1

end Go.Proofs.YtepehgjdepioeaaDoor
