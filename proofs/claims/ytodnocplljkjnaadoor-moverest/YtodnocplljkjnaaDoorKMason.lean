/-
  Walk: (*wherrykeep.mason).add.
-/
import Derived.Test.YtodnocplljkjnaaDoorPenWalk
namespace Go.Proofs.YtodnocplljkjnaaDoor
open Go.RowKit Go.Lib

/-- A mason lies in block b: its row is its own. -/
structure MasonAt (w : World) (B b : Nat) (ov : Value) (D : List Part) (left : Int) : Prop where
  base : B ≤ b
  blk : w.heap[b]? = some (.cells #[ov, .int .i64 left] 30 (0, 0))
  own : w.ownsRow B 33 3 ov D.length (partCells D)
/-- the blocks of a mason -/
def masonF (b : Nat) (ov : Value) (k : Nat) : Prop := k = b ∨ ov.ownBlock = some k
/-- What a call on a mason may do. -/
structure MasonStep (w w' : World) (b : Nat) (ov ov' : Value) : Prop where
  chg : Chg (masonF b ov) w w'
  mov : Moves w ov ov'
theorem MasonStep.trans {w w' w'' : World} {b : Nat} {ov ov' ov'' : Value} (h : MasonStep w w' b ov ov') (k : MasonStep w' w'' b ov' ov'') : MasonStep w w'' b ov ov'' := by
  refine ⟨h.chg.trans k.chg ?_, h.mov.trans k.mov h.chg.size⟩
  rintro i hi (rfl | hk)
  · exact .inl rfl
  · rcases h.mov i hk with h1 | h1
    · exact .inr h1
    · omega
theorem MasonStep.refl (w : World) (b : Nat) (ov : Value) : MasonStep w w b ov ov := ⟨Chg.refl _ _, Moves.refl _ _⟩
theorem MasonAt.cells {w : World} {B b : Nat} {ov : Value} {D : List Part} {left : Int} (h : MasonAt w B b ov D left) : w.cell? ⟨b, 0, none⟩ = some ov ∧ w.cell? ⟨b, 1, none⟩ = some (.int .i64 left) :=
  ⟨by rw [cell_of_row _ _ _ _ _ _ h.blk]; rfl, by rw [cell_of_row _ _ _ _ _ _ h.blk]; rfl⟩
theorem MasonAt.frozen {w : World} {B b : Nat} {ov : Value} {D : List Part} {left : Int} (h : MasonAt w B b ov D left) (j : Nat) : w.frozen? ⟨b, j, none⟩ = false := by
  simp [World.frozen?, h.blk]
theorem MasonAt.lt {w : World} {B b : Nat} {ov : Value} {D : List Part} {left : Int} (h : MasonAt w B b ov D left) : ∀ k, masonF b ov k → B ≤ k ∧ k < w.heap.size := by
  rintro k (rfl | hk)
  · exact ⟨h.base, lt_of_heap h.blk⟩
  · exact h.own.lt k hk
theorem MasonAt.kept {F : Nat → Prop} {w w' : World} {B b : Nat} {ov : Value} {D : List Part} {left : Int} (h : MasonAt w B b ov D left) (c : Chg F w w') (hn : ∀ k, masonF b ov k → ¬ F k) : MasonAt w' B b ov D left :=
  ⟨h.base, by rw [c.block b (h.lt b (.inl rfl)).2 (hn b (.inl rfl))]; exact h.blk, own_chg h.own c (fun k hk => hn k (.inr hk))⟩
theorem MasonAt.kept' {w w' : World} {B b : Nat} {ov : Value} {D : List Part} {left : Int} (h : MasonAt w B b ov D left) (hb : Below w.heap.size w w') : MasonAt w' B b ov D left :=
  h.kept (F := fun _ => False) (Chg.of_below hb) (fun _ _ h => h)
theorem MasonStep.below {w w' : World} {B b : Nat} {ov ov' : Value} {D : List Part} {left : Int} (hst : MasonStep w w' b ov ov') (h : MasonAt w B b ov D left) (hB : B ≤ w.heap.size) : Below B w w' :=
  hst.chg.below (fun k hk => (h.lt k hk).1) hB

/-- 'x[:n-1]' of an owned row -/
theorem own_front {w : World} {B g cap : Nat} {D : List Part} {p : Part} (h : w.ownsRow B 33 3 (.slice (some ⟨g, 0, none⟩) (D.length + 1) cap) (D.length + 1) (partCells (D ++ [p]))) :
    w.ownsRow B 33 3 (.slice (some ⟨g, 0, none⟩) D.length cap) D.length (partCells D) := by
  refine ⟨by rw [partCells_length], ?_⟩
  rcases h.2 with ⟨h1, h2⟩ | ⟨g', cap', cur, h1, hb, hg, h2, h3, h4, h5⟩
  · simp at h1
  · right
    simp only [Value.slice.injEq, Option.some.injEq, Addr.mk.injEq, and_true, true_and] at h1
    obtain ⟨rfl, rfl⟩ := h1
    refine ⟨g, cap, cur, rfl, hb, hg, by omega, h3, h4, ?_⟩
    have e : (cur.toList.take ((D.length + 1) * 3)).take (D.length * 3) = (partCells (D ++ [p])).take (D.length * 3) := by rw [h5]
    rw [List.take_take, Nat.min_eq_left (by omega), partCells_append, ← partCells_length D, List.take_left'] at e
    · rw [partCells_length] at e; exact e
    · rfl
theorem own_lastText {w : World} {B : Nat} {v : Value} {D : List Part} {p : Part} (h : w.ownsRow B 33 3 v (D ++ [p]).length (partCells (D ++ [p]))) :
    ∃ g cap, v = .slice (some ⟨g, 0, none⟩) (D.length + 1) cap ∧ w.cell? ⟨g, D.length * 3, none⟩ = some (.int .i64 p.kind) ∧ w.cell? ⟨g, D.length * 3 + 1, none⟩ = some (.int .i64 p.n) ∧ w.cell? ⟨g, D.length * 3 + 2, none⟩ = some (.string p.text) ∧ (∀ j, w.frozen? ⟨g, j, none⟩ = false) := by
  obtain ⟨g, cap, rfl, _, _⟩ := h.form (by simp)
  have hc := h.cells (g := g) rfl
  have e : partCells (D ++ [p]) = partCells D ++ [Value.int .i64 p.kind, Value.int .i64 p.n, Value.string p.text] := by rw [partCells_append, partCells_one]
  have l := partCells_length D
  have h0 := hc (D.length * 3) (.int .i64 p.kind) (by rw [e, List.getElem?_append_right (by omega), l]; simp)
  have h1 := hc (D.length * 3 + 1) (.int .i64 p.n) (by rw [e, List.getElem?_append_right (by omega), l, show D.length * 3 + 1 - D.length * 3 = 1 by omega]; rfl)
  have h2 := hc (D.length * 3 + 2) (.string p.text) (by rw [e, List.getElem?_append_right (by omega), l, show D.length * 3 + 2 - D.length * 3 = 2 by omega]; rfl)
  rw [WideShapes.add_plain] at h0 h1 h2
  simp only [Nat.zero_add] at h0 h1 h2
  refine ⟨g, cap, by simp, h0, h1, h2, fun j => ?_⟩
  rcases h.2 with ⟨h', _⟩ | ⟨g', cap', cur, h', hb, hg, _⟩
  · simp at h'
  · simp only [Value.slice.injEq, Option.some.injEq, Addr.mk.injEq, and_true] at h'
    obtain ⟨rfl, _⟩ := h'
    simp [World.frozen?, hg]

/-- behind 'm.o = append(m.o, part)' -/
theorem mason_append {w w1 : World} {B b : Nat} {ov : Value} {D : List Part} {left : Int} (h : MasonAt w B b ov D left) (p : Part) {g cap : Nat} {o : Obj}
    (hown : w1.ownsRow B 33 3 (.slice (some ⟨g, 0, none⟩) (D.length + 1) cap) (D.length + 1) (partCells D ++ partCells [p])) (hgrow : (w.alloc o).drew.grownBy w1 ov.ownBlock) (hat : ov.ownBlock = some g ∨ g = w.heap.size + 1) :
    MasonAt (w1.setCell ⟨b, 0, none⟩ (.slice (some ⟨g, 0, none⟩) (D.length + 1) cap)) B b (.slice (some ⟨g, 0, none⟩) (D.length + 1) cap) (D ++ [p]) left ∧
      MasonStep w (w1.setCell ⟨b, 0, none⟩ (.slice (some ⟨g, 0, none⟩) (D.length + 1) cap)) b ov (.slice (some ⟨g, 0, none⟩) (D.length + 1) cap) := by
  have blk1 := row_kept (own_drew (h.own.alloc _)) (row_old h.blk _) (by decide) hgrow
  refine ⟨⟨h.base, ?_, ?_⟩, ⟨?_, ?_⟩⟩
  · rw [heap_setCell_same w1 b 0 _ _ _ blk1]
    simp
  · have := own_set (j := 0) hown blk1 (by decide) (.slice (some ⟨g, 0, none⟩) (D.length + 1) cap)
    rw [← partCells_append] at this
    simpa using this
  · exact (((Chg.refl _ w).alloc o).drew.grown hgrow (fun k _ e => .inr e)).setCell (p := ⟨b, 0, none⟩) (.inl rfl) _
  · intro k hk
    simp [Value.ownBlock] at hk
    subst hk
    rcases hat with h1 | h1
    · exact .inl h1
    · exact .inr (by omega)

theorem Chg.drewN {F : Nat → Prop} {a w : World} (h : Chg F a w) (n : Nat) : Chg F a (w.drewN n) := ⟨h.os, h.tape, h.output, h.size, h.block⟩
/-- a part that is nothing -/
def Bare (p : Part) : Prop := (p.kind ≠ 2 ∧ p.n = 0) ∨ (p.kind = 2 ∧ p.text.size = 0)

set_option maxRecDepth 100000 in
set_option maxHeartbeats 1000000 in
theorem add_bare (w : World) (B b : Nat) (ov : Value) (D : List Part) (left : Int) (p : Part) (h : MasonAt w B b ov D left) (hp : Bare p) :
    Calls Tryd.prog 9 #[.pointer (some ⟨b, 0, none⟩), .agg #[.int .i64 p.kind, .int .i64 p.n, .string p.text]] w fun e w' => e = .returned (.tuple #[]) ∧ MasonAt w' B b ov D left ∧ MasonStep w w' b ov ov := by
  obtain ⟨c0, _⟩ := h.cells
  have hbl := (h.lt b (.inl rfl)).2
  obtain ⟨oa, oc, rfl⟩ := own_form h.own
  obtain ⟨kd, n, tx⟩ := p
  rcases hp with ⟨h1, h2⟩ | ⟨h1, h2⟩
  · simp only at h1 h2
    subst h2
    have g1 : (kd != 2) = true := by simpa using h1
    go_enter Tryd.func9, Tryd.ntmps9
    go_wp2_with fail
    go_end0
    exact ⟨rfl, h.kept (F := fun _ => False) ((Chg.refl _ w).alloc _) (fun _ _ h => h), (Chg.refl _ w).alloc _, Moves.refl _ _⟩
  · simp only at h1 h2
    subst h1
    obtain rfl := empty_of tx h2
    go_enter Tryd.func9, Tryd.ntmps9
    go_wp2_with fail
    go_end0
    exact ⟨rfl, h.kept (F := fun _ => False) ((Chg.refl _ w).alloc _) (fun _ _ h => h), (Chg.refl _ w).alloc _, Moves.refl _ _⟩

end Go.Proofs.YtodnocplljkjnaaDoor
