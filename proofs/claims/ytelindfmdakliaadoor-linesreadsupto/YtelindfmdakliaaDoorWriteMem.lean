/-
  Walks: strings.Builder's WriteString and WriteByte, and what they change.
-/
import Derived.Test.YtelindfmdakliaaDoorBuilderWalk
import Derived.Test.YtelindfmdakliaaDoorTyps
namespace Go.Proofs.YtelindfmdakliaaDoor
open Go.RowKit Go.Lib


/-- a builder, and the row that it holds -/
structure BuV (B b : Nat) (v : Value) (bs : List Value) (w : World) : Prop where
  base : B ≤ b
  heap : ∃ p, (p = .pointer none ∨ p = .pointer (some ⟨b, 0, none⟩)) ∧ w.heap[b]? = some (.cells #[p, v] 51 (0, 0))
  own : w.ownsRow B 5 1 v bs.length bs
  ne : v.ownBlock ≠ some b
/-- what a write may change -/
structure BStep (b : Nat) (v v' : Value) (w w' : World) : Prop where
  chg : Chg (fun k => k = b ∨ v.ownBlock = some k) w w'
  new : ∀ k, v'.ownBlock = some k → v.ownBlock = some k ∨ w.heap.size ≤ k
theorem BStep.refl (b : Nat) (v : Value) (w : World) : BStep b v v w w := ⟨Chg.refl _ w, fun _ h => .inl h⟩
theorem BStep.trans {b : Nat} {v v' v'' : Value} {w w' w'' : World} (h : BStep b v v' w w') (k : BStep b v' v'' w' w'') : BStep b v v'' w w'' :=
  ⟨h.chg.trans k.chg fun i hi hx => by
    rcases hx with hx | hx
    · exact .inl hx
    · rcases h.new i hx with h1 | h1
      · exact .inr h1
      · omega,
  fun i hi => by
    rcases k.new i hi with h1 | h1
    · exact h.new i h1
    · exact .inr (Nat.le_trans h.chg.size h1)⟩
theorem BStep.below {B b : Nat} {v v' : Value} {bs : List Value} {w w' : World} (h : BStep b v v' w w') (hv : BuV B b v bs w) (hB : B ≤ w.heap.size) : Below B w w' :=
  h.chg.below (fun k hk => by
    rcases hk with rfl | hk
    · exact hv.base
    · exact (hv.own.lt k hk).1) hB
theorem BStep.far {b k : Nat} {v v' : Value} {w w' : World} (h : BStep b v v' w w') (hk : k < w.heap.size) (h1 : k ≠ b) (h2 : v.ownBlock ≠ some k) : w'.heap[k]? = w.heap[k]? ∧ v'.ownBlock ≠ some k :=
  ⟨h.chg.block k hk (fun hx => hx.elim h1 h2), fun hx => (h.new k hx).elim h2 (fun hx => absurd hx (by omega))⟩
theorem BuV.below {B b : Nat} {v : Value} {bs : List Value} {w w' : World} (h : BuV B b v bs w) (hb : Below w.heap.size w w') : BuV B b v bs w' := by
  obtain ⟨p, hp, hh⟩ := h.heap
  exact ⟨h.base, ⟨p, hp, (hb.block b (Array.getElem?_eq_some_iff.1 hh).1).trans hh⟩, own_below h.own hb, h.ne⟩
theorem BStep.of_below {b : Nat} {v : Value} {w w' : World} (hb : Below w.heap.size w w') : BStep b v v w w' := ⟨Chg.of_below hb, fun _ h => .inl h⟩
theorem BuV.lt {B b : Nat} {v : Value} {bs : List Value} {w : World} (h : BuV B b v bs w) : b < w.heap.size := by
  obtain ⟨p, _, hh⟩ := h.heap
  exact (Array.getElem?_eq_some_iff.1 hh).1
theorem BuV.is {B b : Nat} {v : Value} {bs : List Value} {w : World} (h : BuV B b v bs w) : Lib.IsBuilder 51 5 B b bs w := by
  obtain ⟨p, hp, hh⟩ := h.heap
  rcases hp with rfl | rfl
  · exact .inl ⟨h.base, v, hh, h.own, h.ne⟩
  · exact .inr ⟨h.base, v, hh, h.own, h.ne⟩
theorem buV_of {B b : Nat} {bs : List Value} {w : World} (h : Lib.IsBuilder 51 5 B b bs w) : ∃ v, BuV B b v bs w := by
  rcases h with ⟨hB, v, hh, ho, hn⟩ | ⟨hB, v, hh, ho, hn⟩
  · exact ⟨v, hB, ⟨_, .inl rfl, hh⟩, ho, hn⟩
  · exact ⟨v, hB, ⟨_, .inr rfl, hh⟩, ho, hn⟩
theorem BStep.typ {B b : Nat} {v v' : Value} {bs : List Value} {w w' : World} (h : BStep b v v' w w') (hv : BuV B b v bs w) : Typ [51, 5] w w' := by
  obtain ⟨p, _, hh⟩ := hv.heap
  refine ⟨h.chg.size, fun k cs T hT e => (h.chg.block k (heap_lt e) (fun hk => ?_)).trans e⟩
  rcases hk with rfl | hk
  · rw [hh] at e
    cases e
    exact hT (by decide)
  · exact row_ne hv.own e (fun h => hT (h ▸ List.mem_cons_of_mem _ (List.mem_cons_self))) hk.symm
theorem buV_new (w : World) : BuV w.heap.size w.heap.size (.slice none 0 0) [] (w.alloc (.cells #[.pointer none, .slice none 0 0] 51)) :=
  ⟨Nat.le_refl _, ⟨_, .inl rfl, heap_alloc_new w _⟩, World.ownsRow_nil _ _ _ _, by simp [Value.ownBlock]⟩

theorem copyCheck_t (B b : Nat) (v : Value) (bs : List Value) (w : World) (h : BuV B b v bs w) :
    Calls Tryd.prog 53 #[.pointer (some ⟨b, 0, none⟩)] w fun e w' => e = .returned (.tuple #[]) ∧ w'.heap[b]? = some (.cells #[.pointer (some ⟨b, 0, none⟩), v] 51 (0, 0)) ∧ w'.ownsRow B 5 1 v bs.length bs ∧ BStep b v v w w' := by
  obtain ⟨p, hp, hh⟩ := h.heap
  rcases hp with rfl | rfl
  · have hA : Lib.BuilderAt 51 5 B b (.pointer none) bs w := ⟨h.base, v, hh, h.own, h.ne⟩
    refine (copyCheck_fresh b w hA.cell0 hA.shape hA.frozen0).mono ?_
    rintro e w' ⟨rfl, rfl⟩
    have hc := (Chg.refl (fun k => k = b) w).setCell (p := ⟨b, 0, none⟩) rfl (.pointer (some ⟨b, 0, none⟩))
    refine ⟨rfl, heap_setCell_same w b 0 _ _ _ hh, own_chg h.own hc (fun k hk e => h.ne (e ▸ hk)), ⟨⟨hc.os, hc.tape, hc.output, hc.size, fun k hk hn => hc.block k hk (fun e => hn (.inl e))⟩, fun _ h => .inl h⟩⟩
  · have hA : Lib.BuilderAt 51 5 B b (.pointer (some ⟨b, 0, none⟩)) bs w := ⟨h.base, v, hh, h.own, h.ne⟩
    refine (copyCheck_used b w hA.cell0).mono ?_
    rintro e w' ⟨rfl, rfl⟩
    exact ⟨rfl, hh, h.own, BStep.refl _ _ _⟩

/-- the end of a write: the row has grown, and is stored -/
theorem write_end {B b : Nat} {v v' : Value} {ys : List Value} {w w1 w2 : World} (hB : B ≤ b) (hs : BStep b v v w w1) (hbk : w1.heap[b]? = some (.cells #[.pointer (some ⟨b, 0, none⟩), v] 51 (0, 0))) (hne : v.ownBlock ≠ some b)
    (h2 : w2.ownsRow B 5 1 v' ys.length ys) (hg : w1.grownBy w2 v.ownBlock) (hat : ∀ k, v'.ownBlock = some k → v.ownBlock = some k ∨ w1.heap.size ≤ k) :
    BuV B b v' ys (w2.setCell ⟨b, 1, none⟩ v') ∧ BStep b v v' w (w2.setCell ⟨b, 1, none⟩ v') := by
  have blk2 : w2.heap[b]? = some (.cells #[.pointer (some ⟨b, 0, none⟩), v] 51 (0, 0)) := (hg.block b (Array.getElem?_eq_some_iff.1 hbk).1 (fun e => hne e.symm)).trans hbk
  have hne' : v'.ownBlock ≠ some b := fun e => by
    rcases hat b e with h | h
    · exact hne h
    · have := (Array.getElem?_eq_some_iff.1 hbk).1; omega
  have hc := (Chg.refl (fun k => k = b) w2).setCell (p := ⟨b, 1, none⟩) rfl v'
  refine ⟨⟨hB, ⟨_, .inr rfl, heap_setCell_same w2 b 1 _ _ _ blk2⟩, own_chg h2 hc (fun k hk e => hne' (e ▸ hk)), hne'⟩, hs.trans ⟨?_, hat⟩⟩
  have h1 : Chg (fun k => k = b ∨ v.ownBlock = some k) w1 w2 := (Chg.refl _ w1).grown hg (fun k _ e => .inr e)
  exact h1.trans ⟨hc.os, hc.tape, hc.output, hc.size, fun k hk hn => hc.block k hk (fun e => hn e)⟩ (fun _ _ h => .inl h)

theorem copyCheck_y (B b : Nat) (bs : List Value) (w : World) (h : Lib.IsBuilder 51 5 B b bs w) :
    Calls Tryd.prog 53 #[.pointer (some ⟨b, 0, none⟩)] w fun e w' => e = .returned (.tuple #[]) ∧ (Lib.BuilderAt 51 5 B b (.pointer (some ⟨b, 0, none⟩)) bs w' ∧ Below B w w' ∧ Typ [51, 5] w w') := by
  rcases h with h | h
  · refine (copyCheck_fresh b w h.cell0 h.shape h.frozen0).mono ?_
    rintro e w' ⟨rfl, rfl⟩
    refine ⟨rfl, h.used _, (Below.refl B w).setCell (p := ⟨b, 0, none⟩) h.1 _, ?_⟩
    obtain ⟨_, v, hb, _⟩ := h
    exact Typ.stored hb (by decide) ((Chg.refl (fun k => k = b) w).setCell (p := ⟨b, 0, none⟩) rfl _)
  · refine (copyCheck_used b w h.cell0).mono ?_
    rintro e w' ⟨rfl, rfl⟩
    exact ⟨rfl, h, Below.refl B _, Typ.refl _ _⟩

set_option maxHeartbeats 1000000 in
set_option maxRecDepth 100000 in
theorem writeString_t (B b : Nat) (bs : List Value) (s : ByteArray) (w : World) (h : Lib.IsBuilder 51 5 B b bs w) (hlen : bs.length + s.size ≤ 140737488355328) (hBw : B ≤ w.heap.size) :
    Calls Tryd.prog 34 #[.pointer (some ⟨b, 0, none⟩), .string s] w fun e w' => e = .returned (.tuple #[.int .i64 s.size, .nilIface]) ∧ Lib.IsBuilder 51 5 B b (bs ++ Lib.strCells s) w' ∧ Below B w w' ∧ Typ [51, 5] w w' := by
  obtain ⟨i0, hi, hz0, hz1, hz2⟩ := info_parts info_byte
  go_enter Tryd.func34, Tryd.ntmps34
  go_wp2_with fail
  refine (copyCheck_y B b bs _ h).mono ?_
  rintro e w1 ⟨rfl, h1, hb1, ht1⟩
  obtain ⟨hB, v, hbk, hown, hne⟩ := h1
  have c0 : w1.cell? ⟨b, 0, none⟩ = some (.pointer (some ⟨b, 0, none⟩)) := by rw [Lib.cell_of_heap hbk]; rfl
  have c1 : w1.cell? ⟨b, 1, none⟩ = some v := by rw [Lib.cell_of_heap hbk]; rfl
  go_wp2_with (at_builtin; refine Lib.wpList_append_own_string _ rfl _ _ 44 9 rfl B 5 i0 Tryd.underlying44 Tryd.underlying9 hi hz0 hz1 hz2 _ _ _ rfl hown s rfl (by unfold maxLen; omega) (by omega) (by have := hb1.size; omega) ?_; intro v' w2 hown2 hgrow2 hnil2; obtain ⟨ia, ic, rfl⟩ := own_form hown2; have blk2 := row_kept hown hbk (by decide) hgrow2; have d1 : w2.cell? ⟨b, 1, none⟩ = some v := (by rw [Lib.cell_of_heap blk2]; rfl); have f1 : w2.frozen? ⟨b, 1, none⟩ = false := Lib.frozen_of_heap blk2 1)
  go_ret2
  refine ⟨rfl, .inr (Lib.BuilderAt.put hB blk2 (by simpa [Lib.strCells_length] using hown2) (by decide)), ?_, ?_⟩
  · exact (hb1.grown hgrow2 (by have := hb1.size; omega) (fun k e => (hown.lt k e).1)).setCell (p := ⟨b, 1, none⟩) hB _
  · exact (ht1.trans (Typ.grown hown (by decide) hgrow2)).trans (Typ.stored blk2 (by decide) ((Chg.refl (fun k => k = b) w2).setCell (p := ⟨b, 1, none⟩) rfl _))

set_option maxHeartbeats 1000000 in
set_option maxRecDepth 100000 in
theorem writeByte_b (B b : Nat) (v : Value) (bs : List Value) (c : Int) (w : World) (h : BuV B b v bs w) (hlen : bs.length + 1 ≤ 140737488355328) (hBw : B ≤ w.heap.size) :
    Calls Tryd.prog 56 #[.pointer (some ⟨b, 0, none⟩), .int .u8 c] w fun e w' => e = .returned .nilIface ∧ ∃ v', BuV B b v' (bs ++ [.int .u8 c]) w' ∧ BStep b v v' w w' := by
  obtain ⟨i0, hi, hz0, hz1, hz2⟩ := info_parts info_byte
  have hB := h.base
  have hne := h.ne
  go_enter Tryd.func56, Tryd.ntmps56
  go_wp2_with fail
  refine (copyCheck_t B b v bs _ h).mono ?_
  rintro e w1 ⟨rfl, hbk, hown, hs1⟩
  have hzs := hs1.chg.size
  have c0 : w1.cell? ⟨b, 0, none⟩ = some (.pointer (some ⟨b, 0, none⟩)) := by rw [Lib.cell_of_heap hbk]; rfl
  have c1 : w1.cell? ⟨b, 1, none⟩ = some v := by rw [Lib.cell_of_heap hbk]; rfl
  obtain ⟨va, vc, rfl⟩ := own_form hown
  have hm1 := @heap_alloc_new w1 (.cells #[.int .u8 c] 5)
  have hbk1 := row_old hbk (.cells #[.int .u8 c] 5)
  have hown1 := own_below hown ((Below.refl w1.heap.size w1).alloc (Nat.le_refl _) (.cells #[.int .u8 c] 5))
  have hs2 := hs1.trans (BStep.of_below (b := b) (v := .slice va bs.length vc) ((Below.refl w1.heap.size w1).alloc (Nat.le_refl _) (.cells #[.int .u8 c] 5)))
  go_wp2_with (at_builtin; refine wpList_append_lies _ rfl _ _ 44 rfl B 5 i0 _ 1 1 Tryd.underlying44 hi hz0 hz1 hz2 rfl (by decide) (.slice va bs.length vc) bs.length bs rfl hown1 ⟨w1.heap.size, 0, none⟩ 1 1 [.int .u8 c] rfl rfl (World.news_of_block hm1) (by simp [Value.oneCell']) (by omega) (by unfold maxLen; omega) (by omega) (by simp; omega) _ rfl ?_; intro g1 cap1 w2 hown2 hgrow2 hat2 hlt2; have blk2 := row_kept hown1 hbk1 (by decide) hgrow2; have d0 : w2.cell? ⟨b, 0, none⟩ = some (.pointer (some ⟨b, 0, none⟩)) := (by rw [Lib.cell_of_heap blk2]; rfl); have d1 : w2.cell? ⟨b, 1, none⟩ = some (.slice va bs.length vc) := (by rw [Lib.cell_of_heap blk2]; rfl); have f1 : w2.frozen? ⟨b, 1, none⟩ = false := Lib.frozen_of_heap blk2 1)
  go_ret
  have hE := write_end (ys := bs ++ [.int .u8 c]) hB hs2 hbk1 hne (by simpa using hown2) hgrow2 (fun k hk => by
    simp only [Value.ownBlock, Option.some.injEq] at hk
    subst hk
    rcases hat2 with h | h
    · exact .inl h
    · exact .inr (by omega))
  exact ⟨rfl, _, hE.1, hE.2⟩

end Go.Proofs.YtelindfmdakliaaDoor
