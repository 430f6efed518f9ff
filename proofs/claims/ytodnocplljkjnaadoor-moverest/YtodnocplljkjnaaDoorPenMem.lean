/-
  Facts on rows of cells.
-/
import Derived.Test.YtodnocplljkjnaaDoorCheck
import Derived.Test.YtodnocplljkjnaaDoorLens
import Derived.Test.YtodnocplljkjnaaDoorPure
import Derived.Deep.AppendLies
import Derived.Lib.AppendStr
import Derived.Laws.AppendOwnNone
import Derived.Maps.AppendAt

/- Facts on rows of cells. -/
namespace Go.Proofs.YtodnocplljkjnaaDoor
open Go.RowKit

/-- A row that is no row of that type stays through an append. -/
theorem row_ne {w : World} {B : Nat} {e T : TypeId} {size : Nat} {v : Value} {n : Nat} {xs : List Value} {b : Nat} {cs : Array Value} {fr : Nat × Nat} (hown : w.ownsRow B e size v n xs) (hb : w.heap[b]? = some (.cells cs T fr)) (hTe : T ≠ e) : some b ≠ v.ownBlock := by
  intro h
  rcases hown.2 with ⟨rfl, _⟩ | ⟨g, cap, cur, rfl, _, hg, _⟩
  · simp [Value.ownBlock] at h
  · simp [Value.ownBlock] at h
    subst h
    rw [hb] at hg
    simp at hg
    exact hTe hg.2.1
theorem row_kept {w w' : World} {B : Nat} {e T : TypeId} {size : Nat} {v : Value} {n : Nat} {xs : List Value} {b : Nat} {cs : Array Value} {fr : Nat × Nat} (hown : w.ownsRow B e size v n xs) (hb : w.heap[b]? = some (.cells cs T fr)) (hTe : T ≠ e) (hg : w.grownBy w' v.ownBlock) : w'.heap[b]? = some (.cells cs T fr) := by
  rw [hg.block b (by rcases Nat.lt_or_ge b w.heap.size with h | h; exact h; rw [Array.getElem?_eq_none h] at hb; cases hb) (row_ne hown hb hTe)]
  exact hb

theorem cell_two_new (w : World) (x y : Value) (t : TypeId) : ∀ j u, [x, y][j]? = some u → (w.alloc (.cells #[x, y] t)).cell? ((⟨w.heap.size, 0, none⟩ : Addr).add j) = some u :=
  World.news_of_block (heap_alloc_new w (.cells #[x, y] t))
theorem own_drew {w : World} {B : Nat} {e : TypeId} {size : Nat} {v : Value} {n : Nat} {xs : List Value} (h : w.ownsRow B e size v n xs) : w.drew.ownsRow B e size v n xs := h

theorem row_old {w : World} {b : Nat} {o : Obj} (h : w.heap[b]? = some o) (o' : Obj) : (w.alloc o').heap[b]? = some o := by
  have hl : b < w.heap.size := by rcases Nat.lt_or_ge b w.heap.size with h' | h'; exact h'; rw [Array.getElem?_eq_none h'] at h; cases h
  show (w.heap.push o')[b]? = _
  rw [Array.getElem?_push, if_neg (by omega)]
  exact h
theorem lt_of_heap {w : World} {g : Nat} {o : Obj} (h : w.heap[g]? = some o) : g < w.heap.size := by
  rcases Nat.lt_or_ge g w.heap.size with h' | h'
  · exact h'
  · rw [Array.getElem?_eq_none h'] at h; cases h

end Go.Proofs.YtodnocplljkjnaaDoor

/- A pen in memory: what it owns, what a call on it may change. -/
namespace Go.Proofs.YtodnocplljkjnaaDoor
open Go.RowKit Go.Lib

/-- parts as cells -/
def partCells (l : List Part) : List Value := l.flatMap fun p => [Value.int .i64 p.kind, Value.int .i64 p.n, Value.string p.text]
theorem partCells_length (l : List Part) : (partCells l).length = l.length * 3 := by
  induction l with
  | nil => rfl
  | cons a r ih => rw [partCells, List.flatMap_cons, List.length_append, ← partCells, ih]; simp; omega
theorem partCells_append (a b : List Part) : partCells (a ++ b) = partCells a ++ partCells b := by simp [partCells]
theorem partCells_one (p : Part) : partCells [p] = [Value.int .i64 p.kind, Value.int .i64 p.n, Value.string p.text] := rfl

theorem info_part : (Tryd.prog.info? 33).map (fun i => (i.zero, i.size, i.bytes)) = some (some (.agg #[.int .i64 0, .int .i64 0, .string .empty]), 3, 32) := by kernel_rfl
theorem info_u8 : (Tryd.prog.info? 5).map (fun i => (i.zero, i.size, i.bytes)) = some (some (.int .u8 0), 1, 1) := by kernel_rfl

/-- A pen lies in block b: its two rows are its own. -/
structure PenAt (w : World) (B b : Nat) (dv iv : Value) (P : PenS) : Prop where
  base : B ≤ b
  blk : w.heap[b]? = some (.cells #[dv, iv, .int .i64 (P.del : Int)] 112 (0, 0))
  own : w.ownsRow B 33 3 dv P.done.length (partCells P.done)
  ins : w.ownsRow B 5 1 iv P.ins.size (strCells P.ins)

/-- Only these blocks may have changed; new ones may have come. -/
structure Chg (F : Nat → Prop) (w w' : World) : Prop where
  os : w'.os = w.os
  tape : w'.tape = w.tape
  output : w'.output = w.output
  size : w.heap.size ≤ w'.heap.size
  block : ∀ k, k < w.heap.size → ¬ F k → w'.heap[k]? = w.heap[k]?

theorem Chg.refl (F : Nat → Prop) (w : World) : Chg F w w := ⟨rfl, rfl, rfl, Nat.le_refl _, fun _ _ _ => rfl⟩
theorem Chg.trans {F G : Nat → Prop} {a b c : World} (h : Chg F a b) (k : Chg G b c) (hs : ∀ i, i < a.heap.size → G i → F i) : Chg F a c :=
  ⟨k.os.trans h.os, k.tape.trans h.tape, k.output.trans h.output, Nat.le_trans h.size k.size,
    fun i hi hn => (k.block i (Nat.lt_of_lt_of_le hi h.size) (fun g => hn (hs i hi g))).trans (h.block i hi hn)⟩
theorem Chg.below {F : Nat → Prop} {w w' : World} {B : Nat} (h : Chg F w w') (hF : ∀ k, F k → B ≤ k) (hB : B ≤ w.heap.size) : Below B w w' :=
  ⟨h.os, h.tape, h.output, h.size, fun k hk => h.block k (by omega) (fun g => by have := hF k g; omega)⟩
theorem Chg.alloc {F : Nat → Prop} {a w : World} (h : Chg F a w) (o : Obj) : Chg F a (w.alloc o) :=
  ⟨h.os, h.tape, h.output, by have := h.size; simp; omega, fun i hi hn => by
    rw [Below.heap_alloc _ _ _ (by have := h.size; omega)]; exact h.block i hi hn⟩
theorem Chg.drew {F : Nat → Prop} {a w : World} (h : Chg F a w) : Chg F a w.drew := ⟨h.os, h.tape, h.output, h.size, h.block⟩
theorem Chg.setCell {F : Nat → Prop} {a w : World} (h : Chg F a w) {p : Addr} (hp : F p.block) (u : Value) : Chg F a (w.setCell p u) :=
  ⟨h.os, h.tape, h.output, by simpa [World.setCell] using h.size, fun i hi hn => by
    have hne : i ≠ p.block := fun e => hn (by rw [e]; exact hp)
    rw [Below.heap_setCell w p u i hne]; exact h.block i hi hn⟩
theorem Chg.grown {F : Nat → Prop} {a w w' : World} {row : Option Nat} (h : Chg F a w) (hg : w.grownBy w' row) (hr : ∀ k, k < a.heap.size → row = some k → F k) : Chg F a w' :=
  ⟨hg.os.trans h.os, hg.tape.trans h.tape, hg.output.trans h.output, Nat.le_trans h.size hg.size, fun i hi hn => by
    rw [hg.block i (Nat.lt_of_lt_of_le hi h.size) (fun e => hn (hr i hi e.symm))]; exact h.block i hi hn⟩
theorem Chg.of_below {F : Nat → Prop} {w w' : World} (h : Below w.heap.size w w') : Chg F w w' := ⟨h.os, h.tape, h.output, h.size, fun i hi _ => h.block i hi⟩

/-- the row is the old one, or a new block -/
def Moves (w : World) (v v' : Value) : Prop := ∀ k, v'.ownBlock = some k → v.ownBlock = some k ∨ w.heap.size ≤ k
theorem Moves.refl (w : World) (v : Value) : Moves w v v := fun _ h => .inl h
theorem Moves.trans {w w' : World} {a b c : Value} (h : Moves w a b) (k : Moves w' b c) (hs : w.heap.size ≤ w'.heap.size) : Moves w a c := fun i hi => by
  rcases k i hi with h1 | h1
  · exact h i h1
  · exact .inr (Nat.le_trans hs h1)

/-- the blocks of a pen -/
def penF (b : Nat) (dv iv : Value) (k : Nat) : Prop := k = b ∨ dv.ownBlock = some k ∨ iv.ownBlock = some k
theorem PenAt.F_lt {w : World} {B b : Nat} {dv iv : Value} {P : PenS} (h : PenAt w B b dv iv P) : ∀ k, penF b dv iv k → B ≤ k ∧ k < w.heap.size := by
  rintro k (rfl | hk | hk)
  · refine ⟨h.base, ?_⟩
    rcases Nat.lt_or_ge k w.heap.size with hl | hl
    · exact hl
    · have := h.blk; rw [Array.getElem?_eq_none hl] at this; cases this
  · exact h.own.lt k hk
  · exact h.ins.lt k hk

/-- what a value that owns a row looks like -/
theorem own_form {w : World} {B : Nat} {e : TypeId} {size : Nat} {v : Value} {n : Nat} {xs : List Value} (h : w.ownsRow B e size v n xs) : ∃ a cap, v = .slice a n cap := by
  rcases h.2 with ⟨rfl, rfl⟩ | ⟨g, cap, cur, rfl, _⟩
  · exact ⟨none, 0, rfl⟩
  · exact ⟨_, cap, rfl⟩

/-- a row that nobody touched -/
theorem own_chg {F : Nat → Prop} {w w' : World} {B : Nat} {e : TypeId} {size : Nat} {v : Value} {n : Nat} {xs : List Value} (h : w.ownsRow B e size v n xs) (c : Chg F w w') (hn : ∀ k, v.ownBlock = some k → ¬ F k) : w'.ownsRow B e size v n xs := by
  refine ⟨h.1, ?_⟩
  have hlt := h.lt
  rcases h.2 with h2 | ⟨g, cap, cur, rfl, hb, hg, h3⟩
  · exact .inl h2
  · refine .inr ⟨g, cap, cur, rfl, hb, ?_, h3⟩
    rw [c.block g (hlt g rfl).2 (hn g rfl)]
    exact hg
theorem PenAt.kept {F : Nat → Prop} {w w' : World} {B b : Nat} {dv iv : Value} {P : PenS} (h : PenAt w B b dv iv P) (c : Chg F w w') (hn : ∀ k, penF b dv iv k → ¬ F k) : PenAt w' B b dv iv P :=
  ⟨h.base, by rw [c.block b (h.F_lt b (.inl rfl)).2 (hn b (.inl rfl))]; exact h.blk, own_chg h.own c (fun k hk => hn k (.inr (.inl hk))), own_chg h.ins c (fun k hk => hn k (.inr (.inr hk)))⟩

/-- What a call on a pen may do to the world, and to where its rows lie. -/
structure PenStep (w w' : World) (b : Nat) (dv iv dv' iv' : Value) : Prop where
  chg : Chg (penF b dv iv) w w'
  mdv : Moves w dv dv'
  miv : Moves w iv iv'

theorem PenStep.trans {w w' w'' : World} {b : Nat} {dv iv dv' iv' dv'' iv'' : Value} (h : PenStep w w' b dv iv dv' iv') (k : PenStep w' w'' b dv' iv' dv'' iv'') : PenStep w w'' b dv iv dv'' iv'' := by
  refine ⟨h.chg.trans k.chg ?_, h.mdv.trans k.mdv h.chg.size, h.miv.trans k.miv h.chg.size⟩
  rintro i hi (rfl | hk | hk)
  · exact .inl rfl
  · rcases h.mdv i hk with h1 | h1
    · exact .inr (.inl h1)
    · omega
  · rcases h.miv i hk with h1 | h1
    · exact .inr (.inr h1)
    · omega

/-- two pens that share nothing stay so -/
theorem penF_apart {w w' : World} {b : Nat} {dv iv dv' iv' : Value} {G : Nat → Prop} (h : PenStep w w' b dv iv dv' iv') (hG : ∀ k, G k → k < w.heap.size) (hd : ∀ k, penF b dv iv k → ¬ G k) : ∀ k, penF b dv' iv' k → ¬ G k := by
  rintro k (rfl | hk | hk) g
  · exact hd k (.inl rfl) g
  · rcases h.mdv k hk with h1 | h1
    · exact hd k (.inr (.inl h1)) g
    · have := hG k g; omega
  · rcases h.miv k hk with h1 | h1
    · exact hd k (.inr (.inr h1)) g
    · have := hG k g; omega

theorem heap_two (w : World) (A B : Obj) : ((w.alloc A).alloc B).drew.heap[w.heap.size + 1]? = some B := by
  have h := heap_alloc_new (w.alloc A) B
  have e : (w.alloc A).heap.size = w.heap.size + 1 := by simp
  rw [e] at h
  exact h

/-- bytes appended: and where the new slice lies -/
theorem run_append_string_lies {P : Program} (w : World) (base : Nat) (t u ty e : TypeId) (i : TypeInfo) (ht : P.underlying t = some (.slice e)) (hu : P.underlying u = some .string) (hi : P.info? e = some i) (hz : i.zero = some (.int .u8 0))
    (hsize : i.size = 1) (hby : i.bytes = 1) (v : Value) (n : Nat) (xs : List Value) (hown : w.ownsRow base e 1 v n xs) (s : ByteArray)
    (h63 : n + s.size ≤ maxLen) (hbytes : n + s.size ≤ 140737488355328) (hbase : base ≤ w.heap.size) :
    ∃ v' w', (Builtin.append_ #[t, u] ty #[v, .string s]).run P w = .ok v' w' ∧ w'.ownsRow base e 1 v' (n + s.size) (xs ++ strCells s) ∧ w.grownBy w' v.ownBlock ∧ Moves w v v' := by
  obtain ⟨v', w', hr, h2, h3, _⟩ := run_append_own_string (P := P) w base t u ty e i ht hu hi hz hsize hby v n xs hown s h63 hbytes hbase
  refine ⟨v', w', hr, h2, h3, ?_⟩
  have hsmall : n + s.size ≤ 9223372036854775807 := by simp only [maxLen] at h63; omega
  have hxl : xs.length = n := by simpa using hown.1
  rcases hown.2 with ⟨rfl, rfl⟩ | ⟨g, cap, cur, rfl, hbg, hg, hnc, hcm, hcs, htake⟩
  · by_cases hm : s.size = 0
    · have hf := run_firstCells_string (P := P) w 1 s
      rw [hm] at hf
      have hr' : (Builtin.append_ #[t, u] ty #[.slice none 0 0, .string s]).run P w = .ok (.slice none 0 0) w := by
        simp [Builtin.append_, run_underlying ht, run_underlying hu, sizeOf, typeInfo, hi, hsize, Builtin.lenOf, hm, hf]
      rw [hr'] at hr
      simp only [Result.ok.injEq] at hr
      rw [← hr.1]
      exact Moves.refl _ _
    · have hr' := run_append_nil_string (P := P) w t u ty e i (.int .u8 0) ht hu hi hz s (by omega) (by omega) (by rw [hby]; omega)
      rw [hr'] at hr
      simp only [Result.ok.injEq] at hr
      rw [← hr.1]
      intro k hk
      simp [Value.ownBlock] at hk
      exact .inr (by omega)
  · by_cases hroom : n + s.size ≤ cap
    · have hcs' : cur.size = cap := by simpa using hcs
      have hr' := run_append_room_string (P := P) w t u ty e i ht hu hi hsize g n cap cur hg s hroom (by omega)
      rw [hr'] at hr
      simp only [Result.ok.injEq] at hr
      rw [← hr.1]
      intro k hk
      exact .inl hk
    · have holds : ∀ j u, xs[j]? = some u → w.cell? ((⟨g, 0, none⟩ : Addr).add j) = some u := hown.cells (g := g) rfl
      have hr' := run_append_grow_string (P := P) w t u ty e i (.int .u8 0) ht hu hi hz ⟨g, 0, none⟩ n cap xs (by rw [hsize]; simpa using hxl) holds s (by omega) (by omega) (by rw [hby]; exact growslice_fits (by omega) (by omega))
      rw [hr'] at hr
      simp only [Result.ok.injEq] at hr
      rw [← hr.1]
      intro k hk
      simp [Value.ownBlock] at hk
      exact .inr (by omega)

theorem wpList_append_string_lies {P : Program} (w : World) {ops : Array Oper} {rest : List Oper} {o : Oper} {a : Act} {Q : Exit → Act → World → Prop} (hgd : o.guard = none) (sl x : Operand) (t u : TypeId)
    (ho : o.op = .call { callee := .builtin .append, args := #[sl, x], argTypes := #[t, u] })
    (base : Nat) (e : TypeId) (i : TypeInfo) (ht : P.underlying t = some (.slice e)) (hu : P.underlying u = some .string) (hi : P.info? e = some i) (hz : i.zero = some (.int .u8 0))
    (hsize : i.size = 1) (hby : i.bytes = 1)
    (v : Value) (n : Nat) (xs : List Value) (hs : a.eval sl = v) (hown : w.ownsRow base e 1 v n xs) (s : ByteArray) (hx : a.eval x = .string s)
    (h63 : n + s.size ≤ maxLen) (hbytes : n + s.size ≤ 140737488355328) (hbase : base ≤ w.heap.size)
    (h : ∀ v' w', w'.ownsRow base e 1 v' (n + s.size) (xs ++ strCells s) → w.grownBy w' v.ownBlock → Moves w v v' → wpList P ops Q rest (a.put o.dst v') w') : wpList P ops Q (o :: rest) a w := by
  refine wpList_plain hgd fun K hK => ?_
  obtain ⟨v', w', hr, h2, h3, h4⟩ := run_append_string_lies (P := P) w base t u o.type e i ht hu hi hz hsize hby v n xs hown s h63 hbytes hbase
  unfold Oper.wp execOp
  simp only [ho, resolve, invoke, builtin, Sem.run_bind, Sem.run_pure, Result.andThen_ok, List.map_toArray, List.map_cons, List.map_nil, hs, hx, hr]
  exact hK _ _ (h v' w' h2 h3 h4)

theorem strCells_append (a b : ByteArray) : strCells (a ++ b) = strCells a ++ strCells b := by
  simp [strCells, ByteArray.data_append]

end Go.Proofs.YtodnocplljkjnaaDoor

/- Operations that a call has made, in memory. -/
namespace Go.Proofs.YtodnocplljkjnaaDoor
open Go.RowKit Go.Lib

/-- an operation that is a call's own, in memory -/
theorem own_opAt {w : World} {B : Nat} {v : Value} {ps : List Part} (h : w.ownsRow B 33 3 v ps.length (partCells ps)) : ∃ a cap, v = .slice a ps.length cap ∧ OpAt w a ps := by
  by_cases hl : 0 < ps.length
  · obtain ⟨g, cap, rfl, _, hlt⟩ := h.form hl
    refine ⟨_, cap, rfl, .inr ⟨g, 0, rfl, hlt, fun i hi => ?_⟩⟩
    have hc := h.cells (g := g) rfl
    have key : ∀ (l : List Part) (i : Nat) (hi : i < l.length), (partCells l)[i * 3]? = some (.int .i64 l[i].kind) ∧ (partCells l)[i * 3 + 1]? = some (.int .i64 l[i].n) ∧ (partCells l)[i * 3 + 2]? = some (.string l[i].text) := by
      intro l
      induction l with
      | nil => intro i hi; simp at hi
      | cons s l ih =>
        intro i hi
        have e : partCells (s :: l) = Value.int .i64 s.kind :: Value.int .i64 s.n :: Value.string s.text :: partCells l := by simp [partCells]
        rw [e]
        cases i with
        | zero => simp
        | succ i =>
          have := ih i (by simpa using hi)
          rw [show (i + 1) * 3 = i * 3 + 1 + 1 + 1 by omega]
          simpa using this
    obtain ⟨k1, k2, k3⟩ := key ps i hi
    have h1 := hc _ _ k1
    have h2 := hc _ _ k2
    have h3 := hc _ _ k3
    rw [WideShapes.add_plain] at h1 h2 h3
    simp only [Nat.zero_add] at h1 h2 h3
    simp only [Nat.zero_add]
    exact ⟨h1, h2, h3⟩
  · have hz : ps = [] := List.length_eq_zero_iff.1 (by omega)
    subst hz
    rcases h.2 with ⟨rfl, _⟩ | ⟨g, cap, cur, rfl, _⟩
    · exact ⟨none, 0, rfl, .inl rfl⟩
    · exact ⟨_, cap, rfl, .inl rfl⟩

theorem pen_below {w w' : World} {B b : Nat} {dv iv dv' iv' : Value} {P : PenS} (hst : PenStep w w' b dv iv dv' iv') (hp : PenAt w B b dv iv P) (hB : B ≤ w.heap.size) : Below B w w' :=
  hst.chg.below (fun k hk => (hp.F_lt k hk).1) hB
theorem own_base {w : World} {B B' e size : Nat} {v : Value} {n : Nat} {xs : List Value} (h : w.ownsRow B e size v n xs) (hB : B' ≤ B) : w.ownsRow B' e size v n xs := by
  refine ⟨h.1, ?_⟩
  rcases h.2 with h2 | ⟨g, cap, cur, hv, hb, r⟩
  · exact .inl h2
  · exact .inr ⟨g, cap, cur, hv, Nat.le_trans hB hb, r⟩

/-- an owned operation, behind calls that change nothing old -/
theorem own_below {w w' : World} {B e size : Nat} {v : Value} {n : Nat} {xs : List Value} (h : w.ownsRow B e size v n xs) (hb : Below w.heap.size w w') : w'.ownsRow B e size v n xs :=
  own_chg (F := fun _ => False) h (Chg.of_below hb) (fun _ _ h => h)


theorem own_opAt' {w : World} {B : Nat} {v : Value} {ps : List Part} (h : w.ownsRow B 33 3 v ps.length (partCells ps)) : ∃ a cap, v = .slice a ps.length cap ∧ OpAt w a ps ∧ ps.length ≤ cap := by
  obtain ⟨a, cap, e, ho⟩ := own_opAt h
  refine ⟨a, cap, e, ho, ?_⟩
  rcases h.2 with ⟨h1, h2⟩ | ⟨g, cap', cur, h1, _, _, h3, _⟩
  · rw [h2]; exact Nat.zero_le _
  · rw [e] at h1
    simp only [Value.slice.injEq] at h1
    omega

end Go.Proofs.YtodnocplljkjnaaDoor

/- 'append(x, o...)' of an operation, nil or not. -/
namespace Go.Proofs.YtodnocplljkjnaaDoor
open Go.RowKit Go.Lib

/-- an operation whose parts are appended -/
def SrcOp (w : World) (a : Option Addr) (c : Nat) (qs : List Part) : Prop := (a = none ∧ c = 0 ∧ qs = []) ∨ ∃ ad, a = some ad ∧ ∀ j u, (partCells qs)[j]? = some u → w.cell? (ad.add j) = some u
theorem srcOp_own {w : World} {B : Nat} {v : Value} {qs : List Part} (h : w.ownsRow B 33 3 v qs.length (partCells qs)) : ∃ a c, v = .slice a qs.length c ∧ SrcOp w a c qs := by
  rcases h.2 with ⟨rfl, h0⟩ | ⟨g, cap, cur, rfl, _⟩
  · have hz : qs = [] := List.length_eq_zero_iff.1 h0
    subst hz
    exact ⟨none, 0, rfl, .inl ⟨rfl, rfl, rfl⟩⟩
  · exact ⟨_, cap, rfl, .inr ⟨_, rfl, h.cells (g := g) rfl⟩⟩
theorem partCells_one' (qs : List Part) : ∀ u ∈ partCells qs, u.oneCell' = true := by
  intro u hu
  obtain ⟨p, _, hp⟩ := List.mem_flatMap.1 hu
  simp only [List.mem_cons, List.not_mem_nil, or_false] at hp
  rcases hp with rfl | rfl | rfl <;> rfl

theorem run_append_op (w : World) (base : Nat) (ty : TypeId) (hB : base ≤ w.heap.size) (v : Value) (n : Nat) (xs : List Value) (hown : w.ownsRow base 33 3 v n xs) (sa : Option Addr) (c : Nat) (qs : List Part) (hsrc : SrcOp w sa c qs) (hsmall : n + qs.length ≤ 1000000000) :
    ∃ v' w', (Builtin.append_ #[28, 28] ty #[v, .slice sa qs.length c]).run Tryd.prog w = .ok v' w' ∧ w'.ownsRow base 33 3 v' (n + qs.length) (xs ++ partCells qs) ∧ w.grownBy w' v.ownBlock ∧ Moves w v v' := by
  obtain ⟨i0, hi, hz0, hz1, hz2⟩ := info_parts info_part
  rcases hsrc with ⟨rfl, rfl, rfl⟩ | ⟨ad, rfl, hc⟩
  · have hrun := run_append_owned_none (P := Tryd.prog) (w := w) base 28 ty 33 i0 3 Tryd.underlying28 hi v n xs hown
    refine ⟨v, w, hrun, by simpa [partCells] using hown, ⟨rfl, rfl, rfl, Nat.le_refl _, fun _ _ _ => rfl⟩, Moves.refl _ _⟩
  · obtain ⟨v', w', hr, h2, h3, _, h5⟩ := run_append_own_at (P := Tryd.prog) w base 28 ty 33 i0 _ 3 32 Tryd.underlying28 hi hz0 hz1 hz2 rfl (by decide) v n xs hown ad qs.length c (partCells qs) (partCells_length qs) hc (partCells_one' qs) (by unfold maxLen; omega) (by omega) hB
    refine ⟨v', w', hr, h2, h3, fun k hk => ?_⟩
    rcases h5 with h5 | h5
    · exact .inl (by rw [← h5]; exact hk)
    · rw [h5] at hk
      simp at hk
      exact .inr (by omega)

theorem wpList_append_op {w : World} {ops : Array Oper} {rest : List Oper} {o : Oper} {a : Act} {Q : Exit → Act → World → Prop} (hgd : o.guard = none) (s x : Operand)
    (ho : o.op = .call { callee := .builtin .append, args := #[s, x], argTypes := #[28, 28] }) (base : Nat) (hB : base ≤ w.heap.size) (v : Value) (n : Nat) (xs : List Value) (hs : a.eval s = v) (hown : w.ownsRow base 33 3 v n xs) (sa : Option Addr) (c : Nat) (qs : List Part) (hx : a.eval x = .slice sa qs.length c) (hsrc : SrcOp w sa c qs) (hsmall : n + qs.length ≤ 1000000000)
    (h : ∀ v' w', w'.ownsRow base 33 3 v' (n + qs.length) (xs ++ partCells qs) → w.grownBy w' v.ownBlock → Moves w v v' → wpList Tryd.prog ops Q rest (a.put o.dst v') w') : wpList Tryd.prog ops Q (o :: rest) a w := by
  refine wpList_plain hgd fun K hK => ?_
  obtain ⟨v', w', hr, h2, h3, h4⟩ := run_append_op w base o.type hB v n xs hown sa c qs hsrc hsmall
  unfold Oper.wp execOp
  simp only [ho, resolve, invoke, builtin, Sem.run_bind, Sem.run_pure, Result.andThen_ok, List.map_toArray, List.map_cons, List.map_nil, hs, hx, hr]
  exact hK _ _ (h v' w' h2 h3 h4)

end Go.Proofs.YtodnocplljkjnaaDoor
