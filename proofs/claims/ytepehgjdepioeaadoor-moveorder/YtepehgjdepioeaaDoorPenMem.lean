/-
  A pen in memory: what it owns, what a call on it may change.
-/
import Derived.Test.YtepehgjdepioeaaDoorRowFacts
import Derived.Test.YtepehgjdepioeaaDoorPureGroup
import Derived.Lib.AppendStr
import Derived.Deep.AppendLies
namespace Go.Proofs.YtepehgjdepioeaaDoor
open Go.RowKit Go.Lib

/-- parts as cells -/
def partCells (l : List Part) : List Value := l.flatMap fun p => [Value.int .i64 p.kind, Value.int .i64 p.n, Value.string p.text]
theorem partCells_length (l : List Part) : (partCells l).length = l.length * 3 := by
  induction l with
  | nil => rfl
  | cons a r ih => rw [partCells, List.flatMap_cons, List.length_append, ← partCells, ih]; simp; omega
theorem partCells_append (a b : List Part) : partCells (a ++ b) = partCells a ++ partCells b := by simp [partCells]
theorem partCells_one (p : Part) : partCells [p] = [Value.int .i64 p.kind, Value.int .i64 p.n, Value.string p.text] := rfl

theorem info_part : (Tryd.prog.info? 42).map (fun i => (i.zero, i.size, i.bytes)) = some (some (.agg #[.int .i64 0, .int .i64 0, .string .empty]), 3, 32) := by kernel_rfl
theorem info_u8 : (Tryd.prog.info? 5).map (fun i => (i.zero, i.size, i.bytes)) = some (some (.int .u8 0), 1, 1) := by kernel_rfl

/-- A pen lies in block b: its two rows are its own. -/
structure PenAt (w : World) (B b : Nat) (dv iv : Value) (P : PenS) : Prop where
  base : B ≤ b
  blk : w.heap[b]? = some (.cells #[dv, iv, .int .i64 (P.del : Int)] 81 (0, 0))
  own : w.ownsRow B 42 3 dv P.done.length (partCells P.done)
  ins : w.ownsRow B 5 1 iv P.ins.size (strCells P.ins)

/-- Only these blocks may have changed; new ones may have come. -/
structure Chg (F : Nat → Prop) (w w' : World) : Prop where
  os : w'.os = w.os
  tape : w'.tape = w.tape
  output : w'.output = w.output
  size : w.heap.size ≤ w'.heap.size
  block : ∀ k, k < w.heap.size → ¬ F k → w'.heap[k]? = w.heap[k]?

theorem Chg.refl (F : Nat → Prop) (w : World) : Chg F w w := ⟨rfl, rfl, rfl, Nat.le_refl _, fun _ _ _ => rfl⟩
theorem Chg.trans {F G : Nat → Prop} {a b c : World} (h : Chg F a b) (k : Chg G b c) (hs : ∀ i, i < a.heap.size → G i → F i) : Chg F a c :=
  ⟨k.os.trans h.os, k.tape.trans h.tape, k.output.trans h.output, Nat.le_trans h.size k.size,
    fun i hi hn => (k.block i (Nat.lt_of_lt_of_le hi h.size) (fun g => hn (hs i hi g))).trans (h.block i hi hn)⟩
theorem Chg.below {F : Nat → Prop} {w w' : World} {B : Nat} (h : Chg F w w') (hF : ∀ k, F k → B ≤ k) (hB : B ≤ w.heap.size) : Below B w w' :=
  ⟨h.os, h.tape, h.output, h.size, fun k hk => h.block k (by omega) (fun g => by have := hF k g; omega)⟩
theorem Chg.alloc {F : Nat → Prop} {a w : World} (h : Chg F a w) (o : Obj) : Chg F a (w.alloc o) :=
  ⟨h.os, h.tape, h.output, by have := h.size; simp; omega, fun i hi hn => by
    rw [Below.heap_alloc _ _ _ (by have := h.size; omega)]; exact h.block i hi hn⟩
theorem Chg.drew {F : Nat → Prop} {a w : World} (h : Chg F a w) : Chg F a w.drew := ⟨h.os, h.tape, h.output, h.size, h.block⟩
theorem Chg.setCell {F : Nat → Prop} {a w : World} (h : Chg F a w) {p : Addr} (hp : F p.block) (u : Value) : Chg F a (w.setCell p u) :=
  ⟨h.os, h.tape, h.output, by simpa [World.setCell] using h.size, fun i hi hn => by
    have hne : i ≠ p.block := fun e => hn (by rw [e]; exact hp)
    rw [Below.heap_setCell w p u i hne]; exact h.block i hi hn⟩
theorem Chg.grown {F : Nat → Prop} {a w w' : World} {row : Option Nat} (h : Chg F a w) (hg : w.grownBy w' row) (hr : ∀ k, k < a.heap.size → row = some k → F k) : Chg F a w' :=
  ⟨hg.os.trans h.os, hg.tape.trans h.tape, hg.output.trans h.output, Nat.le_trans h.size hg.size, fun i hi hn => by
    rw [hg.block i (Nat.lt_of_lt_of_le hi h.size) (fun e => hn (hr i hi e.symm))]; exact h.block i hi hn⟩
theorem Chg.of_below {F : Nat → Prop} {w w' : World} (h : Below w.heap.size w w') : Chg F w w' := ⟨h.os, h.tape, h.output, h.size, fun i hi _ => h.block i hi⟩

/-- the row is the old one, or a new block -/
def Moves (w : World) (v v' : Value) : Prop := ∀ k, v'.ownBlock = some k → v.ownBlock = some k ∨ w.heap.size ≤ k
theorem Moves.refl (w : World) (v : Value) : Moves w v v := fun _ h => .inl h
theorem Moves.trans {w w' : World} {a b c : Value} (h : Moves w a b) (k : Moves w' b c) (hs : w.heap.size ≤ w'.heap.size) : Moves w a c := fun i hi => by
  rcases k i hi with h1 | h1
  · exact h i h1
  · exact .inr (Nat.le_trans hs h1)

/-- the blocks of a pen -/
def penF (b : Nat) (dv iv : Value) (k : Nat) : Prop := k = b ∨ dv.ownBlock = some k ∨ iv.ownBlock = some k
theorem PenAt.F_lt {w : World} {B b : Nat} {dv iv : Value} {P : PenS} (h : PenAt w B b dv iv P) : ∀ k, penF b dv iv k → B ≤ k ∧ k < w.heap.size := by
  rintro k (rfl | hk | hk)
  · refine ⟨h.base, ?_⟩
    rcases Nat.lt_or_ge k w.heap.size with hl | hl
    · exact hl
    · have := h.blk; rw [Array.getElem?_eq_none hl] at this; cases this
  · exact h.own.lt k hk
  · exact h.ins.lt k hk

/-- what a value that owns a row looks like -/
theorem own_form {w : World} {B : Nat} {e : TypeId} {size : Nat} {v : Value} {n : Nat} {xs : List Value} (h : w.ownsRow B e size v n xs) : ∃ a cap, v = .slice a n cap := by
  rcases h.2 with ⟨rfl, rfl⟩ | ⟨g, cap, cur, rfl, _⟩
  · exact ⟨none, 0, rfl⟩
  · exact ⟨_, cap, rfl⟩

/-- a row that nobody touched -/
theorem own_chg {F : Nat → Prop} {w w' : World} {B : Nat} {e : TypeId} {size : Nat} {v : Value} {n : Nat} {xs : List Value} (h : w.ownsRow B e size v n xs) (c : Chg F w w') (hn : ∀ k, v.ownBlock = some k → ¬ F k) : w'.ownsRow B e size v n xs := by
  refine ⟨h.1, ?_⟩
  have hlt := h.lt
  rcases h.2 with h2 | ⟨g, cap, cur, rfl, hb, hg, h3⟩
  · exact .inl h2
  · refine .inr ⟨g, cap, cur, rfl, hb, ?_, h3⟩
    rw [c.block g (hlt g rfl).2 (hn g rfl)]
    exact hg
theorem PenAt.kept {F : Nat → Prop} {w w' : World} {B b : Nat} {dv iv : Value} {P : PenS} (h : PenAt w B b dv iv P) (c : Chg F w w') (hn : ∀ k, penF b dv iv k → ¬ F k) : PenAt w' B b dv iv P :=
  ⟨h.base, by rw [c.block b (h.F_lt b (.inl rfl)).2 (hn b (.inl rfl))]; exact h.blk, own_chg h.own c (fun k hk => hn k (.inr (.inl hk))), own_chg h.ins c (fun k hk => hn k (.inr (.inr hk)))⟩

/-- What a call on a pen may do to the world, and to where its rows lie. -/
structure PenStep (w w' : World) (b : Nat) (dv iv dv' iv' : Value) : Prop where
  chg : Chg (penF b dv iv) w w'
  mdv : Moves w dv dv'
  miv : Moves w iv iv'

theorem PenStep.trans {w w' w'' : World} {b : Nat} {dv iv dv' iv' dv'' iv'' : Value} (h : PenStep w w' b dv iv dv' iv') (k : PenStep w' w'' b dv' iv' dv'' iv'') : PenStep w w'' b dv iv dv'' iv'' := by
  refine ⟨h.chg.trans k.chg ?_, h.mdv.trans k.mdv h.chg.size, h.miv.trans k.miv h.chg.size⟩
  rintro i hi (rfl | hk | hk)
  · exact .inl rfl
  · rcases h.mdv i hk with h1 | h1
    · exact .inr (.inl h1)
    · omega
  · rcases h.miv i hk with h1 | h1
    · exact .inr (.inr h1)
    · omega

/-- two pens that share nothing stay so -/
theorem penF_apart {w w' : World} {b : Nat} {dv iv dv' iv' : Value} {G : Nat → Prop} (h : PenStep w w' b dv iv dv' iv') (hG : ∀ k, G k → k < w.heap.size) (hd : ∀ k, penF b dv iv k → ¬ G k) : ∀ k, penF b dv' iv' k → ¬ G k := by
  rintro k (rfl | hk | hk) g
  · exact hd k (.inl rfl) g
  · rcases h.mdv k hk with h1 | h1
    · exact hd k (.inr (.inl h1)) g
    · have := hG k g; omega
  · rcases h.miv k hk with h1 | h1
    · exact hd k (.inr (.inr h1)) g
    · have := hG k g; omega

theorem heap_two (w : World) (A B : Obj) : ((w.alloc A).alloc B).drew.heap[w.heap.size + 1]? = some B := by
  have h := heap_alloc_new (w.alloc A) B
  have e : (w.alloc A).heap.size = w.heap.size + 1 := by simp
  rw [e] at h
  exact h

/-- bytes appended: and where the new slice lies -/
theorem run_append_string_lies {P : Program} (w : World) (base : Nat) (t u ty e : TypeId) (i : TypeInfo) (ht : P.underlying t = some (.slice e)) (hu : P.underlying u = some .string) (hi : P.info? e = some i) (hz : i.zero = some (.int .u8 0))
    (hsize : i.size = 1) (hby : i.bytes = 1) (v : Value) (n : Nat) (xs : List Value) (hown : w.ownsRow base e 1 v n xs) (s : ByteArray)
    (h63 : n + s.size ≤ maxLen) (hbytes : n + s.size ≤ 140737488355328) (hbase : base ≤ w.heap.size) :
    ∃ v' w', (Builtin.append_ #[t, u] ty #[v, .string s]).run P w = .ok v' w' ∧ w'.ownsRow base e 1 v' (n + s.size) (xs ++ strCells s) ∧ w.grownBy w' v.ownBlock ∧ Moves w v v' := by
  obtain ⟨v', w', hr, h2, h3, _⟩ := run_append_own_string (P := P) w base t u ty e i ht hu hi hz hsize hby v n xs hown s h63 hbytes hbase
  refine ⟨v', w', hr, h2, h3, ?_⟩
  have hsmall : n + s.size ≤ 9223372036854775807 := by simp only [maxLen] at h63; omega
  have hxl : xs.length = n := by simpa using hown.1
  rcases hown.2 with ⟨rfl, rfl⟩ | ⟨g, cap, cur, rfl, hbg, hg, hnc, hcm, hcs, htake⟩
  · by_cases hm : s.size = 0
    · have hf := run_firstCells_string (P := P) w 1 s
      rw [hm] at hf
      have hr' : (Builtin.append_ #[t, u] ty #[.slice none 0 0, .string s]).run P w = .ok (.slice none 0 0) w := by
        simp [Builtin.append_, run_underlying ht, run_underlying hu, sizeOf, typeInfo, hi, hsize, Builtin.lenOf, hm, hf]
      rw [hr'] at hr
      simp only [Result.ok.injEq] at hr
      rw [← hr.1]
      exact Moves.refl _ _
    · have hr' := run_append_nil_string (P := P) w t u ty e i (.int .u8 0) ht hu hi hz s (by omega) (by omega) (by rw [hby]; omega)
      rw [hr'] at hr
      simp only [Result.ok.injEq] at hr
      rw [← hr.1]
      intro k hk
      simp [Value.ownBlock] at hk
      exact .inr (by omega)
  · by_cases hroom : n + s.size ≤ cap
    · have hcs' : cur.size = cap := by simpa using hcs
      have hr' := run_append_room_string (P := P) w t u ty e i ht hu hi hsize g n cap cur hg s hroom (by omega)
      rw [hr'] at hr
      simp only [Result.ok.injEq] at hr
      rw [← hr.1]
      intro k hk
      exact .inl hk
    · have holds : ∀ j u, xs[j]? = some u → w.cell? ((⟨g, 0, none⟩ : Addr).add j) = some u := hown.cells (g := g) rfl
      have hr' := run_append_grow_string (P := P) w t u ty e i (.int .u8 0) ht hu hi hz ⟨g, 0, none⟩ n cap xs (by rw [hsize]; simpa using hxl) holds s (by omega) (by omega) (by rw [hby]; exact growslice_fits (by omega) (by omega))
      rw [hr'] at hr
      simp only [Result.ok.injEq] at hr
      rw [← hr.1]
      intro k hk
      simp [Value.ownBlock] at hk
      exact .inr (by omega)

theorem wpList_append_string_lies {P : Program} (w : World) {ops : Array Oper} {rest : List Oper} {o : Oper} {a : Act} {Q : Exit → Act → World → Prop} (hgd : o.guard = none) (sl x : Operand) (t u : TypeId)
    (ho : o.op = .call { callee := .builtin .append, args := #[sl, x], argTypes := #[t, u] })
    (base : Nat) (e : TypeId) (i : TypeInfo) (ht : P.underlying t = some (.slice e)) (hu : P.underlying u = some .string) (hi : P.info? e = some i) (hz : i.zero = some (.int .u8 0))
    (hsize : i.size = 1) (hby : i.bytes = 1)
    (v : Value) (n : Nat) (xs : List Value) (hs : a.eval sl = v) (hown : w.ownsRow base e 1 v n xs) (s : ByteArray) (hx : a.eval x = .string s)
    (h63 : n + s.size ≤ maxLen) (hbytes : n + s.size ≤ 140737488355328) (hbase : base ≤ w.heap.size)
    (h : ∀ v' w', w'.ownsRow base e 1 v' (n + s.size) (xs ++ strCells s) → w.grownBy w' v.ownBlock → Moves w v v' → wpList P ops Q rest (a.put o.dst v') w') : wpList P ops Q (o :: rest) a w := by
  refine wpList_plain hgd fun K hK => ?_
  obtain ⟨v', w', hr, h2, h3, h4⟩ := run_append_string_lies (P := P) w base t u o.type e i ht hu hi hz hsize hby v n xs hown s h63 hbytes hbase
  unfold Oper.wp execOp
  simp only [ho, resolve, invoke, builtin, Sem.run_bind, Sem.run_pure, Result.andThen_ok, List.map_toArray, List.map_cons, List.map_nil, hs, hx, hr]
  exact hK _ _ (h v' w' h2 h3 h4)

theorem strCells_append (a b : ByteArray) : strCells (a ++ b) = strCells a ++ strCells b := by
  simp [strCells, ByteArray.data_append]

end Go.Proofs.YtepehgjdepioeaaDoor
