/-
  Blocks of memory, and bytes in them.
-/
import Derived.Test.YtnjhcnfnllojpaaProg
import Derived.Test.YtnjhcnfnllojpaaChecked
import Derived.ProofKit
import Derived.Below
import Derived.WalkKit
import Derived.WalkSpells
import Derived.Laws.IdiomStrings
import Derived.Laws.RangeAny
import Derived.Laws.Cover4
import Derived.LoopTactic
import Derived.OwnWalk
import Derived.Deep.AppendLies
import Derived.Lib.AppendStr
import Derived.Laws.AppendOwnNone
import Derived.Maps.AppendAt
import Derived.Laws.BytesArg
import Derived.Deep.QuietTactic
import Derived.BigQuiet
import Derived.Lib.ConvBytes
import Derived.Deep.LoopGhost
import Derived.Deep.RegionHeld3
namespace Go.Proofs.Ytnjhcnfnllojpaa
open Go.RowKit Go.Lib

/-- A row that is no row of that type stays through an append. -/
theorem row_ne {w : World} {B : Nat} {e T : TypeId} {size : Nat} {v : Value} {n : Nat} {xs : List Value} {b : Nat} {cs : Array Value} {fr : Nat × Nat} (hown : w.ownsRow B e size v n xs) (hb : w.heap[b]? = some (.cells cs T fr)) (hTe : T ≠ e) : some b ≠ v.ownBlock := by
  intro h
  rcases hown.2 with ⟨rfl, _⟩ | ⟨g, cap, cur, rfl, _, hg, _⟩
  · simp [Value.ownBlock] at h
  · simp [Value.ownBlock] at h
    subst h
    rw [hb] at hg
    simp at hg
    exact hTe hg.2.1
theorem own_drew {w : World} {B : Nat} {e : TypeId} {size : Nat} {v : Value} {n : Nat} {xs : List Value} (h : w.ownsRow B e size v n xs) : w.drew.ownsRow B e size v n xs := h
theorem row_old {w : World} {b : Nat} {o : Obj} (h : w.heap[b]? = some o) (o' : Obj) : (w.alloc o').heap[b]? = some o := by
  have hl : b < w.heap.size := by rcases Nat.lt_or_ge b w.heap.size with h' | h'; exact h'; rw [Array.getElem?_eq_none h'] at h; cases h
  show (w.heap.push o')[b]? = _
  rw [Array.getElem?_push, if_neg (by omega)]
  exact h
theorem lt_of_heap {w : World} {g : Nat} {o : Obj} (h : w.heap[g]? = some o) : g < w.heap.size := by
  rcases Nat.lt_or_ge g w.heap.size with h' | h'
  · exact h'
  · rw [Array.getElem?_eq_none h'] at h; cases h
theorem info_u8 : (Try.prog.info? 5).map (fun i => (i.zero, i.size, i.bytes)) = some (some (.int .u8 0), 1, 1) := by kernel_rfl
/-- Only these blocks may have changed; new ones may have come. -/
structure Chg (F : Nat → Prop) (w w' : World) : Prop where
  os : w'.os = w.os
  tape : w'.tape = w.tape
  output : w'.output = w.output
  size : w.heap.size ≤ w'.heap.size
  block : ∀ k, k < w.heap.size → ¬ F k → w'.heap[k]? = w.heap[k]?
theorem Chg.refl (F : Nat → Prop) (w : World) : Chg F w w := ⟨rfl, rfl, rfl, Nat.le_refl _, fun _ _ _ => rfl⟩
theorem Chg.trans {F G : Nat → Prop} {a b c : World} (h : Chg F a b) (k : Chg G b c) (hs : ∀ i, i < a.heap.size → G i → F i) : Chg F a c :=
  ⟨k.os.trans h.os, k.tape.trans h.tape, k.output.trans h.output, Nat.le_trans h.size k.size,
    fun i hi hn => (k.block i (Nat.lt_of_lt_of_le hi h.size) (fun g => hn (hs i hi g))).trans (h.block i hi hn)⟩
theorem Chg.below {F : Nat → Prop} {w w' : World} {B : Nat} (h : Chg F w w') (hF : ∀ k, F k → B ≤ k) (hB : B ≤ w.heap.size) : Below B w w' :=
  ⟨h.os, h.tape, h.output, h.size, fun k hk => h.block k (by omega) (fun g => by have := hF k g; omega)⟩
theorem Chg.alloc {F : Nat → Prop} {a w : World} (h : Chg F a w) (o : Obj) : Chg F a (w.alloc o) :=
  ⟨h.os, h.tape, h.output, by have := h.size; simp; omega, fun i hi hn => by
    rw [Below.heap_alloc _ _ _ (by have := h.size; omega)]; exact h.block i hi hn⟩
theorem Chg.drew {F : Nat → Prop} {a w : World} (h : Chg F a w) : Chg F a w.drew := ⟨h.os, h.tape, h.output, h.size, h.block⟩
theorem Chg.setCell {F : Nat → Prop} {a w : World} (h : Chg F a w) {p : Addr} (hp : F p.block) (u : Value) : Chg F a (w.setCell p u) :=
  ⟨h.os, h.tape, h.output, by simpa [World.setCell] using h.size, fun i hi hn => by
    have hne : i ≠ p.block := fun e => hn (by rw [e]; exact hp)
    rw [Below.heap_setCell w p u i hne]; exact h.block i hi hn⟩
theorem Chg.grown {F : Nat → Prop} {a w w' : World} {row : Option Nat} (h : Chg F a w) (hg : w.grownBy w' row) (hr : ∀ k, k < a.heap.size → row = some k → F k) : Chg F a w' :=
  ⟨hg.os.trans h.os, hg.tape.trans h.tape, hg.output.trans h.output, Nat.le_trans h.size hg.size, fun i hi hn => by
    rw [hg.block i (Nat.lt_of_lt_of_le hi h.size) (fun e => hn (hr i hi e.symm))]; exact h.block i hi hn⟩
theorem Chg.of_below {F : Nat → Prop} {w w' : World} (h : Below w.heap.size w w') : Chg F w w' := ⟨h.os, h.tape, h.output, h.size, fun i hi _ => h.block i hi⟩
/-- the row is the old one, or a new block -/
def Moves (w : World) (v v' : Value) : Prop := ∀ k, v'.ownBlock = some k → v.ownBlock = some k ∨ w.heap.size ≤ k
theorem Moves.refl (w : World) (v : Value) : Moves w v v := fun _ h => .inl h
theorem Moves.trans {w w' : World} {a b c : Value} (h : Moves w a b) (k : Moves w' b c) (hs : w.heap.size ≤ w'.heap.size) : Moves w a c := fun i hi => by
  rcases k i hi with h1 | h1
  · exact h i h1
  · exact .inr (Nat.le_trans hs h1)
/-- what a value that owns a row looks like -/
theorem own_form {w : World} {B : Nat} {e : TypeId} {size : Nat} {v : Value} {n : Nat} {xs : List Value} (h : w.ownsRow B e size v n xs) : ∃ a cap, v = .slice a n cap := by
  rcases h.2 with ⟨rfl, rfl⟩ | ⟨g, cap, cur, rfl, _⟩
  · exact ⟨none, 0, rfl⟩
  · exact ⟨_, cap, rfl⟩
/-- a row that nobody touched -/
theorem own_chg {F : Nat → Prop} {w w' : World} {B : Nat} {e : TypeId} {size : Nat} {v : Value} {n : Nat} {xs : List Value} (h : w.ownsRow B e size v n xs) (c : Chg F w w') (hn : ∀ k, v.ownBlock = some k → ¬ F k) : w'.ownsRow B e size v n xs := by
  refine ⟨h.1, ?_⟩
  have hlt := h.lt
  rcases h.2 with h2 | ⟨g, cap, cur, rfl, hb, hg, h3⟩
  · exact .inl h2
  · refine .inr ⟨g, cap, cur, rfl, hb, ?_, h3⟩
    rw [c.block g (hlt g rfl).2 (hn g rfl)]
    exact hg
theorem own_base {w : World} {B B' e size : Nat} {v : Value} {n : Nat} {xs : List Value} (h : w.ownsRow B e size v n xs) (hB : B' ≤ B) : w.ownsRow B' e size v n xs := by
  refine ⟨h.1, ?_⟩
  rcases h.2 with h2 | ⟨g, cap, cur, hv, hb, r⟩
  · exact .inl h2
  · exact .inr ⟨g, cap, cur, hv, Nat.le_trans hB hb, r⟩
/-- an owned operation, behind calls that change nothing old -/
theorem own_below {w w' : World} {B e size : Nat} {v : Value} {n : Nat} {xs : List Value} (h : w.ownsRow B e size v n xs) (hb : Below w.heap.size w w') : w'.ownsRow B e size v n xs :=
  own_chg (F := fun _ => False) h (Chg.of_below hb) (fun _ _ h => h)
/-- Two callees behind one another: what lies below stays. -/
theorem below_two {B : Nat} {w a b : World} (h1 : Below B w a) (h2 : Below a.heap.size a b) (hB : B ≤ w.heap.size) : Below B w b :=
  h1.trans (h2.mono (Nat.le_trans hB h1.size))
theorem Chg.row {F : Nat → Prop} {w w' : World} {k : Nat} {o : Obj} (hc : Chg F w w') (h : w.heap[k]? = some o) (hk : ¬ F k) : w'.heap[k]? = some o := (hc.block k (Array.getElem?_eq_some_iff.1 h).1 hk).trans h
/-- bytes as cells -/
def octs (l : List Nat) : List Value := l.map fun n : Nat => .int .u8 (n : Int)
theorem octs_append (a b : List Nat) : octs (a ++ b) = octs a ++ octs b := List.map_append
/-- bytes of a row that is not the reader's own block -/
def Oct (w : World) (B b : Nat) (a : Option Addr) (l : List Nat) : Prop := l = [] ∨ ∃ g off, a = some ⟨g, off, none⟩ ∧ g ≠ b ∧ g < B ∧ ∀ i (h : i < l.length), w.cell? ⟨g, off + i, none⟩ = some (.int .u8 (l[i] : Int))
/-- bytes as a text -/
def bstr (l : List Nat) : ByteArray := strOfNums (l.map fun n : Nat => (n : Int))
theorem bstr_nil : bstr [] = ByteArray.empty := by
  simp [bstr, strOfNums, ByteArray.empty, ByteArray.emptyWithCapacity]
  rfl
theorem bstr_size (l : List Nat) : (bstr l).size = l.length := by unfold bstr; rw [strOfNums_size, List.length_map]
/-- bytes in memory -/
def Bytes (w : World) (a : Option Addr) (l : List Nat) : Prop := l = [] ∨ ∃ g off, a = some ⟨g, off, none⟩ ∧ g < w.heap.size ∧ ∀ i (h : i < l.length), w.cell? ⟨g, off + i, none⟩ = some (.int .u8 (l[i] : Int))
/-- bytes that are appended -/
def SrcB (w : World) (a : Option Addr) (c : Nat) (l : List Nat) : Prop := (a = none ∧ c = 0 ∧ l = []) ∨ ∃ ad, a = some ad ∧ ∀ j u, (octs l)[j]? = some u → w.cell? (ad.add j) = some u
theorem octs_length (l : List Nat) : (octs l).length = l.length := List.length_map _
theorem octs_one (l : List Nat) : ∀ u ∈ octs l, u.oneCell' = true := by
  intro u hu
  obtain ⟨x, _, rfl⟩ := List.mem_map.1 hu
  rfl
theorem octs_get {l : List Nat} {i : Nat} (h : i < l.length) : (octs l)[i]? = some (.int .u8 (l[i] : Int)) := by
  unfold octs; rw [List.getElem?_map, List.getElem?_eq_getElem h]; rfl
theorem srcB_own {w : World} {B : Nat} {v : Value} {l : List Nat} (h : w.ownsRow B 5 1 v l.length (octs l)) : ∃ a c, v = .slice a l.length c ∧ SrcB w a c l ∧ Bytes w a l ∧ l.length ≤ c := by
  rcases h.2 with ⟨rfl, h0⟩ | ⟨g, cap, cur, rfl, _, hg, hnc, _⟩
  · have hz : l = [] := List.length_eq_zero_iff.1 h0
    subst hz
    exact ⟨none, 0, rfl, .inl ⟨rfl, rfl, rfl⟩, .inl rfl, Nat.le_refl _⟩
  · refine ⟨_, cap, rfl, .inr ⟨_, rfl, h.cells (g := g) rfl⟩, .inr ⟨g, 0, rfl, (h.lt g rfl).2, fun i hi => ?_⟩, hnc⟩
    have := h.cells (g := g) rfl i _ (octs_get hi)
    rw [WideShapes.add_plain] at this
    exact this
theorem SrcB.below {w w' : World} {a : Option Addr} {c : Nat} {l : List Nat} (h : SrcB w a c l) (hb : Below w.heap.size w w') : SrcB w' a c l := by
  rcases h with h | ⟨ad, rfl, hc⟩
  · exact .inl h
  · refine .inr ⟨ad, rfl, fun j u hj => ?_⟩
    have h1 := hc j u hj
    rw [hb.cell (p := ad.add j) (World.block_lt_of_cell? w _ h1)]
    exact h1
theorem Bytes.below {w w' : World} {a : Option Addr} {l : List Nat} (h : Bytes w a l) (hb : Below w.heap.size w w') : Bytes w' a l := by
  rcases h with rfl | ⟨g, off, rfl, hg, hx⟩
  · exact .inl rfl
  · exact .inr ⟨g, off, rfl, Nat.lt_of_lt_of_le hg hb.size, fun i hi => (hb.cell (p := ⟨g, off + i, none⟩) hg).trans (hx i hi)⟩
theorem blk {w : World} {b : Nat} {cs : Array Value} {T : TypeId} (h : w.heap[b]? = some (.cells cs T (0, 0))) : (∀ j, w.cell? ⟨b, j, none⟩ = cs[j]?) ∧ b < w.heap.size ∧ (∀ j, w.frozen? ⟨b, j, none⟩ = false) :=
  ⟨fun j => cell_of_row _ _ _ _ _ _ h, (Array.getElem?_eq_some_iff.1 h).1, fun j => by simp [World.frozen?, h]⟩
theorem blk_put {w : World} {b : Nat} {cs : Array Value} {T : TypeId} (h : w.heap[b]? = some (.cells cs T (0, 0))) (j : Nat) (u : Value) : (w.setCell ⟨b, j, none⟩ u).heap[b]? = some (.cells (cs.setIfInBounds j u) T (0, 0)) ∧ Chg (fun k => k = b) w (w.setCell ⟨b, j, none⟩ u) :=
  ⟨heap_setCell_same w b j _ _ _ h, (Chg.refl (fun k => k = b) w).setCell (p := ⟨b, j, none⟩) rfl _⟩
def puts (w : World) (k : Nat) : Nat → List Value → World
  | _, [] => w
  | i, x :: xs => puts (w.setCell ⟨k, i, none⟩ x) k (i + 1) xs
theorem puts_chg (k : Nat) : ∀ (xs : List Value) (w : World) (i : Nat), Chg (fun j => j = k) w (puts w k i xs)
  | [], w, _ => Chg.refl _ w
  | x :: xs, w, i => ((Chg.refl (fun j => j = k) w).setCell (p := ⟨k, i, none⟩) rfl x).trans (puts_chg k xs _ (i + 1)) (fun _ _ h => h)
theorem puts_row (k : Nat) (T : TypeId) : ∀ (xs : List Value) (w : World) (i : Nat) (cs : Array Value), w.heap[k]? = some (.cells cs T (0, 0)) → i + xs.length = cs.size → (puts w k i xs).heap[k]? = some (.cells (cs.toList.take i ++ xs).toArray T (0, 0))
  | [], w, i, cs, h, hl => by
    have : cs.toList.take i = cs.toList := List.take_of_length_le (by simp at hl; simp; omega)
    show w.heap[k]? = _
    rw [this, List.append_nil, h]
  | x :: xs, w, i, cs, h, hl => by
    have h1 := heap_setCell_same w k i _ _ x h
    have h2 := puts_row k T xs _ (i + 1) _ h1 (by simp at hl ⊢; omega)
    show (puts (w.setCell ⟨k, i, none⟩ x) k (i + 1) xs).heap[k]? = _
    rw [h2]
    have hi : i < cs.toList.length := by simp at hl ⊢; omega
    have e : (cs.setIfInBounds i x).toList.take (i + 1) = cs.toList.take i ++ [x] := by
      rw [Array.toList_setIfInBounds, List.take_add_one, List.take_set_of_le (Nat.le_refl _), List.getElem?_set_self hi]
      rfl
    rw [e, List.append_assoc]
    rfl
theorem puts_all {w : World} {k : Nat} {T : TypeId} {cs : Array Value} (h : w.heap[k]? = some (.cells cs T (0, 0))) (xs : List Value) (hl : xs.length = cs.size) : (puts w k 0 xs).heap[k]? = some (.cells xs.toArray T (0, 0)) ∧ Chg (fun j => j = k) w (puts w k 0 xs) :=
  ⟨by have := puts_row k T xs w 0 cs h (by omega); simpa using this, puts_chg k xs w 0⟩

end Go.Proofs.Ytnjhcnfnllojpaa
