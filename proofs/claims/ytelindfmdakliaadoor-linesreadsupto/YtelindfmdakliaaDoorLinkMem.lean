/-
  Slices in memory; rows of frames and of packets; links (pure).
-/
import Derived.Test.YtelindfmdakliaaDoorEdgeMem
import Derived.Test.YtelindfmdakliaaDoorPenWalk
import Derived.Test.YtelindfmdakliaaDoorWirePacket
import Derived.Test.YtelindfmdakliaaDoorBlk
import Derived.OwnWalk
namespace Go.Proofs.YtelindfmdakliaaDoor
open Go.RowKit Go.Lib

/-- nothing changed in the blocks from B on -/
structure Kept (B : Nat) (w w' : World) : Prop where
  size : w.heap.size ≤ w'.heap.size
  block : ∀ k, B ≤ k → k < w.heap.size → w'.heap[k]? = w.heap[k]?
theorem Kept.of_below {B : Nat} {w w' : World} (hb : Below w.heap.size w w') : Kept B w w' := ⟨hb.size, fun k _ h => hb.block k h⟩
theorem Kept.of_chg {B : Nat} {F : Nat → Prop} {w w' : World} (hc : Chg F w w') (hF : ∀ k, F k → k < B) : Kept B w w' :=
  ⟨hc.size, fun k hB hk => hc.block k hk (fun hf => by have := hF k hf; omega)⟩
theorem Kept.refl (B : Nat) (w : World) : Kept B w w := ⟨Nat.le_refl _, fun _ _ _ => rfl⟩
theorem Kept.trans {B : Nat} {a b c : World} (h : Kept B a b) (k : Kept B b c) : Kept B a c :=
  ⟨Nat.le_trans h.size k.size, fun i hB hi => (k.block i hB (Nat.lt_of_lt_of_le hi h.size)).trans (h.block i hB hi)⟩

/-- a slice whose cells lie from block B on -/
def SlIn (w : World) (B : Nat) (v : Value) (n : Nat) (xs : List Value) : Prop :=
  ∃ a c, v = .slice a n c ∧ n ≤ c ∧ (a = none → c = 0) ∧ (xs = [] ∨ ∃ b off, a = some ⟨b, off, none⟩ ∧ B ≤ b ∧ b < w.heap.size ∧ ∀ j u, xs[j]? = some u → w.cell? ⟨b, off + j, none⟩ = some u)
theorem SlIn.keep {w w' : World} {B : Nat} {v : Value} {n : Nat} {xs : List Value} (h : SlIn w B v n xs) (hk : Kept B w w') : SlIn w' B v n xs := by
  obtain ⟨a, c, e, hn, hz, hc⟩ := h
  refine ⟨a, c, e, hn, hz, ?_⟩
  rcases hc with h0 | ⟨b, off, ea, hB, hl, hc⟩
  · exact .inl h0
  · exact .inr ⟨b, off, ea, hB, Nat.lt_of_lt_of_le hl hk.size, fun j u hj => (World.cell?_of_block (a := ⟨b, off + j, none⟩) (hk.block b hB hl)).trans (hc j u hj)⟩
theorem SlIn.below {w w' : World} {B : Nat} {v : Value} {n : Nat} {xs : List Value} (h : SlIn w B v n xs) (hb : Below w.heap.size w w') : SlIn w' B v n xs := h.keep (Kept.of_below hb)
theorem SlIn.base {w : World} {B B' : Nat} {v : Value} {n : Nat} {xs : List Value} (h : SlIn w B v n xs) (hB : B' ≤ B) : SlIn w B' v n xs := by
  obtain ⟨a, c, e, hn, hz, hc⟩ := h
  refine ⟨a, c, e, hn, hz, ?_⟩
  rcases hc with h0 | ⟨b, off, ea, hb, r⟩
  · exact .inl h0
  · exact .inr ⟨b, off, ea, Nat.le_trans hB hb, r⟩
theorem SlIn.own {w : World} {B T size : Nat} {v : Value} {n : Nat} {xs : List Value} (h : w.ownsRow B T size v n xs) (hx : n = 0 → xs = []) : SlIn w B v n xs := by
  rcases h.2 with ⟨rfl, h0⟩ | ⟨g, cap, cur, rfl, hb, hg, hn, _⟩
  · exact ⟨none, 0, by rw [h0], by omega, fun _ => rfl, .inl (hx h0)⟩
  · refine ⟨_, cap, rfl, hn, (fun e => by cases e), .inr ⟨g, 0, rfl, hb, (h.lt g rfl).2, fun j u hj => ?_⟩⟩
    have := h.cells (g := g) rfl j u hj
    rw [WideShapes.add_plain] at this
    exact this
theorem partCells_key : ∀ (l : List Part) (i : Nat) (hi : i < l.length), (partCells l)[i * 3]? = some (.int .i64 l[i].kind) ∧ (partCells l)[i * 3 + 1]? = some (.int .i64 l[i].n) ∧ (partCells l)[i * 3 + 2]? = some (.string l[i].text) := by
  intro l
  induction l with
  | nil => intro i hi; simp at hi
  | cons s l ih =>
    intro i hi
    have e : partCells (s :: l) = Value.int .i64 s.kind :: Value.int .i64 s.n :: Value.string s.text :: partCells l := by simp [partCells]
    rw [e]
    cases i with
    | zero => simp
    | succ i =>
      have := ih i (by simpa using hi)
      rw [show (i + 1) * 3 = i * 3 + 1 + 1 + 1 by omega]
      simpa using this
theorem SlIn.op {w : World} {B : Nat} {v : Value} {ps : List Part} (h : SlIn w B v ps.length (partCells ps)) : OpVal w v ps := by
  obtain ⟨a, c, rfl, hn, hz, hc⟩ := h
  rcases hc with h0 | ⟨b, off, rfl, hB, hl, hc⟩
  · have hp : ps = [] := by
      have := congrArg List.length h0
      rw [partCells_length] at this
      exact List.length_eq_zero_iff.1 (by simp at this; omega)
    subst hp
    refine ⟨a, c, rfl, .inl rfl, hn, ?_⟩
    cases a with
    | none => exact .inl ⟨rfl, hz rfl, rfl⟩
    | some ad => exact .inr ⟨ad, rfl, fun j u hj => by simp [partCells] at hj⟩
  · refine ⟨_, c, rfl, .inr ⟨b, off, rfl, hl, fun i hi => ?_⟩, hn, .inr ⟨_, rfl, fun j u hj => by rw [WideShapes.add_plain]; exact hc j u hj⟩⟩
    obtain ⟨k1, k2, k3⟩ := partCells_key ps i hi
    exact ⟨hc _ _ k1, by have := hc _ _ k2; rw [← Nat.add_assoc] at this; exact this, by have := hc _ _ k3; rw [← Nat.add_assoc] at this; exact this⟩
theorem slIn_ownOp {w : World} {B : Nat} {v : Value} {ps : List Part} (h : w.ownsRow B 63 3 v ps.length (partCells ps)) : SlIn w B v ps.length (partCells ps) :=
  SlIn.own h fun h0 => by rw [List.length_eq_zero_iff.1 h0]; rfl
theorem slIn_opVal {w : World} {v : Value} {ps : List Part} (h : OpVal w v ps) : SlIn w 0 v ps.length (partCells ps) := by
  obtain ⟨a, c, rfl, ho, hn, hs⟩ := h.form
  rcases hs with ⟨rfl, rfl, rfl⟩ | ⟨ad, rfl, hc⟩
  · exact ⟨none, 0, rfl, hn, fun _ => rfl, .inl rfl⟩
  · refine ⟨some ad, c, rfl, hn, (fun e => by cases e), ?_⟩
    rcases ho with rfl | ⟨b, off, e, hl, _⟩
    · exact .inl rfl
    · cases e
      exact .inr ⟨b, off, rfl, Nat.zero_le _, hl, fun j u hj => by have := hc j u hj; rw [WideShapes.add_plain] at this; exact this⟩

/-- structs in a row, each with one operation -/
structure Shape (α : Type) where
  T : TypeId
  size : Nat
  cells : α → List Value
  opv : α → Value
  ops : α → List Part
  len : ∀ x, (cells x).length = size
  nop : T ≠ 63
def Shape.all {α : Type} (S : Shape α) (K : List α) : List Value := K.flatMap S.cells
theorem Shape.all_length {α : Type} (S : Shape α) (K : List α) : (S.all K).length = K.length * S.size := by
  unfold Shape.all
  induction K with
  | nil => simp
  | cons x K ih => rw [List.flatMap_cons, List.length_append, ih, S.len, List.length_cons, Nat.succ_mul, Nat.add_comm]
theorem Shape.all_append {α : Type} (S : Shape α) (a b : List α) : S.all (a ++ b) = S.all a ++ S.all b := by simp [Shape.all]
theorem Shape.all_one {α : Type} (S : Shape α) (x : α) : S.all [x] = S.cells x := by simp [Shape.all]
theorem Shape.all_get {α : Type} (S : Shape α) (K : List α) {i j : Nat} (h : i < K.length) (hj : j < S.size) : (S.all K)[i * S.size + j]? = (S.cells K[i])[j]? := by
  induction K generalizing i with
  | nil => simp at h
  | cons x K ih =>
    have e : S.all (x :: K) = S.cells x ++ S.all K := by simp [Shape.all]
    rw [e]
    cases i with
    | zero => rw [Nat.zero_mul, Nat.zero_add, List.getElem?_append_left (by rw [S.len]; exact hj)]; rfl
    | succ i =>
      have := ih (i := i) (by simpa using h)
      rw [List.getElem?_append_right (by rw [S.len, Nat.succ_mul]; omega), S.len, show (i + 1) * S.size + j - S.size = i * S.size + j by rw [Nat.succ_mul]; omega, this]
      rfl
/-- such a slice, readable -/
structure InK {α : Type} (S : Shape α) (w : World) (B : Nat) (v : Value) (K : List α) : Prop where
  row : SlIn w B v K.length (S.all K)
  each : ∀ x ∈ K, SlIn w B (S.opv x) (S.ops x).length (partCells (S.ops x))
theorem InK.keep {α : Type} {S : Shape α} {w w' : World} {B : Nat} {v : Value} {K : List α} (h : InK S w B v K) (hk : Kept B w w') : InK S w' B v K := ⟨h.row.keep hk, fun x hx => (h.each x hx).keep hk⟩
theorem InK.below {α : Type} {S : Shape α} {w w' : World} {B : Nat} {v : Value} {K : List α} (h : InK S w B v K) (hb : Below w.heap.size w w') : InK S w' B v K := h.keep (Kept.of_below hb)
theorem InK.base {α : Type} {S : Shape α} {w : World} {B B' : Nat} {v : Value} {K : List α} (h : InK S w B v K) (hB : B' ≤ B) : InK S w B' v K := ⟨h.row.base hB, fun x hx => (h.each x hx).base hB⟩
theorem inK_nil {α : Type} (S : Shape α) (w : World) (B : Nat) : InK S w B (.slice none 0 0) [] := ⟨⟨none, 0, rfl, Nat.le_refl _, fun _ => rfl, .inl rfl⟩, fun x h => by simp at h⟩
/-- such a slice, one's own -/
structure RowK {α : Type} (S : Shape α) (w : World) (B : Nat) (v : Value) (K : List α) : Prop where
  row : w.ownsRow B S.T S.size v K.length (S.all K)
  each : ∀ x ∈ K, w.ownsRow B 63 3 (S.opv x) (S.ops x).length (partCells (S.ops x))
theorem rowK_nil {α : Type} (S : Shape α) (w : World) (B : Nat) : RowK S w B (.slice none 0 0) [] := ⟨World.ownsRow_nil _ _ _ _, fun x h => by simp at h⟩
theorem RowK.below {α : Type} {S : Shape α} {w w' : World} {B : Nat} {v : Value} {K : List α} (h : RowK S w B v K) (hb : Below w.heap.size w w') : RowK S w' B v K := ⟨own_below h.row hb, fun x hx => own_below (h.each x hx) hb⟩
theorem RowK.base {α : Type} {S : Shape α} {w : World} {B B' : Nat} {v : Value} {K : List α} (h : RowK S w B v K) (hB : B' ≤ B) : RowK S w B' v K := ⟨own_base h.row hB, fun x hx => own_base (h.each x hx) hB⟩
/-- a store into a block of another type -/
theorem RowK.stored {α : Type} {S : Shape α} {w w' : World} {B : Nat} {v : Value} {K : List α} {b : Nat} {cs : Array Value} {T : TypeId} (h : RowK S w B v K) (hb : w.heap[b]? = some (.cells cs T (0, 0))) (h1 : T ≠ S.T) (h2 : T ≠ 63) (hc : Chg (fun k => k = b) w w') : RowK S w' B v K :=
  ⟨own_chg h.row hc (fun k hk e => row_ne h.row hb h1 (by rw [← e]; exact hk.symm)), fun x hx => own_chg (h.each x hx) hc (fun k hk e => row_ne (h.each x hx) hb h2 (by rw [← e]; exact hk.symm))⟩
/-- one that is appended; other rows of its kind or of another stay -/
theorem RowK.app {α : Type} {S : Shape α} {w w' : World} {B : Nat} {v v' : Value} {K : List α} {x : α} {o : Obj} (h : RowK S w B v K) (hu : w.ownsRow B 63 3 (S.opv x) (S.ops x).length (partCells (S.ops x))) (hr : w'.ownsRow B S.T S.size v' (K.length + 1) (S.all K ++ S.cells x)) (hg : (w.alloc o).grownBy w' v.ownBlock) : RowK S w' B v' (K ++ [x]) := by
  have hch : Chg (fun k => v.ownBlock = some k) w w' := ((Chg.refl _ w).alloc _).grown hg (fun k _ e => e)
  refine ⟨by rw [List.length_append, S.all_append, S.all_one]; exact hr, fun y hy => ?_⟩
  rcases List.mem_append.1 hy with hy | hy
  · exact own_chg (h.each y hy) hch (own_ne (h.each y hy) h.row (Ne.symm S.nop))
  · simp only [List.mem_singleton] at hy
    subst hy
    exact own_chg hu hch (own_ne hu h.row (Ne.symm S.nop))
theorem RowK.inK {α : Type} {S : Shape α} {w : World} {B : Nat} {v : Value} {K : List α} (h : RowK S w B v K) : InK S w B v K :=
  ⟨SlIn.own h.row fun h0 => by rw [List.length_eq_zero_iff.1 h0]; rfl, fun x hx => slIn_ownOp (h.each x hx)⟩

/-- a frame, whatever its numbers are -/
structure FrI where
  kind : Int
  heard : Int
  epoch : Int
  op : List Part
  text : ByteArray
def FrI.err (f : FrI) : Int := frameErr f.kind f.heard f.epoch f.op f.text
def fr0 : FrI := ⟨0, 0, 0, [], ByteArray.empty⟩
/-- not too great -/
structure FrSmall (f : FrI) : Prop where
  op : OpSmall f.op
  text : f.text.size ≤ 1048576
/-- a packet, whatever its numbers are -/
structure PkI where
  epoch : Int
  number : Int
  bare : Bool
  ack : Int
  frame : FrI
def PkI.err (p : PkI) : Int := packetErr p.epoch p.number p.bare p.ack p.frame.kind p.frame.heard p.frame.epoch p.frame.op p.frame.text
abbrev FrK := FrI × Value
abbrev PkK := PkI × Value
def frVals (f : FrI) (v : Value) : List Value := [.int .i64 f.kind, .int .i64 f.heard, .int .i64 f.epoch, v, .string f.text]
def pkVals (p : PkI) (v : Value) : List Value := [.int .i64 p.epoch, .int .i64 p.number, .bool p.bare, .int .i64 p.ack, .int .i64 p.frame.kind, .int .i64 p.frame.heard, .int .i64 p.frame.epoch, v, .string p.frame.text]
/-- one side of a session -/
structure LinkI where
  epoch : Int
  next : Int
  sent : List FrI
  queue : List FrI
  heard : Int
/-- a link whose frames lie in memory -/
def mkL (ep nx hd : Int) (S Q : List FrK) : LinkI := ⟨ep, nx, S.map (·.1), Q.map (·.1), hd⟩
def link0 : LinkI := ⟨0, 0, [], [], 0⟩
/-- P5.1 -/
def framesB (fs : List FrI) : Bool := fs.all fun f => decide (f.err = 0)
def linkNum (l : LinkI) : Bool := inN l.epoch && inN l.heard && inN l.next && !decide (l.next = 0)
def linkOkB (l : LinkI) : Bool := linkNum l && decide ((l.sent.length : Int) ≤ 8) && decide ((l.sent.length : Int) < l.next) && (decide (l.sent.length = 8) || decide (l.queue.length = 0)) && (!decide (l.epoch = 0) || (decide (l.sent.length = 0) && decide (l.heard = 0))) && framesB l.sent && framesB l.queue
def linkErr (l : LinkI) : Int := if linkOkB l = true then 0 else 9
/-- P5.3: the packets of frames, numbered from n on -/
def packs (ep hd : Int) : Int → List FrI → List PkI
  | _, [] => []
  | n, f :: fs => ⟨ep, n, false, hd, f⟩ :: packs ep hd (n + 1) fs
theorem packs_append (ep hd : Int) : ∀ (a b : List FrI) (n : Int), packs ep hd n (a ++ b) = packs ep hd n a ++ packs ep hd (n + a.length) b
  | [], b, n => by simp [packs]
  | f :: a, b, n => by
    have := packs_append ep hd a b (n + 1)
    show _ :: packs ep hd (n + 1) (a ++ b) = _
    rw [this]
    show _ = _ :: (packs ep hd (n + 1) a ++ _)
    rw [show n + 1 + (a.length : Int) = n + ((f :: a).length : Int) by simp; omega]
theorem packs_length (ep hd : Int) : ∀ (a : List FrI) (n : Int), (packs ep hd n a).length = a.length
  | [], _ => rfl
  | f :: a, n => by show (packs ep hd (n + 1) a).length + 1 = _; rw [packs_length ep hd a]; rfl
theorem packs_get (ep hd : Int) : ∀ (a : List FrI) (n : Int) (i : Nat) (h : i < a.length) (h' : i < (packs ep hd n a).length), (packs ep hd n a)[i] = ⟨ep, n + i, false, hd, a[i]⟩
  | f :: a, n, 0, _, _ => by show PkI.mk ep n false hd f = _; simp
  | f :: a, n, i + 1, h, h' => by
    have := packs_get ep hd a (n + 1) i (by simpa using h) (by rw [packs_length]; simpa using h)
    show (packs ep hd (n + 1) a)[i]'_ = _
    rw [this]
    simp
    omega
/-- P5.4: how many of those that wait go -/
def goK (s q : Nat) (n : Int) : Nat := min q (min (8 - s) (1048576 - n).toNat)
def LinkI.go (l : LinkI) : LinkI × List PkI := (⟨l.epoch, l.next + (goK l.sent.length l.queue.length l.next : Nat), l.sent ++ l.queue.take (goK l.sent.length l.queue.length l.next), l.queue.drop (goK l.sent.length l.queue.length l.next), l.heard⟩, packs l.epoch l.heard l.next (l.queue.take (goK l.sent.length l.queue.length l.next)))
/-- P5.4 -/
def lsendErr (l : LinkI) (f : FrI) : Int := if linkErr l ≠ 0 then linkErr l else if l.epoch = 0 then 12 else if f.err ≠ 0 then f.err else if l.next = 1048576 then 8 else 0
def sendL (l : LinkI) (f : FrI) : LinkI × List PkI := LinkI.go { l with queue := l.queue ++ [f] }
/-- P5.5 -/
def lhearErr (l : LinkI) (p : PkI) : Int := if linkErr l ≠ 0 then linkErr l else if p.err ≠ 0 then p.err else if l.epoch = 0 ∨ p.epoch ≠ l.epoch then 12 else 0
/-- how many are known to have come -/
def cameN (l : LinkI) (ack : Int) : Nat := if l.next - l.sent.length ≤ ack ∧ ack ≤ l.next - 1 then (ack + 1 - (l.next - l.sent.length)).toNat else 0
def behindL (l : LinkI) (ack : Int) : LinkI := { l with sent := l.sent.drop (cameN l ack) }
def bareL (l : LinkI) : PkI := ⟨l.epoch, 0, true, l.heard, fr0⟩
def toldB (l : LinkI) (p : PkI) : Bool := !p.bare && decide (p.number = l.heard + 1)
def hearTo (l : LinkI) (p : PkI) : LinkI := { behindL l p.ack with heard := if toldB l p then l.heard + 1 else l.heard }
def hearL (l : LinkI) (p : PkI) : LinkI × List PkI := ((hearTo l p).go.1, (hearTo l p).go.2 ++ (if p.bare then [] else [bareL (hearTo l p).go.1]))
/-- P5.6 -/
def tickL (l : LinkI) : List PkI := if l.epoch = 0 then [] else if l.sent.length = 0 then [bareL l] else packs l.epoch l.heard (l.next - l.sent.length) l.sent

/-- a slice whose cells lie from block B on, in a block of that type -/
def SlT (w : World) (B : Nat) (T : TypeId) (v : Value) (n : Nat) (xs : List Value) : Prop :=
  ∃ a c, v = .slice a n c ∧ n ≤ c ∧ (a = none → c = 0) ∧ (xs = [] ∨ ∃ b off cs, a = some ⟨b, off, none⟩ ∧ B ≤ b ∧ w.heap[b]? = some (.cells cs T (0, 0)) ∧ ∀ j u, xs[j]? = some u → w.cell? ⟨b, off + j, none⟩ = some u)
theorem SlT.slIn {w : World} {B : Nat} {T : TypeId} {v : Value} {n : Nat} {xs : List Value} (h : SlT w B T v n xs) : SlIn w B v n xs := by
  obtain ⟨a, c, e, hn, hz, hc⟩ := h
  refine ⟨a, c, e, hn, hz, ?_⟩
  rcases hc with h0 | ⟨b, off, cs, ea, hB, hl, hc⟩
  · exact .inl h0
  · exact .inr ⟨b, off, ea, hB, (Array.getElem?_eq_some_iff.1 hl).1, hc⟩
theorem SlT.own {w : World} {B T size : Nat} {v : Value} {n : Nat} {xs : List Value} (h : w.ownsRow B T size v n xs) (hx : n = 0 → xs = []) : SlT w B T v n xs := by
  rcases h.2 with ⟨rfl, h0⟩ | ⟨g, cap, cur, rfl, hb, hg, hn, _⟩
  · exact ⟨none, 0, by rw [h0], by omega, fun _ => rfl, .inl (hx h0)⟩
  · refine ⟨_, cap, rfl, hn, (fun e => by cases e), .inr ⟨g, 0, cur, rfl, hb, hg, fun j u hj => ?_⟩⟩
    have := h.cells (g := g) rfl j u hj
    rw [WideShapes.add_plain] at this
    exact this
/-- what was changed lies ahead of it, or is of another type -/
theorem SlT.chg {F : Nat → Prop} {w w' : World} {B : Nat} {T : TypeId} {v : Value} {n : Nat} {xs : List Value} (h : SlT w B T v n xs) (hc : Chg F w w') (hF : ∀ k, F k → B ≤ k → ∀ cs, w.heap[k]? ≠ some (.cells cs T (0, 0))) : SlT w' B T v n xs := by
  obtain ⟨a, c, e, hn, hz, hx⟩ := h
  refine ⟨a, c, e, hn, hz, ?_⟩
  rcases hx with h0 | ⟨b, off, cs, ea, hB, hl, hx⟩
  · exact .inl h0
  · have hb : w'.heap[b]? = w.heap[b]? := hc.block b (Array.getElem?_eq_some_iff.1 hl).1 (fun hf => hF b hf hB cs hl)
    exact .inr ⟨b, off, cs, ea, hB, hb.trans hl, fun j u hj => (World.cell?_of_block (a := ⟨b, off + j, none⟩) hb).trans (hx j u hj)⟩
theorem SlT.below {w w' : World} {B : Nat} {T : TypeId} {v : Value} {n : Nat} {xs : List Value} (h : SlT w B T v n xs) (hb : Below w.heap.size w w') : SlT w' B T v n xs :=
  h.chg (F := fun _ => False) (Chg.of_below hb) (fun _ f => f.elim)
/-- 's[1:]' -/
theorem SlT.tail {w : World} {B : Nat} {T : TypeId} {a : Option Addr} {n c size : Nat} {x xs : List Value} (h : SlT w B T (.slice a (n + 1) c) (n + 1) (x ++ xs)) (hx : x.length = size) (hxs : n = 0 → xs = []) (h0 : 0 < size) : SlT w B T (.slice (if c = 1 then a else a.map (·.add size)) n (c - 1)) n xs := by
  obtain ⟨a', c', e, hn, hz, hc⟩ := h
  simp only [Value.slice.injEq, true_and] at e
  obtain ⟨rfl, rfl⟩ := e
  refine ⟨_, _, rfl, by omega, ?_, ?_⟩
  · intro hh
    split at hh
    · have := hz hh; omega
    · have : a = none := by cases a with
        | none => rfl
        | some _ => simp at hh
      have := hz this
      omega
  · rcases hc with h1 | ⟨b, off, cs, rfl, hB, hl, hc⟩
    · exact .inl (by have := congrArg List.length h1; simp at this; exact List.length_eq_zero_iff.1 (by simp [this.2]))
    · by_cases h1 : c = 1
      · have hn0 : n = 0 := by omega
        exact .inl (hxs hn0)
      · rw [if_neg h1]
        refine .inr ⟨b, off + size, cs, by simp [Addr.add]; omega, hB, hl, fun j u hj => ?_⟩
        rw [Nat.add_assoc]
        refine hc _ _ ?_
        rw [List.getElem?_append_right (by omega), hx, Nat.add_sub_cancel_left]
        exact hj

end Go.Proofs.YtelindfmdakliaaDoor
