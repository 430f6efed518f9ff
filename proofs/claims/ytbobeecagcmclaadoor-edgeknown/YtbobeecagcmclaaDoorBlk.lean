/-
  Blocks of cells, whatever their type; parsers one behind the other.
-/
import Derived.Test.YtbobeecagcmclaaDoorWireOp
namespace Go.Proofs.YtbobeecagcmclaaDoor
open Go.RowKit Go.Lib

theorem blk {w : World} {b : Nat} {cs : Array Value} {T : TypeId} (h : w.heap[b]? = some (.cells cs T (0, 0))) : (∀ j, w.cell? ⟨b, j, none⟩ = cs[j]?) ∧ b < w.heap.size ∧ (∀ j, w.frozen? ⟨b, j, none⟩ = false) :=
  ⟨fun j => cell_of_row _ _ _ _ _ _ h, (Array.getElem?_eq_some_iff.1 h).1, fun j => by simp [World.frozen?, h]⟩
theorem blk_put {w : World} {b : Nat} {cs : Array Value} {T : TypeId} (h : w.heap[b]? = some (.cells cs T (0, 0))) (j : Nat) (u : Value) : (w.setCell ⟨b, j, none⟩ u).heap[b]? = some (.cells (cs.setIfInBounds j u) T (0, 0)) ∧ Chg (fun k => k = b) w (w.setCell ⟨b, j, none⟩ u) :=
  ⟨heap_setCell_same w b j _ _ _ h, (Chg.refl (fun k => k = b) w).setCell (p := ⟨b, j, none⟩) rfl _⟩
def puts (w : World) (k : Nat) : Nat → List Value → World
  | _, [] => w
  | i, x :: xs => puts (w.setCell ⟨k, i, none⟩ x) k (i + 1) xs
theorem puts_chg (k : Nat) : ∀ (xs : List Value) (w : World) (i : Nat), Chg (fun j => j = k) w (puts w k i xs)
  | [], w, _ => Chg.refl _ w
  | x :: xs, w, i => ((Chg.refl (fun j => j = k) w).setCell (p := ⟨k, i, none⟩) rfl x).trans (puts_chg k xs _ (i + 1)) (fun _ _ h => h)
theorem puts_row (k : Nat) (T : TypeId) : ∀ (xs : List Value) (w : World) (i : Nat) (cs : Array Value), w.heap[k]? = some (.cells cs T (0, 0)) → i + xs.length = cs.size → (puts w k i xs).heap[k]? = some (.cells (cs.toList.take i ++ xs).toArray T (0, 0))
  | [], w, i, cs, h, hl => by
    have : cs.toList.take i = cs.toList := List.take_of_length_le (by simp at hl; simp; omega)
    show w.heap[k]? = _
    rw [this, List.append_nil, h]
  | x :: xs, w, i, cs, h, hl => by
    have h1 := heap_setCell_same w k i _ _ x h
    have h2 := puts_row k T xs _ (i + 1) _ h1 (by simp at hl ⊢; omega)
    show (puts (w.setCell ⟨k, i, none⟩ x) k (i + 1) xs).heap[k]? = _
    rw [h2]
    have hi : i < cs.toList.length := by simp at hl ⊢; omega
    have e : (cs.setIfInBounds i x).toList.take (i + 1) = cs.toList.take i ++ [x] := by
      rw [Array.toList_setIfInBounds, List.take_add_one, List.take_set_of_le (Nat.le_refl _), List.getElem?_set_self hi]
      rfl
    rw [e, List.append_assoc]
    rfl
theorem puts_all {w : World} {k : Nat} {T : TypeId} {cs : Array Value} (h : w.heap[k]? = some (.cells cs T (0, 0))) (xs : List Value) (hl : xs.length = cs.size) : (puts w k 0 xs).heap[k]? = some (.cells xs.toArray T (0, 0)) ∧ Chg (fun j => j = k) w (puts w k 0 xs) :=
  ⟨by have := puts_row k T xs w 0 cs h (by omega); simpa using this, puts_chg k xs w 0⟩

/-- one parser, and then another -/
def seqP {α β : Type} (p : List Nat → Except Int (α × List Nat)) (q : α → List Nat → Except Int (β × List Nat)) : List Nat → Except Int (β × List Nat) := fun l => match p l with
  | .ok x => q x.1 x.2
  | .error e => .error e
def pureP {α : Type} (a : α) : List Nat → Except Int (α × List Nat) := fun l => .ok (a, l)
theorem seq_at {α β : Type} {p : List Nat → Except Int (α × List Nat)} {q : α → List Nat → Except Int (β × List Nat)} {st : Except Int (List Nat)} {a : α} (h : ∀ x, andR st p = .ok x → x.1 = a) : andR st (seqP p q) = andR (rest (andR st p)) (q a) := by
  cases st with
  | error e => rfl
  | ok l =>
    show (match p l with | .ok x => q x.1 x.2 | .error e => .error e) = andR (rest (p l)) (q a)
    have h' : ∀ x, p l = .ok x → x.1 = a := h
    cases hp : p l with
    | error e => rfl
    | ok x =>
      show q x.1 x.2 = q a x.2
      rw [h' x hp]
theorem pure_rest {α : Type} (a : α) (st : Except Int (List Nat)) : rest (andR st (pureP a)) = st := by cases st <;> rfl
theorem pure_val {α : Type} (a : α) (st : Except Int (List Nat)) : ∀ x, andR st (pureP a) = .ok x → x.1 = a := by
  cases st with
  | error e => intro x h; cases h
  | ok l => intro x h; cases h; rfl

/-- a frame's values -/
structure FrameV where
  kind : Nat
  heard : Nat
  epoch : Nat
  op : List Part
  text : ByteArray
def frame0 : FrameV := ⟨0, 0, 0, [], ByteArray.empty⟩
structure FrameSmall (f : FrameV) : Prop where
  kind : f.kind < 268435456
  heard : f.heard < 268435456
  epoch : f.epoch < 268435456
  many : f.op.length < 268435456
  parts : ∀ p ∈ f.op, PartOk 1000000 p
  text : f.text.size ≤ 1000000
/-- P3.4: a frame, read -/
def frameP : List Nat → Except Int (FrameV × List Nat) := seqP numP fun k =>
  if k = 1 then seqP numP fun h => seqP opP fun ps => pureP ⟨1, h, 0, ps, ByteArray.empty⟩
  else if k = 3 then seqP numP fun e => seqP textP fun s => pureP ⟨3, 0, e, [], s⟩
  else seqP numP fun e => seqP numP fun h => pureP ⟨k, h, e, [], ByteArray.empty⟩
/-- a packet's values -/
structure PacketV where
  epoch : Nat
  number : Nat
  bare : Bool
  ack : Nat
  frame : FrameV
def packet0 : PacketV := ⟨0, 0, false, 0, frame0⟩
/-- P3.5: a packet, read -/
def packetP : List Nat → Except Int (PacketV × List Nat) := seqP numP fun ep => seqP numP fun ack => seqP numP fun num =>
  if num = 0 then pureP ⟨ep, 0, true, ack, frame0⟩ else seqP frameP fun f => pureP ⟨ep, num, false, ack, f⟩

end Go.Proofs.YtbobeecagcmclaaDoor
