/-
  PLAIN LEAN, of no program: the runes of a text, the parts of an operation, their lengths.
-/
import Derived.Laws.IdiomStrings
import Derived.Laws.RangeAny
import Derived.Below
import Derived.WalkKit
namespace Go.Proofs.YtepehgjdepioeaaDoor
open Go.RowKit

theorem decode_pos (s : ByteArray) (pos : Nat) (h : pos < s.size) : 1 ≤ (Utf8.decode s pos).2 := by
  by_cases ha : (s[pos]'h).toNat < 128
  · rw [decode_ascii s pos h ha]
    exact Nat.le_refl _
  · exact (decode_high s pos h (by omega)).2

/-- The runes of a text from a place on, by at most so many. -/
def runesAt (s : ByteArray) : Nat → Nat → List Nat
  | 0, _ => []
  | f + 1, pos => if pos < s.size then (Utf8.decode s pos).1 :: runesAt s f (pos + (Utf8.decode s pos).2) else []
/-- The runes of a text, valid UTF-8 or not. -/
def runes (s : ByteArray) : List Nat := runesAt s s.size 0

theorem runesAt_end (s : ByteArray) (f pos : Nat) (h : ¬ pos < s.size) : runesAt s f pos = [] := by
  cases f <;> simp [runesAt, h]

theorem runesAt_le (s : ByteArray) : ∀ f pos, (runesAt s f pos).length ≤ f
  | 0, _ => by simp [runesAt]
  | f + 1, pos => by
    have ih := runesAt_le s f (pos + (Utf8.decode s pos).2)
    unfold runesAt
    split
    · simp only [List.length_cons]; omega
    · simp

theorem runes_le (s : ByteArray) : (runes s).length ≤ s.size := runesAt_le s _ _

/-- A step: enough fuel. -/
theorem runesAt_step (s : ByteArray) (f pos : Nat) (h : pos < s.size) (hf : s.size ≤ pos + f) :
    ∃ f', f = f' + 1 ∧ runesAt s f pos = (Utf8.decode s pos).1 :: runesAt s f' (pos + (Utf8.decode s pos).2) := by
  cases f with
  | zero => omega
  | succ f => exact ⟨f, rfl, by simp [runesAt, h]⟩

theorem runesFrom_eq (s : ByteArray) : ∀ f pos (acc : Array Value), (Conv.runesFrom s f pos acc).toList = acc.toList ++ (runesAt s f pos).map fun r => Value.int .i32 (Int.ofNat r)
  | 0, _, acc => by simp [Conv.runesFrom, runesAt]
  | f + 1, pos, acc => by
    unfold Conv.runesFrom runesAt
    split
    · rw [runesFrom_eq s f]
      simp
    · simp

theorem runesFrom_size (s : ByteArray) : (Conv.runesFrom s s.size 0 #[]).size = (runes s).length := by
  have h := congrArg List.length (runesFrom_eq s s.size 0 #[])
  simpa [runes] using h

/-- A part of an operation. -/
structure Part where
  kind : Int
  n : Int
  text : ByteArray

/-- What is known of the numbers of a part that came in: they are the machine's; the text is no longer than so. -/
def PartOk (m : Nat) (p : Part) : Prop := (-9223372036854775808 ≤ p.kind ∧ p.kind ≤ 9223372036854775807) ∧ (-9223372036854775808 ≤ p.n ∧ p.n ≤ 9223372036854775807) ∧ p.text.size ≤ m

theorem PartOk.mono {m m' : Nat} {p : Part} (h : PartOk m p) (hm : m ≤ m') : PartOk m' p := ⟨h.1, h.2.1, Nat.le_trans h.2.2 hm⟩

/-- One part more: the two lengths, as the machine adds. -/
def stepLen (acc : Int × Int) (p : Part) : Int × Int :=
  if p.kind = 1 then (wrap64 (acc.1 + p.n), wrap64 (acc.2 + p.n))
  else if p.kind = 3 then (wrap64 (acc.1 + p.n), acc.2)
  else if p.kind = 2 then (acc.1, wrap64 (acc.2 + (runes p.text).length))
  else acc
def lens (ps : List Part) : Int × Int := ps.foldl stepLen (0, 0)

theorem lens_take (ps : List Part) (k : Nat) (h : k < ps.length) : lens (ps.take (k + 1)) = stepLen (lens (ps.take k)) ps[k] := by
  unfold lens
  rw [List.take_succ_eq_append_getElem h, List.foldl_append]
  rfl

/-- A slice of parts in memory: its cells, three a part. -/
def OpAt (w : World) (a : Option Addr) (ps : List Part) : Prop :=
  ps = [] ∨ ∃ b off, a = some ⟨b, off, none⟩ ∧ b < w.heap.size ∧ ∀ i (h : i < ps.length),
    w.cell? ⟨b, off + i * 3, none⟩ = some (.int .i64 ps[i].kind) ∧ w.cell? ⟨b, off + i * 3 + 1, none⟩ = some (.int .i64 ps[i].n) ∧ w.cell? ⟨b, off + i * 3 + 2, none⟩ = some (.string ps[i].text)

end Go.Proofs.YtepehgjdepioeaaDoor
