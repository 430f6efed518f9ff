/-
  PLAIN LEAN: an operation as steps, one for each rune; what is known of an operation that may be.
-/
import Derived.Test.YtepehgjdepioeaaDoorPureCheck
import Derived.Test.YtepehgjdepioeaaDoorUtf
namespace Go.Proofs.YtepehgjdepioeaaDoor
open Go.RowKit

/-- a step: its kind, and the rune of an insert -/
abbrev Step := Int × Int

/-- a part's steps -/
def stepsOf (p : Part) : List Step := if p.kind = 2 then (runes p.text).map (fun r : Nat => ((2 : Int), (r : Int))) else List.replicate p.n.toNat (p.kind, 0)
def steps (ps : List Part) : List Step := ps.flatMap stepsOf

/-- the weight of a part: its runes -/
def weight (p : Part) : Nat := if p.kind = 2 then (runes p.text).length else p.n.toNat
theorem stepsOf_length (p : Part) : (stepsOf p).length = weight p := by
  unfold stepsOf weight
  split <;> simp

/-- the lengths, as numbers that do not wrap -/
def fromN : List Part → Nat
  | [] => 0
  | p :: r => (if p.kind = 2 then 0 else p.n.toNat) + fromN r
def toN : List Part → Nat
  | [] => 0
  | p :: r => (if p.kind = 3 then 0 else weight p) + toN r

/-- a part that may be by itself -/
structure Good (p : Part) : Prop where
  kind : p.kind = 1 ∨ p.kind = 2 ∨ p.kind = 3
  count : p.kind ≠ 2 → 1 ≤ p.n ∧ p.n ≤ 4000 ∧ p.text = ByteArray.empty
  text : p.kind = 2 → p.n = 0 ∧ Valid p.text ∧ (runes p.text).length ≤ 4000 ∧ p.text.size ≠ 0

theorem empty_of (s : ByteArray) (h : s.size = 0) : s = ByteArray.empty := by
  cases s with
  | mk d =>
    have : d = #[] := by apply Array.eq_empty_of_size_eq_zero; exact h
    subst this; rfl

theorem textErr_zero {s : ByteArray} (h : textErr s = 0) : Valid s ∧ (runes s).length ≤ 4000 := by
  unfold textErr at h
  unfold Valid
  cases hv : Lib.validD s.data.toList with
  | false => rw [hv] at h; simp at h
  | true =>
    rw [hv] at h
    simp at h
    exact ⟨rfl, by omega⟩
theorem textErr_ok {s : ByteArray} (h : Valid s) (hl : (runes s).length ≤ 4000) : textErr s = 0 := by
  unfold Valid at h
  unfold textErr
  rw [h]
  simp
  omega

theorem bodyErr_good {p : Part} (h : bodyErr p = 0) : Good p := by
  have hk := bodyErr_kind h
  unfold bodyErr at h
  by_cases h2 : p.kind = 2
  · rw [if_neg (by omega), if_pos h2] at h
    unfold insertErr at h
    by_cases he : textErr p.text = 0
    · rw [if_neg (by omega)] at h
      by_cases hz : p.text.size = 0 ∨ p.n ≠ 0
      · rw [if_pos hz] at h; omega
      · obtain ⟨v, l⟩ := textErr_zero he
        exact ⟨hk, fun h => absurd h2 h, fun _ => ⟨by omega, v, l, by omega⟩⟩
    · rw [if_pos he] at h; omega
  · rw [if_pos (by omega)] at h
    unfold countErr at h
    by_cases hn : p.n < 1 ∨ 4000 < p.n
    · rw [if_pos hn] at h; omega
    · rw [if_neg hn] at h
      by_cases ht : p.text.size ≠ 0
      · rw [if_pos ht] at h; omega
      · exact ⟨hk, fun _ => ⟨by omega, by omega, empty_of _ (by omega)⟩, fun h => absurd h h2⟩
theorem good_bodyErr {p : Part} (g : Good p) : bodyErr p = 0 := by
  unfold bodyErr
  by_cases h2 : p.kind = 2
  · obtain ⟨h1, h3, h4, h5⟩ := g.text h2
    rw [if_neg (by omega), if_pos h2]
    unfold insertErr
    rw [textErr_ok h3 h4]
    simp [h1, h5]
  · obtain ⟨h1, h3, h4⟩ := g.count h2
    have := g.kind
    rw [if_pos (by omega)]
    unfold countErr
    rw [if_neg (by omega), h4]
    simp

/-- neighbours that may be: no two of one kind, no insert behind a delete -/
def Fits (a b : Int) : Prop := a ≠ b ∧ ¬ (a = 3 ∧ b = 2)
/-- parts that may be, behind a part of this kind -/
def Chain : Int → List Part → Prop
  | _, [] => True
  | ah, p :: r => Good p ∧ Fits ah p.kind ∧ Chain p.kind r

theorem partsErr_chain : ∀ (ps : List Part) (ah : Int), partsErr ah ps = 0 ↔ Chain ah ps
  | [], _ => by simp [partsErr, Chain]
  | p :: r, ah => by
    have ih := partsErr_chain r p.kind
    unfold partsErr Chain
    unfold partErr
    by_cases hb : bodyErr p = 0
    · have g := bodyErr_good hb
      rw [if_neg (by omega : ¬ bodyErr p ≠ 0)]
      by_cases hf : ah = p.kind ∨ (ah = 3 ∧ p.kind = 2)
      · rw [if_pos hf]
        constructor
        · intro h; omega
        · rintro ⟨_, h, _⟩; unfold Fits at h; omega
      · rw [if_neg hf]
        simp only [ne_eq, not_true, if_false]
        rw [ih]
        constructor
        · intro h; exact ⟨g, by unfold Fits; omega, h⟩
        · rintro ⟨_, _, h⟩; exact h
    · rw [if_pos (by omega : bodyErr p ≠ 0)]
      rw [if_pos hb]
      constructor
      · intro h; exact absurd h hb
      · rintro ⟨h, _⟩; exact absurd (good_bodyErr h) hb

theorem Chain.good : ∀ {ps : List Part} {ah : Int}, Chain ah ps → ∀ p ∈ ps, Good p
  | [], _, _, _, hp => by cases hp
  | p :: r, ah, h, q, hq => by
    rcases List.mem_cons.1 hq with rfl | hq
    · exact h.1
    · exact Chain.good h.2.2 q hq

theorem wrap64_id {n : Int} (h0 : -9223372036854775808 ≤ n) (h1 : n ≤ 9223372036854775807) : wrap64 n = n := by
  unfold wrap64
  omega

/-- the machine's lengths are the true ones -/
theorem lens_good : ∀ (ps : List Part) (a b : Nat), (∀ p ∈ ps, Good p) → a + b + ps.length * 8000 ≤ 1000000000000 →
    ps.foldl stepLen ((a : Int), (b : Int)) = (((a + fromN ps : Nat) : Int), ((b + toN ps : Nat) : Int))
  | [], a, b, _, _ => by simp [fromN, toN]
  | p :: r, a, b, h, hl => by
    have g := h p List.mem_cons_self
    have hr : ∀ q ∈ r, Good q := fun q hq => h q (List.mem_cons_of_mem _ hq)
    rw [List.length_cons] at hl
    rw [List.foldl_cons]
    rcases g.kind with hk | hk | hk
    · obtain ⟨h1, h2, _⟩ := g.count (by omega)
      obtain ⟨n, hn⟩ : ∃ n : Nat, p.n = n := ⟨p.n.toNat, by omega⟩
      have e : stepLen ((a : Int), (b : Int)) p = (((a + n : Nat) : Int), ((b + n : Nat) : Int)) := by
        simp only [stepLen, hk, if_true]
        rw [hn, wrap64_id (by omega) (by omega), wrap64_id (by omega) (by omega)]
        simp
      rw [e, lens_good r _ _ hr (by omega)]
      simp only [fromN, toN, weight, hk, hn]
      simp
      omega
    · obtain ⟨_, _, h3, _⟩ := g.text hk
      have e : stepLen ((a : Int), (b : Int)) p = ((a : Int), ((b + (runes p.text).length : Nat) : Int)) := by
        unfold stepLen
        rw [if_neg (by omega), if_neg (by omega), if_pos hk]
        simp only
        rw [wrap64_id (by omega) (by omega)]
        simp
      rw [e, lens_good r _ _ hr (by omega)]
      simp only [fromN, toN, weight, hk]
      simp
      omega
    · obtain ⟨h1, h2, _⟩ := g.count (by omega)
      obtain ⟨n, hn⟩ : ∃ n : Nat, p.n = n := ⟨p.n.toNat, by omega⟩
      have e : stepLen ((a : Int), (b : Int)) p = (((a + n : Nat) : Int), (b : Int)) := by
        unfold stepLen
        rw [if_neg (by omega), if_pos hk]
        simp only
        rw [hn, wrap64_id (by omega) (by omega)]
        simp
      rw [e, lens_good r _ _ hr (by omega)]
      simp only [fromN, toN, weight, hk, hn]
      simp
      omega

/-- AN OPERATION THAT MAY BE. -/
structure OpOk (ps : List Part) : Prop where
  chain : Chain 0 ps
  many : ps.length ≤ 8001
  from_le : fromN ps ≤ 4000
  to_le : toN ps ≤ 4000

theorem opErr_zero {ps : List Part} (h : opErr ps = 0) : OpOk ps := by
  unfold opErr at h
  by_cases h8 : 8001 < ps.length
  · rw [if_pos h8] at h; omega
  · rw [if_neg h8] at h
    by_cases hp : partsErr 0 ps = 0
    · rw [if_neg (by omega : ¬ partsErr 0 ps ≠ 0)] at h
      have hc := (partsErr_chain ps 0).1 hp
      have hl := lens_good ps 0 0 hc.good (by omega)
      have hl' : lens ps = (((0 + fromN ps : Nat) : Int), ((0 + toN ps : Nat) : Int)) := hl
      rw [hl'] at h
      by_cases h4 : (4000 : Int) < ((0 + fromN ps : Nat) : Int) ∨ (4000 : Int) < ((0 + toN ps : Nat) : Int)
      · rw [if_pos h4] at h; omega
      · exact ⟨hc, by omega, by omega, by omega⟩
    · rw [if_pos hp] at h; exact absurd h hp
theorem OpOk.lens {ps : List Part} (h : OpOk ps) : lens ps = ((fromN ps : Int), (toN ps : Int)) := by
  have hl := lens_good ps 0 0 h.chain.good (by have := h.many; omega)
  have : YtepehgjdepioeaaDoor.lens ps = (((0 + fromN ps : Nat) : Int), ((0 + toN ps : Nat) : Int)) := hl
  rw [this]
  simp
theorem OpOk.err {ps : List Part} (h : OpOk ps) : opErr ps = 0 := by
  unfold opErr
  rw [if_neg (by have := h.many; omega), (partsErr_chain ps 0).2 h.chain, h.lens]
  have := h.from_le
  have := h.to_le
  simp
  omega

theorem steps_cons (p : Part) (r : List Part) : steps (p :: r) = stepsOf p ++ steps r := List.flatMap_cons
theorem steps_take (ps : List Part) (k : Nat) (h : k < ps.length) : steps (ps.take (k + 1)) = steps (ps.take k) ++ stepsOf ps[k] := by
  unfold steps
  rw [List.take_succ_eq_append_getElem h, List.flatMap_append]
  simp
theorem steps_length_le : ∀ (ps : List Part), (∀ p ∈ ps, Good p) → (steps ps).length ≤ fromN ps + toN ps
  | [], _ => by simp [steps, fromN, toN]
  | p :: r, h => by
    have ih := steps_length_le r fun q hq => h q (List.mem_cons_of_mem _ hq)
    have g := h p List.mem_cons_self
    rw [steps_cons, List.length_append, stepsOf_length]
    unfold fromN toN weight
    rcases g.kind with hk | hk | hk <;> simp [hk] <;> omega
theorem steps_take_le (ps : List Part) (k : Nat) : (steps (ps.take k)).length ≤ (steps ps).length := by
  have : steps ps = steps (ps.take k) ++ steps (ps.drop k) := by
    unfold steps
    rw [← List.flatMap_append, List.take_append_drop]
  rw [this, List.length_append]
  omega
theorem OpOk.steps_le {ps : List Part} (h : OpOk ps) : (steps ps).length ≤ 8000 := by
  have := steps_length_le ps h.chain.good
  have := h.from_le
  have := h.to_le
  omega

end Go.Proofs.YtepehgjdepioeaaDoor
