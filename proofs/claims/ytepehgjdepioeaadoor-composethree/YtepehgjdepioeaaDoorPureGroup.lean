/-
  PLAIN LEAN: a pen, step by step; what it writes of steps.
-/
import Derived.Test.YtepehgjdepioeaaDoorPureSteps
namespace Go.Proofs.YtepehgjdepioeaaDoor
open Go.RowKit

/-- what a pen holds: the parts that are done, and what waits: bytes to insert, runes to delete -/
structure PenS where
  done : List Part
  ins : ByteArray
  del : Nat
/-- what is written of what waits -/
def waitIns (P : PenS) : List Part := if P.ins.size = 0 then [] else [⟨2, 0, P.ins⟩]
def waitDel (P : PenS) : List Part := if P.del = 0 then [] else [⟨3, (P.del : Int), ByteArray.empty⟩]
/-- all that a pen holds, written -/
def PenS.all (P : PenS) : List Part := P.done ++ waitIns P ++ waitDel P
/-- a Keep behind parts: it grows together with a Keep -/
def addKeep (D : List Part) (n : Nat) : List Part :=
  match D.getLast? with
  | some p => if p.kind = 1 then D.dropLast ++ [⟨1, p.n + n, p.text⟩] else D ++ [⟨1, n, ByteArray.empty⟩]
  | none => [⟨1, n, ByteArray.empty⟩]
theorem addKeep_nil (n : Nat) : addKeep [] n = [⟨1, n, ByteArray.empty⟩] := rfl
theorem addKeep_grow (D : List Part) (p : Part) (n : Nat) (h : p.kind = 1) : addKeep (D ++ [p]) n = D ++ [⟨1, p.n + n, p.text⟩] := by simp [addKeep, h]
theorem addKeep_new (D : List Part) (p : Part) (n : Nat) (h : p.kind ≠ 1) : addKeep (D ++ [p]) n = D ++ [p] ++ [⟨1, n, ByteArray.empty⟩] := by simp [addKeep, h]

def PenS.keep (P : PenS) (n : Nat) : PenS := ⟨addKeep P.all n, ByteArray.empty, 0⟩
def PenS.insert (P : PenS) (s : ByteArray) : PenS := ⟨P.done, P.ins ++ s, P.del⟩
def PenS.remove (P : PenS) (n : Nat) : PenS := ⟨P.done, P.ins, P.del + n⟩
def PenS.new : PenS := ⟨[], ByteArray.empty, 0⟩

/-- one step written -/
def penStep (P : PenS) (s : Step) : PenS := if s.1 = 2 then P.insert (str [s.2.toNat]) else if s.1 = 3 then P.remove 1 else P.keep 1
/-- a pen that has written these steps -/
def penOf (l : List Step) : PenS := l.foldl penStep PenS.new
/-- P1.4: steps as an operation -/
def group (l : List Step) : List Part := (penOf l).all

theorem penOf_append (a b : List Step) : penOf (a ++ b) = b.foldl penStep (penOf a) := by simp [penOf, List.foldl_append]
theorem penOf_nil : penOf [] = PenS.new := rfl

theorem all_keep (D : List Part) : PenS.all ⟨D, ByteArray.empty, 0⟩ = D := by simp [PenS.all, waitIns, waitDel]

theorem addKeep_add (D : List Part) (m n : Nat) : addKeep (addKeep D m) n = addKeep D (m + n) := by
  rcases List.eq_nil_or_concat D with rfl | ⟨D0, p, rfl⟩
  · rw [addKeep_nil, addKeep_nil, show ([⟨1, (m : Int), ByteArray.empty⟩] : List Part) = [] ++ [⟨1, (m : Int), ByteArray.empty⟩] from rfl, addKeep_grow _ _ _ rfl]
    simp
  · rw [List.concat_eq_append]
    by_cases h : p.kind = 1
    · rw [addKeep_grow _ _ _ h, addKeep_grow _ _ _ rfl, addKeep_grow _ _ _ h]
      simp [Int.add_assoc]
    · rw [addKeep_new _ _ _ h, addKeep_grow _ _ _ rfl, addKeep_new _ _ _ h]
      simp
theorem keep_add (P : PenS) (m n : Nat) : (P.keep m).keep n = P.keep (m + n) := by
  unfold PenS.keep
  rw [all_keep, addKeep_add]

theorem pen_keeps : ∀ (n : Nat) (P : PenS), 1 ≤ n → (List.replicate n ((1 : Int), (0 : Int))).foldl penStep P = P.keep n
  | 0, _, h => by omega
  | 1, P, _ => by simp [penStep]
  | n + 2, P, _ => by
    rw [List.replicate_succ, List.foldl_cons]
    have e : penStep P (1, 0) = P.keep 1 := by simp [penStep]
    rw [e, pen_keeps (n + 1) _ (by omega), keep_add]
    congr 1; omega
theorem pen_removes : ∀ (n : Nat) (P : PenS), (List.replicate n ((3 : Int), (0 : Int))).foldl penStep P = P.remove n
  | 0, P => by simp [PenS.remove]
  | n + 1, P => by
    rw [List.replicate_succ, List.foldl_cons]
    have e : penStep P (3, 0) = P.remove 1 := by simp [penStep]
    rw [e, pen_removes n]
    simp only [PenS.remove]
    congr 1; omega
theorem pen_inserts (rs : List Nat) : ∀ (P : PenS), (rs.map (fun r : Nat => ((2 : Int), (r : Int)))).foldl penStep P = P.insert (str rs) := by
  induction rs with
  | nil => intro P; simp [PenS.insert, str_nil]
  | cons r rs ih =>
    intro P
    rw [List.map_cons, List.foldl_cons]
    have e : penStep P (2, (r : Int)) = P.insert (str [r]) := by simp [penStep]
    rw [e, ih]
    simp only [PenS.insert]
    rw [ByteArray.append_assoc, ← str_append]
    rfl

theorem penOf_keeps (l : List Step) (n : Nat) (h : 1 ≤ n) : penOf (l ++ List.replicate n ((1 : Int), (0 : Int))) = (penOf l).keep n := by rw [penOf_append, pen_keeps n _ h]
theorem penOf_removes (l : List Step) (n : Nat) : penOf (l ++ List.replicate n ((3 : Int), (0 : Int))) = (penOf l).remove n := by rw [penOf_append, pen_removes]
theorem penOf_inserts (l : List Step) (rs : List Nat) : penOf (l ++ rs.map (fun r : Nat => ((2 : Int), (r : Int)))) = (penOf l).insert (str rs) := by rw [penOf_append, pen_inserts]

/-- how much a pen holds -/
structure PenOk (m : Nat) (P : PenS) : Prop where
  done : P.done.length ≤ m
  wait : P.done.length + (if P.ins.size = 0 then 0 else 1) + (if P.del = 0 then 0 else 1) ≤ m
  ins : P.ins.size ≤ 4 * m
  del : P.del ≤ m
  kept : ∀ p ∈ P.done, p.kind = 1 → 0 ≤ p.n ∧ p.n ≤ m
theorem waits_kind (P : PenS) : ∀ p ∈ waitIns P ++ waitDel P, p.kind ≠ 1 := by
  intro p hp
  rcases List.mem_append.1 hp with h | h
  · unfold waitIns at h; split at h
    · cases h
    · simp at h; subst h; simp
  · unfold waitDel at h; split at h
    · cases h
    · simp at h; subst h; simp
theorem PenOk.all {m : Nat} {P : PenS} (h : PenOk m P) : P.all.length ≤ m ∧ ∀ p ∈ P.all, p.kind = 1 → 0 ≤ p.n ∧ p.n ≤ m := by
  refine ⟨?_, ?_⟩
  · have := h.wait
    unfold PenS.all waitIns waitDel
    simp only [List.length_append]
    by_cases h1 : P.ins.size = 0 <;> by_cases h2 : P.del = 0 <;> simp [h1, h2] at this ⊢ <;> omega
  · intro p hp hk
    unfold PenS.all at hp
    rw [List.append_assoc] at hp
    rcases List.mem_append.1 hp with h1 | h1
    · exact h.kept p h1 hk
    · exact absurd hk (waits_kind P p h1)
theorem str_one_size (r : Nat) : (str [r]).size ≤ 4 := by rw [str_one]; exact encode_size_le _
theorem addKeep_bound {m n : Nat} {D : List Part} (hl : D.length ≤ m) (hk : ∀ p ∈ D, p.kind = 1 → 0 ≤ p.n ∧ p.n ≤ m) : (addKeep D n).length ≤ m + 1 ∧ ∀ p ∈ addKeep D n, p.kind = 1 → 0 ≤ p.n ∧ p.n ≤ ((m + n : Nat) : Int) := by
  rcases List.eq_nil_or_concat D with rfl | ⟨D0, p, rfl⟩
  · rw [addKeep_nil]
    refine ⟨by simp, fun q hq _ => ?_⟩
    simp at hq
    subst hq
    simp only
    omega
  · rw [List.concat_eq_append] at *
    by_cases h : p.kind = 1
    · rw [addKeep_grow _ _ _ h]
      refine ⟨by simp at hl ⊢; omega, fun q hq hq1 => ?_⟩
      rcases List.mem_append.1 hq with h1 | h1
      · have := hk q (List.mem_append_left _ h1) hq1; omega
      · have := hk p (by simp) h
        simp at h1
        subst h1
        simp only
        omega
    · rw [addKeep_new _ _ _ h]
      refine ⟨by simp at hl ⊢; omega, fun q hq hq1 => ?_⟩
      rcases List.mem_append.1 hq with h1 | h1
      · have := hk q h1 hq1; omega
      · simp at h1
        subst h1
        simp only
        omega
theorem penStep_ok {m : Nat} {P : PenS} (h : PenOk m P) (s : Step) : PenOk (m + 1) (penStep P s) := by
  have h1 := h.done
  have h2 := h.wait
  have h3 := h.ins
  have h4 := h.del
  have h5 := h.kept
  unfold penStep
  split
  · have hs := str_one_size s.2.toNat
    refine ⟨?_, ?_, ?_, ?_, ?_⟩
    · show P.done.length ≤ m + 1; omega
    · show P.done.length + (if (P.ins ++ str [s.2.toNat]).size = 0 then 0 else 1) + (if P.del = 0 then 0 else 1) ≤ m + 1
      split <;> split at h2 <;> omega
    · show (P.ins ++ str [s.2.toNat]).size ≤ 4 * (m + 1)
      rw [ByteArray.size_append]; omega
    · show P.del ≤ m + 1; omega
    · intro p hp hk; have := h5 p hp hk; omega
  · split
    · refine ⟨?_, ?_, ?_, ?_, ?_⟩
      · show P.done.length ≤ m + 1; omega
      · show P.done.length + (if P.ins.size = 0 then 0 else 1) + (if P.del + 1 = 0 then 0 else 1) ≤ m + 1
        rw [if_neg (by omega : ¬ P.del + 1 = 0)]
        split at h2 <;> split at h2 <;> simp_all <;> omega
      · show P.ins.size ≤ 4 * (m + 1); omega
      · show P.del + 1 ≤ m + 1; omega
      · intro p hp hk; have := h5 p hp hk; omega
    · obtain ⟨a1, a2⟩ := h.all
      obtain ⟨b1, b2⟩ := addKeep_bound (n := 1) a1 a2
      exact ⟨b1, by simpa [PenS.keep] using b1, by simp [PenS.keep], by simp [PenS.keep], b2⟩
theorem penOf_ok (l : List Step) : PenOk l.length (penOf l) := by
  have key : ∀ (l : List Step) (m : Nat) (P : PenS), PenOk m P → PenOk (m + l.length) (l.foldl penStep P) := by
    intro l
    induction l with
    | nil => intro m P h; exact h
    | cons s l ih =>
      intro m P h
      rw [List.foldl_cons, List.length_cons, show m + (l.length + 1) = m + 1 + l.length by omega]
      exact ih (m + 1) _ (penStep_ok h s)
  have := key l 0 PenS.new ⟨by simp [PenS.new], by simp [PenS.new], by simp [PenS.new], by simp [PenS.new], by simp [PenS.new]⟩
  rwa [Nat.zero_add] at this

end Go.Proofs.YtepehgjdepioeaaDoor
