/-
  Tapes, purely: what stands on them, and what is read off them.
-/
import Derived.Test.YtbobeecagcmclaaDoorWireDec
import Derived.Test.YtbobeecagcmclaaDoorWireEnc
namespace Go.Proofs.YtbobeecagcmclaaDoor
open Go.RowKit Go.Lib

/-- a record's values -/
abbrev RecV := Nat × List Part
/-- a length of three bytes -/
def num3 (l : List Nat) : Nat := 65536 * l.getD 0 0 + 256 * l.getD 1 0 + l.getD 2 0
/-- P4.5: the first record of these bytes, and how many it has -/
def firstT (l : List Nat) : Option (RecV × Nat) :=
  if l.length < 3 then none else if l.length < 3 + num3 l then none else if recFault ((l.drop 3).take (num3 l)) ≠ 0 then none else some (recOf ((l.drop 3).take (num3 l)), 3 + num3 l)
theorem firstT_size {l : List Nat} {r : RecV} {k : Nat} (h : firstT l = some (r, k)) : 3 ≤ k ∧ k ≤ l.length := by
  unfold firstT at h
  split at h
  · cases h
  · split at h
    · cases h
    · split at h
      · cases h
      · simp only [Option.some.injEq, Prod.mk.injEq] at h
        omega
/-- P4.5: all of them, and how many bytes they have -/
def recAll (l : List Nat) : List RecV × Nat := match _h : firstT l with
  | none => ([], 0)
  | some x => (x.1 :: (recAll (l.drop x.2)).1, x.2 + (recAll (l.drop x.2)).2)
termination_by l.length
decreasing_by
  all_goals
    have := firstT_size (r := x.1) (k := x.2) _h
    rw [List.length_drop]
    omega
theorem recAll_none {l : List Nat} (h : firstT l = none) : recAll l = ([], 0) := by
  rw [recAll]
  split
  · rfl
  · rename_i x hx; rw [h] at hx; cases hx
theorem recAll_some {l : List Nat} {r : RecV} {k : Nat} (h : firstT l = some (r, k)) : recAll l = (r :: (recAll (l.drop k)).1, k + (recAll (l.drop k)).2) := by
  rw [recAll]
  split
  · rename_i hx; rw [h] at hx; cases hx
  · rename_i x hx; rw [h] at hx; cases hx; rfl
theorem recAll_le : ∀ (n : Nat) (l : List Nat), l.length = n → (recAll l).2 ≤ l.length := by
  intro n
  induction n using Nat.strongRecOn with
  | _ n ih =>
    intro l hl
    cases h : firstT l with
    | none => rw [recAll_none h]; exact Nat.zero_le _
    | some x =>
      obtain ⟨r, k⟩ := x
      rw [recAll_some h]
      have h1 := firstT_size h
      have h2 := ih (l.length - k) (by omega) (l.drop k) (by rw [List.length_drop])
      rw [List.length_drop] at h2
      simp only
      omega
theorem recAll_step {l : List Nat} {D : List RecV} {e : Nat} {r : RecV} {k : Nat} (h : firstT (l.drop e) = some (r, k)) (hI : recAll l = (D ++ (recAll (l.drop e)).1, e + (recAll (l.drop e)).2)) :
    recAll l = ((D ++ [r]) ++ (recAll (l.drop (e + k))).1, (e + k) + (recAll (l.drop (e + k))).2) := by
  rw [hI, recAll_some h, List.drop_drop, List.append_assoc, Nat.add_assoc]
  rfl
theorem recAll_end {l : List Nat} {D : List RecV} {e : Nat} (h : firstT (l.drop e) = none) (hI : recAll l = (D ++ (recAll (l.drop e)).1, e + (recAll (l.drop e)).2)) : recAll l = (D, e) := by
  rw [hI, recAll_none h, List.append_nil]
  rfl

/-- P4.2: a record on the tape -/
def head3 (n : Nat) : List Nat := [n / 65536, n / 256 % 256, n % 256]
def recT (r : RecV) : List Nat := head3 (recW r.1 r.2).length ++ recW r.1 r.2
def tapeT (rs : List RecV) : List Nat := rs.flatMap recT
theorem recT_length (r : RecV) : (recT r).length = 3 + (recW r.1 r.2).length := by unfold recT head3; simp; omega
theorem tapeT_append (a b : List RecV) : tapeT (a ++ b) = tapeT a ++ tapeT b := by unfold tapeT; rw [List.flatMap_append]
theorem tapeT_one (r : RecV) : tapeT [r] = recT r := by unfold tapeT; simp
theorem tapeT_cons (r : RecV) (rs : List RecV) : tapeT (r :: rs) = recT r ++ tapeT rs := by unfold tapeT; simp
theorem num3_head (n : Nat) (t : List Nat) : num3 (head3 n ++ t) = n := by
  unfold num3 head3
  simp
  omega
theorem firstT_torn {r : RecV} {k : Nat} (hk : k < (recT r).length) : firstT ((recT r).take k) = none := by
  have hl := recT_length r
  have hlk : ((recT r).take k).length = k := by rw [List.length_take]; omega
  unfold firstT
  by_cases h3 : k < 3
  · rw [if_pos (by omega)]
  · rw [if_neg (by omega)]
    have hn : num3 ((recT r).take k) = (recW r.1 r.2).length := by
      have e : (recT r).take k = head3 (recW r.1 r.2).length ++ (recW r.1 r.2).take (k - 3) := by
        unfold recT
        rw [List.take_append, List.take_of_length_le (by simp [head3]; omega)]
        simp [head3]
      rw [e, num3_head]
    rw [hn, if_pos (by omega)]
theorem tapeT_take_mono (rs : List RecV) {i j : Nat} (h : i ≤ j) : (tapeT (rs.take i)).length ≤ (tapeT (rs.take j)).length := by
  have e : rs.take j = rs.take i ++ (rs.take j).drop i := by
    have h1 := List.take_append_drop i (rs.take j)
    rw [List.take_take, Nat.min_eq_left h] at h1
    exact h1.symm
  rw [e, tapeT_append, List.length_append]
  omega

end Go.Proofs.YtbobeecagcmclaaDoor
