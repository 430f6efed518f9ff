/-
  Tapes, purely: the records that stand whole.
-/
import Derived.Test.YtknjnfknalfbdaaDoorRecBack
import Derived.Test.YtknjnfknalfbdaaDoorTapeDef
namespace Go.Proofs.YtknjnfknalfbdaaDoor
open Go.RowKit Go.Lib

theorem recT_small {r : RecV} (h : (recW r.1 r.2).length < 16777216) : ∀ x ∈ recT r, x < 256 := by
  intro x hx
  unfold recT head3 at hx
  rcases List.mem_append.1 hx with hx | hx
  · simp at hx; omega
  · exact recW_small _ _ x hx
theorem firstT_back {r : RecV} (h : RecOk r.1 r.2) (t : List Nat) : firstT (recT r ++ t) = some (r, (recT r).length) := by
  have hl := recT_length r
  have hn : num3 (recT r ++ t) = (recW r.1 r.2).length := by unfold recT; rw [List.append_assoc, num3_head]
  have hd : ((recT r ++ t).drop 3).take (recW r.1 r.2).length = recW r.1 r.2 := by
    unfold recT head3
    simp
  have hb := recFault_back h
  unfold firstT
  rw [if_neg (by rw [List.length_append]; omega), hn, if_neg (by rw [List.length_append]; omega), hd, hb.1, hb.2, if_neg (by simp), hl]
theorem recAll_tape : ∀ (rs : List RecV) (t : List Nat), (∀ r ∈ rs, RecOk r.1 r.2) → recAll (tapeT rs ++ t) = (rs ++ (recAll t).1, (tapeT rs).length + (recAll t).2)
  | [], t, _ => by simp [tapeT]
  | r :: rs, t, h => by
    have h1 := firstT_back (h r (List.mem_cons_self ..)) (tapeT rs ++ t)
    have ih := recAll_tape rs t (fun x hx => h x (List.mem_cons_of_mem _ hx))
    rw [tapeT_cons, List.append_assoc, recAll_some h1, List.drop_left, ih, List.length_append, Nat.add_assoc]
    rfl
theorem recAll_cut : ∀ (rs : List RecV) (k : Nat), (∀ r ∈ rs, RecOk r.1 r.2) → k ≤ (tapeT rs).length → ∃ j, j ≤ rs.length ∧ recAll ((tapeT rs).take k) = (rs.take j, (tapeT (rs.take j)).length) ∧ (tapeT (rs.take j)).length ≤ k ∧ (j = rs.length ∨ k < (tapeT (rs.take (j + 1))).length)
  | [], k, _, hk => ⟨0, Nat.le_refl _, by
      have : k = 0 := by simpa [tapeT] using hk
      subst this
      have hn : firstT ((tapeT []).take 0) = none := by unfold firstT tapeT; simp
      rw [recAll_none hn]; rfl, by simp [tapeT], .inl rfl⟩
  | r :: rs, k, h, hk => by
    have hr := h r (List.mem_cons_self ..)
    by_cases hlt : k < (recT r).length
    · refine ⟨0, Nat.zero_le _, ?_, by simp [tapeT], .inr ?_⟩
      · have e : (tapeT (r :: rs)).take k = (recT r).take k := by rw [tapeT_cons, List.take_append_of_le_length (by omega)]
        rw [e, recAll_none (firstT_torn hlt)]
        rfl
      · rw [show (r :: rs).take (0 + 1) = [r] from rfl, tapeT_one]; exact hlt
    · rw [tapeT_cons, List.length_append] at hk
      obtain ⟨j, h1, h2, h3, h4⟩ := recAll_cut rs (k - (recT r).length) (fun x hx => h x (List.mem_cons_of_mem _ hx)) (by omega)
      have e : (tapeT (r :: rs)).take k = recT r ++ (tapeT rs).take (k - (recT r).length) := by
        rw [tapeT_cons, List.take_append, List.take_of_length_le (by omega)]
      refine ⟨j + 1, by simp; omega, ?_, ?_, ?_⟩
      · rw [e, recAll_some (firstT_back hr _), List.drop_left, h2, List.take_succ_cons, tapeT_cons, List.length_append]
      · rw [List.take_succ_cons, tapeT_cons, List.length_append]; omega
      · rcases h4 with h4 | h4
        · left; simp; omega
        · right; rw [List.take_succ_cons, tapeT_cons, List.length_append]; omega
theorem tapeT_small {rs : List RecV} (h : ∀ r ∈ rs, RecOk r.1 r.2) : ∀ x ∈ tapeT rs, x < 256 := by
  intro x hx
  obtain ⟨r, hr, hx⟩ := List.mem_flatMap.1 hx
  exact recT_small (by have := (h r hr).many; omega) x hx
theorem recAll_full {rs : List RecV} (h : ∀ r ∈ rs, RecOk r.1 r.2) : recAll (tapeT rs) = (rs, (tapeT rs).length) := by
  have h1 := recAll_tape rs [] h
  have h2 : recAll [] = ([], 0) := recAll_none (by unfold firstT; simp)
  rw [h2, List.append_nil, List.append_nil] at h1
  exact h1
theorem tapeT_pre (R : List RecV) (j : Nat) : (tapeT R).take (tapeT (R.take j)).length = tapeT (R.take j) := by
  have e : tapeT R = tapeT (R.take j) ++ tapeT (R.drop j) := by rw [← tapeT_append, List.take_append_drop]
  rw [e, List.take_left]
theorem recAll_torn {R : List RecV} {k : Nat} (h : ∀ r ∈ R, RecOk r.1 r.2) (hk : k ≤ (tapeT R).length) : ∃ j, j ≤ R.length ∧ recAll ((tapeT R).take k) = (R.take j, (tapeT (R.take j)).length) ∧ ((tapeT R).take k).take (tapeT (R.take j)).length = tapeT (R.take j) ∧ (tapeT (R.take j)).length ≤ k ∧ (j = R.length ↔ k = (tapeT R).length) ∧ ∀ i, i ≤ R.length → (tapeT (R.take i)).length ≤ k → i ≤ j := by
  obtain ⟨j, h1, h2, h3, h4⟩ := recAll_cut R k h hk
  refine ⟨j, h1, h2, ?_, h3, ⟨fun e => ?_, fun e => ?_⟩, fun i hi hik => ?_⟩
  · rw [List.take_take, Nat.min_eq_left h3, tapeT_pre]
  · rw [e, List.take_length] at h3; omega
  · rcases h4 with h4 | h4
    · exact h4
    · have := tapeT_take_mono R (show j + 1 ≤ max (j + 1) R.length by omega)
      rw [List.take_of_length_le (i := max (j + 1) R.length) (by omega)] at this
      omega
  · rcases h4 with h4 | h4
    · omega
    · apply Nat.le_of_not_lt
      intro hlt
      have := tapeT_take_mono R (show j + 1 ≤ i by omega)
      omega

end Go.Proofs.YtknjnfknalfbdaaDoor
