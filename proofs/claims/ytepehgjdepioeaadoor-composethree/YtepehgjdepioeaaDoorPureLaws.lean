/-
  PLAIN LEAN: TWO WAYS MEET, two in one do what both do, what is inverted brings the text back; on steps.
-/
import Derived.Test.YtepehgjdepioeaaDoorPureSim
namespace Go.Proofs.YtepehgjdepioeaaDoor
open Go.RowKit

theorem nil_of_oldN {l : List Step} (h : oldN l = 0) (s : Step) (r : List Step) (e : l = s :: r) : s.1 = 2 := by
  subst e
  simp only [oldN] at h
  by_cases h2 : s.1 = 2
  · exact h2
  · rw [if_neg h2] at h; omega

/-- TWO WAYS MEET. -/
theorem xf_apply (p q : List Step) : ∀ rs : List Nat, StepsOk p → StepsOk q → oldN p = rs.length → oldN q = rs.length →
    applyS (applyS rs p) (xf p q).2 = applyS (applyS rs q) (xf p q).1 := by
  fun_induction xf p q with
  | case1 => intro rs _ _ _ _; simp [applyS]
  | case2 x p h ih =>
    intro rs hp hq h1 h2
    have h1' : oldN p = rs.length := by simpa [oldN, h] using h1
    have := ih rs hp.tail hq h1' h2
    simp only [applyS, h] at this ⊢
    simpa using this
  | case3 x p h =>
    intro rs _ _ h1 h2
    simp only [oldN, if_neg h] at h1 h2; omega
  | case4 y q h ih =>
    intro rs hp hq h1 h2
    have h2' : oldN q = rs.length := by simpa [oldN, h] using h2
    have := ih rs hp hq.tail h1 h2'
    simp only [applyS, h] at this ⊢
    simpa using this
  | case5 y q h =>
    intro rs _ _ h1 h2
    simp only [oldN, if_neg h] at h1 h2; omega
  | case6 x p y q h ih =>
    intro rs hp hq h1 h2
    have h1' : oldN p = rs.length := by simpa [oldN, h] using h1
    have := ih rs hp.tail hq h1' h2
    generalize applyS rs (y :: q) = Y at *
    simp only [applyS, h]
    simpa using this
  | case7 x p y q h h' ih =>
    intro rs hp hq h1 h2
    have h2' : oldN q = rs.length := by simpa [oldN, h'] using h2
    have := ih rs hp hq.tail h1 h2'
    generalize applyS rs (x :: p) = X at *
    simp only [applyS, h']
    simpa using this
  | case8 x p y q h h' ih =>
    intro rs hp hq h1 h2
    cases rs with
    | nil => simp only [oldN, if_neg h, List.length_nil] at h1; omega
    | cons r rs =>
      have h1' : oldN p = rs.length := by simp only [oldN, if_neg h, List.length_cons] at h1; omega
      have h2' : oldN q = rs.length := by simp only [oldN, if_neg h', List.length_cons] at h2; omega
      have := ih rs hp.tail hq.tail h1' h2'
      rcases hp.head with rfl | rfl | ⟨_, _, rfl⟩
      · rcases hq.head with rfl | rfl | ⟨_, _, rfl⟩
        · simp [applyS, this]
        · simp [applyS, this]
        · simp at h'
      · rcases hq.head with rfl | rfl | ⟨_, _, rfl⟩
        · simp [applyS, this]
        · simp [applyS, this]
        · simp at h'
      · simp at h
theorem xf_ok (p q : List Step) (hp : StepsOk p) (hq : StepsOk q) : StepsOk (xf p q).1 ∧ StepsOk (xf p q).2 := by
  fun_induction xf p q with
  | case1 => exact ⟨.nil, .nil⟩
  | case2 x p h ih => exact ⟨.cons hp.head (ih hp.tail hq).1, .cons .keep (ih hp.tail hq).2⟩
  | case3 x p h => exact ⟨.nil, .nil⟩
  | case4 y q h ih => exact ⟨.cons .keep (ih hp hq.tail).1, .cons hq.head (ih hp hq.tail).2⟩
  | case5 y q h => exact ⟨.nil, .nil⟩
  | case6 x p y q h ih => exact ⟨.cons hp.head (ih hp.tail hq).1, .cons .keep (ih hp.tail hq).2⟩
  | case7 x p y q h h' ih => exact ⟨.cons .keep (ih hp hq.tail).1, .cons hq.head (ih hp hq.tail).2⟩
  | case8 x p y q h h' ih =>
    have i := ih hp.tail hq.tail
    refine ⟨?_, ?_⟩
    · show StepsOk ((if y.1 = 1 then [x] else []) ++ (xf p q).1)
      split
      · exact .cons hp.head i.1
      · exact i.1
    · show StepsOk ((if x.1 = 1 then [y] else []) ++ (xf p q).2)
      split
      · exact .cons hq.head i.2
      · exact i.2
theorem xf_counts (p q : List Step) (hp : StepsOk p) (hq : StepsOk q) (h : oldN p = oldN q) : oldN (xf p q).1 = newN q ∧ oldN (xf p q).2 = newN p ∧ newN (xf p q).1 = newN (xf p q).2 := by
  fun_induction xf p q with
  | case1 => simp [oldN, newN]
  | case2 x p hx ih =>
    have := ih hp.tail hq (by simpa [oldN, hx] using h)
    simp only [oldN, newN, hx] at this ⊢
    simp
    omega
  | case3 x p hx => simp only [oldN, if_neg hx] at h; omega
  | case4 y q hy ih =>
    have := ih hp hq.tail (by simpa [oldN, hy] using h)
    simp only [oldN, newN, hy] at this ⊢
    simp
    omega
  | case5 y q hy => simp only [oldN, if_neg hy] at h; omega
  | case6 x p y q hx ih =>
    have := ih hp.tail hq (by simpa [oldN, hx] using h)
    generalize newN (y :: q) = Y at *
    simp only [oldN, newN, hx] at this ⊢
    simp
    omega
  | case7 x p y q hx hy ih =>
    have := ih hp hq.tail (by simpa [oldN, hy] using h)
    generalize newN (x :: p) = X at *
    simp only [oldN, newN, hy] at this ⊢
    simp
    omega
  | case8 x p y q hx hy ih =>
    have := ih hp.tail hq.tail (by simp only [oldN, if_neg hx, if_neg hy] at h; omega)
    rcases hp.head with rfl | rfl | ⟨_, _, rfl⟩
    · rcases hq.head with rfl | rfl | ⟨_, _, rfl⟩
      · simp [oldN, newN]; omega
      · simp [oldN, newN]; omega
      · simp at hy
    · rcases hq.head with rfl | rfl | ⟨_, _, rfl⟩
      · simp [oldN, newN]; omega
      · simp [newN]; omega
      · simp at hy
    · simp at hx

/-- TWO IN ONE DO WHAT BOTH DO. -/
theorem cf_apply (p q : List Step) : ∀ rs : List Nat, StepsOk p → StepsOk q → oldN p = rs.length → newN p = oldN q → applyS rs (cf p q) = applyS (applyS rs p) q := by
  fun_induction cf p q with
  | case1 => intro rs _ _ _ _; simp [applyS]
  | case2 x p h ih =>
    intro rs hp hq h1 h2
    cases rs with
    | nil => simp only [oldN, List.length_nil] at h1; rw [if_neg (by omega)] at h1; omega
    | cons r rs =>
      have h1' : oldN p = rs.length := by simp only [oldN, List.length_cons] at h1; rw [if_neg (by omega)] at h1; omega
      have := ih rs hp.tail hq h1' (by simpa [newN, h] using h2)
      simp only [applyS, h] at this ⊢
      simpa using this
  | case3 x p h =>
    intro rs hp _ _ h2
    simp only [newN, oldN, if_neg h] at h2; omega
  | case4 y q h ih =>
    intro rs hp hq h1 h2
    have := ih rs hp hq.tail h1 (by simpa [oldN, h] using h2)
    simp only [applyS, h] at this ⊢
    simpa using this
  | case5 y q h =>
    intro rs hp _ _ h2
    simp only [newN, oldN, if_neg h] at h2; omega
  | case6 x p y q h ih =>
    intro rs hp hq h1 h2
    cases rs with
    | nil => simp only [oldN, List.length_nil] at h1; rw [if_neg (by omega)] at h1; omega
    | cons r rs =>
      have h1' : oldN p = rs.length := by simp only [oldN, List.length_cons] at h1; rw [if_neg (by omega)] at h1; omega
      have := ih rs hp.tail hq h1' (by simpa [newN, h] using h2)
      have e : applyS (r :: rs) (x :: p) = applyS rs p := by simp [applyS, h]
      have e2 : ∀ l, applyS (r :: rs) (x :: l) = applyS rs l := by intro l; simp [applyS, h]
      rw [e, e2, this]
  | case7 x p y q h h' ih =>
    intro rs hp hq h1 h2
    have := ih rs hp hq.tail h1 (by simpa [oldN, h'] using h2)
    generalize applyS rs (x :: p) = X at *
    simp only [applyS, h'] at this ⊢
    simpa using this
  | case8 x p y q h h' ih =>
    intro rs hp hq h1 h2
    rcases hp.head with rfl | rfl | ⟨r, _, rfl⟩
    · cases rs with
      | nil => simp [oldN] at h1
      | cons r rs =>
        have h1' : oldN p = rs.length := by simp [oldN] at h1; omega
        have := ih rs hp.tail hq.tail h1' (by simp only [oldN, newN, if_neg h'] at h2; simp at h2; omega)
        rcases hq.head with rfl | rfl | ⟨_, _, rfl⟩
        · simp [applyS, this]
        · simp [applyS, this]
        · simp at h'
    · simp at h
    · have := ih rs hp.tail hq.tail (by simpa [oldN] using h1) (by simp only [oldN, newN, if_neg h'] at h2; simp at h2; omega)
      rcases hq.head with rfl | rfl | ⟨_, _, rfl⟩
      · simp [applyS, this]
      · simp [applyS, this]
      · simp at h'
theorem cf_ok (p q : List Step) (hp : StepsOk p) (hq : StepsOk q) : StepsOk (cf p q) := by
  fun_induction cf p q with
  | case1 => exact .nil
  | case2 x p h ih => exact .cons hp.head (ih hp.tail hq)
  | case3 x p h => exact .nil
  | case4 y q h ih => exact .cons hq.head (ih hp hq.tail)
  | case5 y q h => exact .nil
  | case6 x p y q h ih => exact .cons hp.head (ih hp.tail hq)
  | case7 x p y q h h' ih => exact .cons hq.head (ih hp hq.tail)
  | case8 x p y q h h' ih =>
    have i := ih hp.tail hq.tail
    split
    · exact .cons hp.head i
    · split
      · exact .cons hq.head i
      · exact i
theorem cf_counts (p q : List Step) (hp : StepsOk p) (hq : StepsOk q) (h : newN p = oldN q) : oldN (cf p q) = oldN p ∧ newN (cf p q) = newN q := by
  fun_induction cf p q with
  | case1 => simp [oldN, newN]
  | case2 x p hx ih =>
    have := ih hp.tail hq (by simpa [newN, hx] using h)
    simp only [oldN, newN, hx] at this ⊢
    simp
    omega
  | case3 x p hx => simp only [newN, oldN, if_neg hx] at h; omega
  | case4 y q hy ih =>
    have := ih hp hq.tail (by simpa [oldN, hy] using h)
    simp only [oldN, newN, hy] at this ⊢
    simp
    omega
  | case5 y q hy => simp only [oldN, newN, if_neg hy] at h; omega
  | case6 x p y q hx ih =>
    have := ih hp.tail hq (by simpa [newN, hx] using h)
    generalize newN (y :: q) = Y at *
    simp only [oldN, newN, hx] at this ⊢
    simp
    omega
  | case7 x p y q hx hy ih =>
    have := ih hp hq.tail (by simpa [oldN, hy] using h)
    generalize oldN (x :: p) = X at *
    simp only [oldN, newN, hy] at this ⊢
    simp
    omega
  | case8 x p y q hx hy ih =>
    have := ih hp.tail hq.tail (by simp only [oldN, newN, if_neg hx, if_neg hy] at h; omega)
    rcases hp.head with rfl | rfl | ⟨_, _, rfl⟩
    · rcases hq.head with rfl | rfl | ⟨_, _, rfl⟩
      · simp [oldN, newN]; omega
      · simp [oldN, newN]; omega
      · simp at hy
    · simp at hx
    · rcases hq.head with rfl | rfl | ⟨_, _, rfl⟩
      · simp [oldN, newN]; omega
      · simp [oldN, newN]; omega
      · simp at hy

/-- WHAT IS INVERTED BRINGS THE TEXT BACK, and inverted again it is the same. -/
theorem inv_apply (p : List Step) : ∀ rs : List Nat, StepsOk p → oldN p = rs.length → applyS (applyS rs p) (invS rs p) = rs ∧ invS (applyS rs p) (invS rs p) = p := by
  induction p with
  | nil =>
    intro rs _ h
    cases rs with
    | nil => simp [applyS, invS]
    | cons r rs => simp [oldN] at h
  | cons s p ih =>
    intro rs hp h
    rcases hp.head with rfl | rfl | ⟨r, _, rfl⟩
    · cases rs with
      | nil => simp [oldN] at h
      | cons r rs =>
        obtain ⟨i1, i2⟩ := ih rs hp.tail (by simp [oldN] at h; omega)
        simp [applyS, invS, i1, i2]
    · cases rs with
      | nil => simp [oldN] at h
      | cons r rs =>
        obtain ⟨i1, i2⟩ := ih rs hp.tail (by simp [oldN] at h; omega)
        simp [applyS, invS, i1, i2]
    · obtain ⟨i1, i2⟩ := ih rs hp.tail (by simpa [oldN] using h)
      simp [applyS, invS, i1, i2]
theorem inv_ok (p : List Step) : ∀ rs : List Nat, StepsOk p → (∀ r ∈ rs, CP r) → oldN p = rs.length → StepsOk (invS rs p) ∧ oldN (invS rs p) = newN p ∧ newN (invS rs p) = oldN p ∧ (invS rs p).length = p.length := by
  induction p with
  | nil => intro rs _ _ _; exact ⟨.nil, rfl, rfl, rfl⟩
  | cons s p ih =>
    intro rs hp hr h
    rcases hp.head with rfl | rfl | ⟨r, _, rfl⟩
    · cases rs with
      | nil => simp [oldN] at h
      | cons r rs =>
        obtain ⟨i1, i2, i3, i4⟩ := ih rs hp.tail (fun x hx => hr x (List.mem_cons_of_mem _ hx)) (by simp [oldN] at h; omega)
        refine ⟨?_, ?_, ?_, ?_⟩
        · exact .cons .keep i1
        all_goals simp [oldN, newN, invS, i2, i3, i4]
    · cases rs with
      | nil => simp [oldN] at h
      | cons r rs =>
        obtain ⟨i1, i2, i3, i4⟩ := ih rs hp.tail (fun x hx => hr x (List.mem_cons_of_mem _ hx)) (by simp [oldN] at h; omega)
        refine ⟨?_, ?_, ?_, ?_⟩
        · have e : invS (r :: rs) ((3, 0) :: p) = (2, (r : Int)) :: invS rs p := by simp [invS]
          rw [e]
          exact .cons (.inr (.inr ⟨r, hr r List.mem_cons_self, rfl⟩)) i1
        all_goals simp [oldN, newN, invS, i2, i3, i4]
    · obtain ⟨i1, i2, i3, i4⟩ := ih rs hp.tail hr (by simpa [oldN] using h)
      refine ⟨?_, ?_, ?_, ?_⟩
      · have e : invS rs ((2, (r : Int)) :: p) = (3, 0) :: invS rs p := by simp [invS]
        rw [e]
        exact .cons (.inr (.inl rfl)) i1
      all_goals simp [oldN, newN, invS, i2, i3, i4]

theorem applyS_len (p : List Step) : ∀ rs : List Nat, StepsOk p → oldN p = rs.length → (applyS rs p).length = newN p := by
  induction p with
  | nil => intro rs _ _; simp [applyS, newN]
  | cons s p ih =>
    intro rs hp h
    rcases hp.head with rfl | rfl | ⟨r, _, rfl⟩
    · cases rs with
      | nil => simp [oldN] at h
      | cons r rs =>
        have i := ih rs hp.tail (by simp [oldN] at h; omega)
        simp [applyS, newN, i]; omega
    · cases rs with
      | nil => simp [oldN] at h
      | cons r rs =>
        have i := ih rs hp.tail (by simp [oldN] at h; omega)
        simp [applyS, newN, i]
    · have i := ih rs hp.tail (by simpa [oldN] using h)
      simp [applyS, newN, i]; omega
theorem applyS_ok {p : List Step} {rs : List Nat} (hp : StepsOk p) (hr : ∀ r ∈ rs, CP r) : ∀ r ∈ applyS rs p, CP r := applyS_cp p (fun s hs h2 => (hp s hs).cp h2) rs hr

/-- PLACES KEEP THEIR ORDER. -/
theorem move_mono (l : List Step) (x y : Nat) (u v : Bool) (hxy : x ≤ y) (huv : u = true → v = true) : ∀ a b c : Nat, b ≤ c → (l.foldl (moveStep x u) (a, b)).2 ≤ (l.foldl (moveStep y v) (a, c)).2 := by
  induction l with
  | nil => intro a b c h; exact h
  | cons s l ih =>
    intro a b c h
    simp only [List.foldl_cons, moveStep]
    split
    · refine ih _ _ _ ?_
      split
      · rename_i hx
        rw [if_pos (by rcases hx with hx | ⟨hx, hu⟩; exact .inl (by omega); by_cases he : a < y; exact .inl he; exact .inr ⟨by omega, huv hu⟩)]
        omega
      · split <;> omega
    · refine ih _ _ _ ?_
      split
      · rename_i hx
        rw [if_pos ⟨hx.1, by omega⟩]; omega
      · split <;> omega
theorem move_top (l : List Step) (x : Nat) (u : Bool) : ∀ a b : Nat, (l.foldl (moveStep x u) (a, b)).2 ≤ b + newN l := by
  induction l with
  | nil => intro a b; simp [newN]
  | cons s l ih =>
    intro a b
    simp only [List.foldl_cons, moveStep, newN]
    split
    · rename_i h2
      rw [if_neg (show ¬ s.1 = 3 by omega)]
      split
      · exact Nat.le_trans (ih _ _) (by omega)
      · exact Nat.le_trans (ih _ _) (by omega)
    · by_cases h1 : s.1 = 1 ∧ a < x
      · rw [if_pos h1, if_neg (by rw [h1.1]; decide)]
        exact Nat.le_trans (ih _ _) (by omega)
      · rw [if_neg h1]
        exact Nat.le_trans (ih _ _) (by omega)
/-- steps of runes ahead of the place, all of them: the place goes by what they leave -/
theorem move_front (l : List Step) (x : Nat) (hl : StepsOk l) : ∀ a b : Nat, a + oldN l ≤ x → l.foldl (moveStep x true) (a, b) = (a + oldN l, b + newN l) := by
  induction l with
  | nil => intro a b _; simp [oldN, newN]
  | cons s l ih =>
    intro a b h
    rw [List.foldl_cons]
    rcases hl.head with rfl | rfl | ⟨r, _, rfl⟩
    · simp only [oldN] at h
      have e : moveStep x true (a, b) (1, 0) = (a + 1, b + 1) := by
        simp only [moveStep]
        rw [if_neg (by decide)]
        rw [if_pos ⟨trivial, by simp at h; omega⟩]
      rw [e, ih hl.tail _ _ (by simp at h; omega)]
      simp [oldN, newN]; omega
    · simp only [oldN] at h
      have e : moveStep x true (a, b) (3, 0) = (a + 1, b) := by simp [moveStep]
      rw [e, ih hl.tail _ _ (by simp at h; omega)]
      simp [oldN, newN]; omega
    · simp only [oldN] at h
      have e : moveStep x true (a, b) (2, (r : Int)) = (a, b + 1) := by
        simp only [moveStep]
        rw [if_pos trivial, if_pos (by simp at h; by_cases he : a < x; exact .inl he; exact .inr ⟨by omega, trivial⟩)]
      rw [e, ih hl.tail _ _ (by simpa using h)]
      simp [oldN, newN]; omega
end Go.Proofs.YtepehgjdepioeaaDoor
