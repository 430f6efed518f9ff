/-
  PLAIN LEAN: P1.7 and P1.8, step by step, and in pieces.
-/
import Derived.Test.YtepehgjdepioeaaDoorPureApply
import Derived.Test.YtepehgjdepioeaaDoorPureGroup
namespace Go.Proofs.YtepehgjdepioeaaDoor
open Go.RowKit

/-- P1.7 -/
def xf : List Step → List Step → List Step × List Step
  | [], [] => ([], [])
  | x :: p, [] => if x.1 = 2 then (x :: (xf p []).1, (1, 0) :: (xf p []).2) else ([], [])
  | [], y :: q => if y.1 = 2 then ((1, 0) :: (xf [] q).1, y :: (xf [] q).2) else ([], [])
  | x :: p, y :: q =>
    if x.1 = 2 then (x :: (xf p (y :: q)).1, (1, 0) :: (xf p (y :: q)).2)
    else if y.1 = 2 then ((1, 0) :: (xf (x :: p) q).1, y :: (xf (x :: p) q).2)
    else ((if y.1 = 1 then [x] else []) ++ (xf p q).1, (if x.1 = 1 then [y] else []) ++ (xf p q).2)
termination_by p q => p.length + q.length

/-- no insertion comes next -/
def NoIns (p : List Step) : Prop := ∀ x r, p = x :: r → x.1 ≠ 2

theorem xf_nil : xf [] [] = ([], []) := by rw [xf]
theorem xf_insL (x : Step) (p q : List Step) (h : x.1 = 2) : xf (x :: p) q = (x :: (xf p q).1, (1, 0) :: (xf p q).2) := by
  cases q with
  | nil => rw [xf, if_pos h]
  | cons y q => rw [xf, if_pos h]
theorem xf_insR (y : Step) (p q : List Step) (hp : NoIns p) (h : y.1 = 2) : xf p (y :: q) = ((1, 0) :: (xf p q).1, y :: (xf p q).2) := by
  cases p with
  | nil => rw [xf, if_pos h]
  | cons x p => rw [xf, if_neg (hp x p rfl), if_pos h]
theorem xf_meet (x y : Step) (p q : List Step) (hx : x.1 ≠ 2) (hy : y.1 ≠ 2) : xf (x :: p) (y :: q) = ((if y.1 = 1 then [x] else []) ++ (xf p q).1, (if x.1 = 1 then [y] else []) ++ (xf p q).2) := by
  rw [xf, if_neg hx, if_neg hy]

/-- an insertion's steps -/
def insS (rs : List Nat) : List Step := rs.map fun r : Nat => ((2 : Int), (r : Int))
theorem xf_insLs (rs : List Nat) (p q : List Step) : xf (insS rs ++ p) q = (insS rs ++ (xf p q).1, List.replicate rs.length (1, 0) ++ (xf p q).2) := by
  induction rs with
  | nil => simp [insS]
  | cons r rs ih =>
    show xf ((2, (r : Int)) :: (insS rs ++ p)) q = _
    rw [xf_insL _ _ _ rfl, ih]
    simp [insS, List.replicate_succ]
theorem xf_insRs (rs : List Nat) (p q : List Step) (hp : NoIns p) : xf p (insS rs ++ q) = (List.replicate rs.length (1, 0) ++ (xf p q).1, insS rs ++ (xf p q).2) := by
  induction rs with
  | nil => simp [insS]
  | cons r rs ih =>
    show xf p ((2, (r : Int)) :: (insS rs ++ q)) = _
    rw [xf_insR _ _ _ hp rfl, ih]
    simp [insS, List.replicate_succ]
theorem xf_meets (n : Nat) (kx ky : Int) (p q : List Step) (hx : kx ≠ 2) (hy : ky ≠ 2) : xf (List.replicate n (kx, 0) ++ p) (List.replicate n (ky, 0) ++ q) =
    ((if ky = 1 then List.replicate n (kx, 0) else []) ++ (xf p q).1, (if kx = 1 then List.replicate n (ky, 0) else []) ++ (xf p q).2) := by
  induction n with
  | zero => simp
  | succ n ih =>
    rw [List.replicate_succ, List.replicate_succ, List.cons_append, List.cons_append, xf_meet _ _ _ _ hx hy, ih]
    simp only
    by_cases h1 : ky = 1 <;> by_cases h2 : kx = 1 <;> simp [h1, h2]

theorem xf_length (p q : List Step) : (xf p q).1.length ≤ p.length + q.length ∧ (xf p q).2.length ≤ p.length + q.length := by
  fun_induction xf p q <;> simp only [List.length_cons, List.length_append, List.length_nil] at * <;> (repeat' split) <;> (try simp only [List.length_cons, List.length_nil]) <;> omega

theorem xf_nonneg (p q : List Step) (hp : ∀ s ∈ p, 0 ≤ s.2) (hq : ∀ s ∈ q, 0 ≤ s.2) : (∀ s ∈ (xf p q).1, 0 ≤ s.2) ∧ ∀ s ∈ (xf p q).2, 0 ≤ s.2 := by
  fun_induction xf p q with
  | case1 => simp
  | case2 x p h ih =>
    have := ih (fun s hs => hp s (List.mem_cons_of_mem _ hs)) hq
    have h0 := hp x (by simp)
    refine ⟨fun s hs => ?_, fun s hs => ?_⟩
    · rcases List.mem_cons.1 hs with rfl | hs
      · exact h0
      · exact this.1 s hs
    · rcases List.mem_cons.1 hs with rfl | hs
      · simp
      · exact this.2 s hs
  | case3 => simp
  | case4 y q h ih =>
    have := ih hp (fun s hs => hq s (List.mem_cons_of_mem _ hs))
    have h0 := hq y (by simp)
    refine ⟨fun s hs => ?_, fun s hs => ?_⟩
    · rcases List.mem_cons.1 hs with rfl | hs
      · simp
      · exact this.1 s hs
    · rcases List.mem_cons.1 hs with rfl | hs
      · exact h0
      · exact this.2 s hs
  | case5 => simp
  | case6 x p y q h ih =>
    have := ih (fun s hs => hp s (List.mem_cons_of_mem _ hs)) hq
    have h0 := hp x (by simp)
    refine ⟨fun s hs => ?_, fun s hs => ?_⟩
    · rcases List.mem_cons.1 hs with rfl | hs
      · exact h0
      · exact this.1 s hs
    · rcases List.mem_cons.1 hs with rfl | hs
      · simp
      · exact this.2 s hs
  | case7 x p y q h h' ih =>
    have := ih hp (fun s hs => hq s (List.mem_cons_of_mem _ hs))
    have h0 := hq y (by simp)
    refine ⟨fun s hs => ?_, fun s hs => ?_⟩
    · rcases List.mem_cons.1 hs with rfl | hs
      · simp
      · exact this.1 s hs
    · rcases List.mem_cons.1 hs with rfl | hs
      · exact h0
      · exact this.2 s hs
  | case8 x p y q h h' ih =>
    have := ih (fun s hs => hp s (List.mem_cons_of_mem _ hs)) (fun s hs => hq s (List.mem_cons_of_mem _ hs))
    have h0 := hp x (by simp)
    have h1 := hq y (by simp)
    refine ⟨fun s hs => ?_, fun s hs => ?_⟩
    · rcases List.mem_append.1 hs with hs | hs
      · split at hs
        · simp at hs; subst hs; exact h0
        · cases hs
      · exact this.1 s hs
    · rcases List.mem_append.1 hs with hs | hs
      · split at hs
        · simp at hs; subst hs; exact h1
        · cases hs
      · exact this.2 s hs

/-- P1.8 -/
def cf : List Step → List Step → List Step
  | [], [] => []
  | x :: p, [] => if x.1 = 3 then x :: cf p [] else []
  | [], y :: q => if y.1 = 2 then y :: cf [] q else []
  | x :: p, y :: q =>
    if x.1 = 3 then x :: cf p (y :: q)
    else if y.1 = 2 then y :: cf (x :: p) q
    else (if y.1 = 1 then [x] else if x.1 = 1 then [y] else []) ++ cf p q
termination_by p q => p.length + q.length
/-- no deletion comes next -/
def NoDel (p : List Step) : Prop := ∀ x r, p = x :: r → x.1 ≠ 3

theorem cf_nil : cf [] [] = [] := by rw [cf]
theorem cf_delL (x : Step) (p q : List Step) (h : x.1 = 3) : cf (x :: p) q = x :: cf p q := by
  cases q with
  | nil => rw [cf, if_pos h]
  | cons y q => rw [cf, if_pos h]
theorem cf_insR (y : Step) (p q : List Step) (hp : NoDel p) (h : y.1 = 2) : cf p (y :: q) = y :: cf p q := by
  cases p with
  | nil => rw [cf, if_pos h]
  | cons x p => rw [cf, if_neg (hp x p rfl), if_pos h]
theorem cf_meet (x y : Step) (p q : List Step) (hx : x.1 ≠ 3) (hy : y.1 ≠ 2) : cf (x :: p) (y :: q) = (if y.1 = 1 then [x] else if x.1 = 1 then [y] else []) ++ cf p q := by
  rw [cf, if_neg hx, if_neg hy]
theorem cf_delLs (n : Nat) (p q : List Step) : cf (List.replicate n (3, 0) ++ p) q = List.replicate n (3, 0) ++ cf p q := by
  induction n with
  | zero => simp
  | succ n ih => rw [List.replicate_succ, List.cons_append, cf_delL _ _ _ rfl, ih]; rfl
theorem cf_insRs (rs : List Nat) (p q : List Step) (hp : NoDel p) : cf p (insS rs ++ q) = insS rs ++ cf p q := by
  induction rs with
  | nil => simp [insS]
  | cons r rs ih =>
    show cf p ((2, (r : Int)) :: (insS rs ++ q)) = _
    rw [cf_insR _ _ _ hp rfl, ih]
    simp [insS]
theorem cf_joinK (n : Nat) (kx ky : Int) (p q : List Step) (hx : kx ≠ 3) (hy : ky ≠ 2) : cf (List.replicate n (kx, 0) ++ p) (List.replicate n (ky, 0) ++ q) =
    (if ky = 1 then List.replicate n (kx, 0) else if kx = 1 then List.replicate n (ky, 0) else []) ++ cf p q := by
  induction n with
  | zero => simp
  | succ n ih =>
    rw [List.replicate_succ, List.replicate_succ, List.cons_append, List.cons_append, cf_meet _ _ _ _ hx hy, ih]
    simp only
    by_cases h1 : ky = 1 <;> by_cases h2 : kx = 1 <;> simp [h1, h2]
theorem cf_joinI (rs : List Nat) (ky : Int) (p q : List Step) (hy : ky ≠ 2) : cf (insS rs ++ p) (List.replicate rs.length (ky, 0) ++ q) = (if ky = 1 then insS rs else []) ++ cf p q := by
  induction rs with
  | nil => simp [insS]
  | cons r rs ih =>
    show cf ((2, (r : Int)) :: (insS rs ++ p)) ((ky, 0) :: (List.replicate rs.length (ky, 0) ++ q)) = _
    rw [cf_meet _ _ _ _ (by simp) hy, ih]
    by_cases h1 : ky = 1 <;> simp [h1, insS]
theorem cf_length (p q : List Step) : (cf p q).length ≤ p.length + q.length := by
  fun_induction cf p q <;> simp only [List.length_cons, List.length_append, List.length_nil] at * <;> (repeat' split) <;> (try simp only [List.length_cons, List.length_nil]) <;> omega

theorem cf_nonneg (p q : List Step) (hp : ∀ s ∈ p, 0 ≤ s.2) (hq : ∀ s ∈ q, 0 ≤ s.2) : ∀ s ∈ cf p q, 0 ≤ s.2 := by
  intro s hs
  have key : ∀ s ∈ cf p q, s ∈ p ∨ s ∈ q := by
    clear hp hq hs
    fun_induction cf p q with
    | case1 => intro s hs; cases hs
    | case2 x p h ih => intro s hs; rcases List.mem_cons.1 hs with rfl | hs; exact .inl (by simp); rcases ih s hs with h | h; exact .inl (by simp [h]); cases h
    | case3 => intro s hs; cases hs
    | case4 y q h ih => intro s hs; rcases List.mem_cons.1 hs with rfl | hs; exact .inr (by simp); rcases ih s hs with h | h; cases h; exact .inr (by simp [h])
    | case5 => intro s hs; cases hs
    | case6 x p y q h ih => intro s hs; rcases List.mem_cons.1 hs with rfl | hs; exact .inl (by simp); rcases ih s hs with h | h; exact .inl (by simp [h]); exact .inr h
    | case7 x p y q h h' ih => intro s hs; rcases List.mem_cons.1 hs with rfl | hs; exact .inr (by simp); rcases ih s hs with h | h; exact .inl h; exact .inr (by simp [h])
    | case8 x p y q h h' ih =>
      intro s hs
      rcases List.mem_append.1 hs with hs | hs
      · split at hs
        · simp at hs; subst hs; exact .inl (by simp)
        · split at hs
          · simp at hs; subst hs; exact .inr (by simp)
          · cases hs
      · rcases ih s hs with h | h
        · exact .inl (by simp [h])
        · exact .inr (by simp [h])
  rcases key s hs with h | h
  · exact hp s h
  · exact hq s h

end Go.Proofs.YtepehgjdepioeaaDoor
