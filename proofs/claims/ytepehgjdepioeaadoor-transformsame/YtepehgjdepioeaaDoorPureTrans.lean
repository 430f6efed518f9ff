/-
  PLAIN LEAN: what Transform and Compose answer.
-/
import Derived.Test.YtepehgjdepioeaaDoorPureBoth
import Derived.Test.YtepehgjdepioeaaDoorPureCheck
namespace Go.Proofs.YtepehgjdepioeaaDoor
open Go.RowKit

def PenTxt (m : Nat) (P : PenS) : Prop := P.ins.size ≤ 4 * m ∧ ∀ p ∈ P.done, p.text.size ≤ 4 * m
theorem PenTxt.all {m : Nat} {P : PenS} (h : PenTxt m P) : ∀ p ∈ P.all, p.text.size ≤ 4 * m := by
  intro p hp
  unfold PenS.all at hp
  rcases List.mem_append.1 hp with hp | hp
  · rcases List.mem_append.1 hp with hp | hp
    · exact h.2 p hp
    · unfold waitIns at hp
      split at hp
      · cases hp
      · simp at hp; subst hp; exact h.1
  · unfold waitDel at hp
    split at hp
    · cases hp
    · simp at hp; subst hp; simp
theorem addKeep_txt {n x : Nat} {D : List Part} (h : ∀ p ∈ D, p.text.size ≤ x) : ∀ p ∈ addKeep D n, p.text.size ≤ x := by
  rcases List.eq_nil_or_concat D with rfl | ⟨D0, q, rfl⟩
  · rw [addKeep_nil]
    intro p hp
    simp at hp; subst hp; simp
  · rw [List.concat_eq_append] at *
    by_cases hk : q.kind = 1
    · rw [addKeep_grow _ _ _ hk]
      intro p hp
      rcases List.mem_append.1 hp with hp | hp
      · exact h p (List.mem_append_left _ hp)
      · simp at hp; subst hp; exact h q (by simp)
    · rw [addKeep_new _ _ _ hk]
      intro p hp
      rcases List.mem_append.1 hp with hp | hp
      · exact h p hp
      · simp at hp; subst hp; simp
theorem penStep_txt {m : Nat} {P : PenS} (h : PenTxt m P) (s : Step) : PenTxt (m + 1) (penStep P s) := by
  have h1 := h.1
  have h2 : ∀ p ∈ P.done, p.text.size ≤ 4 * (m + 1) := fun p hp => by have := h.2 p hp; omega
  unfold penStep
  split
  · refine ⟨?_, h2⟩
    show (P.ins ++ str [s.2.toNat]).size ≤ _
    rw [ByteArray.size_append]
    have := str_one_size s.2.toNat
    omega
  · split
    · exact ⟨by show P.ins.size ≤ _; omega, h2⟩
    · exact ⟨by show ByteArray.empty.size ≤ _; simp, addKeep_txt fun p hp => by have := h.all p hp; omega⟩
theorem penOf_txt (l : List Step) : PenTxt l.length (penOf l) := by
  have key : ∀ (l : List Step) (m : Nat) (P : PenS), PenTxt m P → PenTxt (m + l.length) (l.foldl penStep P) := by
    intro l
    induction l with
    | nil => intro m P h; exact h
    | cons s l ih =>
      intro m P h
      have := ih (m + 1) _ (penStep_txt h s)
      rw [List.foldl_cons, List.length_cons, show m + (l.length + 1) = m + 1 + l.length by omega]
      exact this
  have := key l 0 PenS.new ⟨by show ByteArray.empty.size ≤ _; simp, fun p hp => by cases hp⟩
  rw [Nat.zero_add] at this
  exact this
theorem group_txt (l : List Step) : ∀ p ∈ group l, p.text.size ≤ 4 * l.length := (penOf_txt l).all
theorem group_len (l : List Step) : (group l).length ≤ l.length := (penOf_ok l).all.1

def bothErr (ps qs : List Part) : Int := if opErr ps ≠ 0 then opErr ps else opErr qs
def xU (ps qs : List Part) : List Part := group (xf (steps ps) (steps qs)).1
def xV (ps qs : List Part) : List Part := group (xf (steps ps) (steps qs)).2
def transErr (ps qs : List Part) : Int := if bothErr ps qs ≠ 0 then bothErr ps qs else if (lens ps).1 ≠ (lens qs).1 then 10 else bothErr (xU ps qs) (xV ps qs)
def transU (ps qs : List Part) : List Part := if transErr ps qs ≠ 0 then [] else xU ps qs
def transV (ps qs : List Part) : List Part := if transErr ps qs ≠ 0 then [] else xV ps qs
theorem bothErr_zero {ps qs : List Part} (h : bothErr ps qs = 0) : opErr ps = 0 ∧ opErr qs = 0 := by
  unfold bothErr at h
  split at h
  · omega
  · omega
theorem lens_from {ps : List Part} (h : OpOk ps) : (lens ps).1 = (fromN ps : Int) ∧ (lens ps).2 = (toN ps : Int) := by
  have := lens_good ps 0 0 h.chain.good (by have := h.many; omega)
  have e : lens ps = ps.foldl stepLen (((0 : Nat) : Int), ((0 : Nat) : Int)) := rfl
  rw [e, this]
  simp
theorem xUV_small {ps qs : List Part} (ha : OpOk ps) (hb : OpOk qs) : ((xU ps qs).length ≤ 16000 ∧ ∀ p ∈ xU ps qs, p.text.size ≤ 64000) ∧ (xV ps qs).length ≤ 16000 ∧ ∀ p ∈ xV ps qs, p.text.size ≤ 64000 := by
  have h1 := xf_length (steps ps) (steps qs)
  have h2 := ha.steps_le
  have h3 := hb.steps_le
  refine ⟨⟨?_, fun p hp => ?_⟩, ?_, fun p hp => ?_⟩
  · have := group_len (xf (steps ps) (steps qs)).1
    unfold xU; omega
  · have := group_txt _ p hp
    omega
  · have := group_len (xf (steps ps) (steps qs)).2
    unfold xV; omega
  · have := group_txt _ p hp
    omega

/-- what Compose answers -/
def cO (ps qs : List Part) : List Part := group (cf (steps ps) (steps qs))
def compErr (ps qs : List Part) : Int := if bothErr ps qs ≠ 0 then bothErr ps qs else if (lens ps).2 ≠ (lens qs).1 then 10 else opErr (cO ps qs)
def compRes (ps qs : List Part) : List Part := if compErr ps qs ≠ 0 then [] else cO ps qs
theorem cO_small {ps qs : List Part} (ha : OpOk ps) (hb : OpOk qs) : (cO ps qs).length ≤ 16000 ∧ ∀ p ∈ cO ps qs, p.text.size ≤ 64000 := by
  have h1 := cf_length (steps ps) (steps qs)
  have h2 := ha.steps_le
  have h3 := hb.steps_le
  refine ⟨?_, fun p hp => ?_⟩
  · have := group_len (cf (steps ps) (steps qs))
    unfold cO; omega
  · have := group_txt _ p hp
    omega

end Go.Proofs.YtepehgjdepioeaaDoor
