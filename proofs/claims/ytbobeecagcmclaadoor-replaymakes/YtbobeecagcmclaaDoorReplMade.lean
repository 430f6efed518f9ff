/-
  Records that are made of raw things, and what they make: purely.
-/
import Derived.Test.YtbobeecagcmclaaDoorTapeReplay
import Derived.Test.YtbobeecagcmclaaDoorKRecs
import Derived.Test.YtbobeecagcmclaaDoorKCalls
namespace Go.Proofs.YtbobeecagcmclaaDoor
open Go.RowKit Go.Lib

def toI (K : List RecC) : List RecI := K.map fun x => ((x.1.1 : Int), x.1.2)
theorem RowRecs.ins {w : World} {B : Nat} {rv : Value} {K : List RecC} (h : RowRecs w B rv K) : ∃ a c, rv = .slice a (toI K).length c ∧ RecsIn w a (toI K) := by
  obtain ⟨a, c, e, _, _, hr⟩ := h.recs
  refine ⟨a, c, by rw [e]; simp [toI], ?_⟩
  rcases hr with h0 | ⟨b, off, rfl, hb, hc⟩
  · have : K = [] := by simpa using h0
    subst this
    exact .inl rfl
  · refine .inr ⟨b, off, rfl, hb, fun i hi => ?_⟩
    have hi' : i < K.length := by simpa [toI] using hi
    obtain ⟨oa, oc, h1, h2, h3⟩ := hc i (by simpa using hi')
    simp only [List.getElem_map] at h1 h2 h3
    simp only [toI, List.getElem_map]
    exact ⟨oa, oc, h1, h2, h3⟩
theorem replayP_cons (s : ByteArray) (ep : Int) (r : RecI) (rs : List RecI) : replayP s ep (r :: rs) = if recordErr r.1 r.2 ≠ 0 then (ByteArray.empty, 0, recordErr r.1 r.2) else if r.1 ≠ 0 then replayP s (max ep r.1) rs else if applyErr s r.2 ≠ 0 then (ByteArray.empty, 0, applyErr s r.2) else replayP (applyRes s r.2) (max ep r.1) rs := rfl
theorem replayP_app : ∀ (xs ys : List RecI) (s s' : ByteArray) (ep ep' : Int), replayP s ep xs = (s', ep', 0) → replayP s ep (xs ++ ys) = replayP s' ep' ys
  | [], ys, s, s', ep, ep', h => by
    simp only [replayP, Prod.mk.injEq, and_true] at h
    rw [h.1, h.2]
    rfl
  | x :: xs, ys, s, s', ep, ep', h => by
    rw [List.cons_append]
    rw [replayP_cons] at h ⊢
    by_cases h1 : recordErr x.1 x.2 ≠ 0
    · rw [if_pos h1] at h
      simp only [Prod.mk.injEq] at h
      exact absurd h.2.2 h1
    · rw [if_neg h1] at h ⊢
      by_cases h2 : x.1 ≠ 0
      · rw [if_pos h2] at h ⊢
        exact replayP_app xs ys _ _ _ _ h
      · rw [if_neg h2] at h ⊢
        by_cases h3 : applyErr s x.2 ≠ 0
        · rw [if_pos h3] at h
          simp only [Prod.mk.injEq] at h
          exact absurd h.2.2 h3
        · rw [if_neg h3] at h ⊢
          exact replayP_app xs ys _ _ _ _ h
/-- what was made of records so far -/
structure MadeR (K : List RecC) (t : List Nat) (top : Nat) : Prop where
  run : replayP ByteArray.empty 0 (toI K) = (str t, (top : Int), 0)
  cp : ∀ r ∈ t, CP r
  short : ∀ x ∈ K, x.1.2.length ≤ 1048576 ∧ ∀ p ∈ x.1.2, p.text.size ≤ 1048576
theorem made_nil : MadeR [] [] 0 := ⟨rfl, by simp, by simp⟩
theorem short_app {K : List RecC} {x : RecC} (h : ∀ x ∈ K, x.1.2.length ≤ 1048576 ∧ ∀ p ∈ x.1.2, p.text.size ≤ 1048576) (hx : x.1.2.length ≤ 1048576 ∧ ∀ p ∈ x.1.2, p.text.size ≤ 1048576) : ∀ y ∈ K ++ [x], y.1.2.length ≤ 1048576 ∧ ∀ p ∈ y.1.2, p.text.size ≤ 1048576 := fun y hy => by
  rcases List.mem_append.1 hy with hy | hy
  · exact h y hy
  · rw [List.mem_singleton.1 hy]; exact hx
theorem short_ins {K : List RecC} (h : ∀ x ∈ K, x.1.2.length ≤ 1048576 ∧ ∀ p ∈ x.1.2, p.text.size ≤ 1048576) : ∀ r ∈ toI K, r.2.length ≤ 1048576 ∧ ∀ p ∈ r.2, p.text.size ≤ 1048576 := fun r hr => by
  obtain ⟨x, hx, rfl⟩ := List.mem_map.1 hr
  exact h x hx
theorem made_epoch {K : List RecC} {t : List Nat} {top k : Nat} (h : MadeR K t top) (hk : k < 1000) (v : Value) : MadeR (K ++ [((1 + k, []), v)]) t (max top (1 + k)) := by
  refine ⟨?_, h.cp, short_app h.short ⟨Nat.zero_le _, fun p hp => by simp at hp⟩⟩
  have e : toI (K ++ [((1 + k, []), v)]) = toI K ++ [(((1 + k : Nat) : Int), [])] := by simp [toI]
  rw [e, replayP_app _ _ _ _ _ _ h.run]
  have hr := (recOk_epoch hk).err
  rw [replayP_cons, if_neg (by rw [hr]; simp), if_pos (by simp only; omega)]
  unfold replayP
  simp only [Prod.mk.injEq, true_and, and_true]
  omega
theorem made_op {K : List RecC} {t : List Nat} {top : Nat} {A : List Step} (h : MadeR K t top) (hA : StepsOk A) (hl : A.length ≤ 4000) (he : oldN A = t.length) (hc : steps (group A) = A) (v : Value) : MadeR (K ++ [((0, group A), v)]) (applyS t A) top := by
  refine ⟨?_, applyS_ok hA h.cp, short_app h.short ⟨group_many hl, group_text hl⟩⟩
  have e : toI (K ++ [((0, group A), v)]) = toI K ++ [(((0 : Nat) : Int), group A)] := by simp [toI]
  rw [e, replayP_app _ _ _ _ _ _ h.run]
  have ho := group_ok hA hl
  have ha := applies_of h.cp hA hl he
  have hr : recordErr ((0 : Nat) : Int) (group A) = 0 := by
    unfold recordErr
    rw [show inN ((0 : Nat) : Int) = true from rfl]
    simp
    exact ho.err
  rw [replayP_cons, if_neg (by rw [hr]; simp), if_neg (by simp), if_neg (by rw [ha.err]; simp)]
  unfold replayP
  have hres : applyRes (str t) (group A) = str (applyS t A) := by
    unfold applyRes
    rw [if_neg (by rw [ha.err]; simp), runes_str h.cp, hc]
  rw [hres]
  simp only [Prod.mk.injEq, true_and, and_true]
  omega
/-- an operation of another length falls -/
theorem made_bad {K : List RecC} {t : List Nat} {top : Nat} {A : List Step} (h : MadeR K t top) (hA : StepsOk A) (hl : A.length ≤ 4000) (ht : t.length ≤ 4000) (he : oldN A ≠ t.length) (v : Value) : replayP ByteArray.empty 0 (toI (K ++ [((0, group A), v)])) = (ByteArray.empty, 0, 10) := by
  have e : toI (K ++ [((0, group A), v)]) = toI K ++ [(((0 : Nat) : Int), group A)] := by simp [toI]
  rw [e, replayP_app _ _ _ _ _ _ h.run]
  have ho := group_ok hA hl
  have hr : recordErr ((0 : Nat) : Int) (group A) = 0 := by
    unfold recordErr
    rw [show inN ((0 : Nat) : Int) = true from rfl]
    simp
    exact ho.err
  have ha : applyErr (str t) (group A) = 10 := by
    unfold applyErr
    rw [textErr_ok (valid_str h.cp) (by rw [runes_str h.cp]; exact ht), ho.err, group_lens hA hl, runes_str h.cp]
    simp
    omega
  rw [replayP_cons, if_neg (by rw [hr]; simp), if_neg (by simp), if_pos (by rw [ha]; decide), ha]

end Go.Proofs.YtbobeecagcmclaaDoor
