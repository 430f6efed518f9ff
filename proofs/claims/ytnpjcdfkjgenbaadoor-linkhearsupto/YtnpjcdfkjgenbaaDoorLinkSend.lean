/-
  Walks: link.checkSend, link.Send.
  Walk: link.Send.
-/
import Derived.Test.YtnpjcdfkjgenbaaDoorLinkGo
import Derived.Test.YtnpjcdfkjgenbaaDoorLinkCheck
namespace Go.Proofs.YtnpjcdfkjgenbaaDoor
open Go.RowKit Go.Lib
/-- P5.4: the link, the packets, what is refused -/
def sendR (l : LinkI) (f : FrI) : (LinkI × List PkI) × Int := if lsendErr l f = 0 then (sendL l f, 0) else ((link0, []), lsendErr l f)
theorem goOk_none (w : World) (B N : Nat) : GoOk w B N (.slice none 0 0) (.slice none 0 0) (.slice none 0 0) (link0, []) := ⟨[], [], [], inT_nil _ _ _, rfl, inT_nil _ _ _, rfl, rowK_nil _ _ _, rfl⟩
/-- what holds of a link that may be -/
theorem linkOk {ep nx hd : Int} {S Q : List FrK} (h : linkErr (mkL ep nx hd S Q) = 0) : (0 ≤ ep ∧ ep ≤ 1048576) ∧ (0 ≤ hd ∧ hd ≤ 1048576) ∧ (0 < nx ∧ nx ≤ 1048576) ∧ S.length ≤ 8 ∧ (S.length : Int) < nx ∧ (S.length = 8 ∨ Q.length = 0) ∧ (ep = 0 → S.length = 0 ∧ hd = 0) := by
  rw [linkErr_eq] at h
  unfold inN at h
  simp only [decide_eq_false_iff_not] at h
  repeat' split at h
  all_goals first | (exfalso; omega) | (refine ⟨?_, ?_, ?_, ?_, ?_, ?_, ?_⟩ <;> omega)
theorem cameN_zero {ep nx hd : Int} {S Q : List FrK} (h : (S.length : Int) < nx) : cameN (mkL ep nx hd S Q) 0 = 0 := by
  unfold cameN mkL
  simp only [List.length_map]
  rw [if_neg (by omega)]

/-- the queue of rows of one's own grows; then a store into a block of another type -/
theorem lsendErr_zero {ep nx hd : Int} {S Q : List FrK} {f : FrI} (h : lsendErr (mkL ep nx hd S Q) f = 0) : linkErr (mkL ep nx hd S Q) = 0 ∧ ep ≠ 0 ∧ f.err = 0 ∧ nx ≠ 1048576 := by
  unfold lsendErr at h
  have e1 : (mkL ep nx hd S Q).epoch = ep := rfl
  have e2 : (mkL ep nx hd S Q).next = nx := rfl
  rw [e1, e2] at h
  by_cases h1 : linkErr (mkL ep nx hd S Q) = 0
  · rw [if_neg (by simpa using h1)] at h
    by_cases h2 : ep = 0
    · rw [if_pos h2] at h; cases h
    · rw [if_neg h2] at h
      by_cases h3 : f.err = 0
      · rw [if_neg (by simpa using h3)] at h
        by_cases h4 : nx = 1048576
        · rw [if_pos h4] at h; cases h
        · exact ⟨h1, h2, h3, h4⟩
      · rw [if_pos h3] at h; exact absurd h h3
  · rw [if_pos h1] at h; exact absurd h h1

theorem goK_le (s q : Nat) (n : Int) : goK s q n ≤ q ∧ goK s q n ≤ 8 - s := by unfold goK; omega
theorem packs_len8 (ep hd n : Int) (a : List FrI) (k : Nat) (h : k ≤ 8) : (packs ep hd n (a.take k)).length ≤ 8 := by rw [packs_length, List.length_take]; omega
theorem sendR_small (l : LinkI) (f : FrI) (h1 : ∀ x ∈ l.sent, FrSmall x) (h2 : ∀ x ∈ l.queue, FrSmall x) (hf : FrSmall f) : (∀ x ∈ (sendR l f).1.1.sent, FrSmall x) ∧ (∀ x ∈ (sendR l f).1.1.queue, FrSmall x) ∧ (∀ N, 8 ≤ N → l.sent.length ≤ N → (sendR l f).1.1.sent.length ≤ N) ∧ (sendR l f).1.1.queue.length ≤ l.queue.length + 1 ∧ (sendR l f).1.2.length ≤ 8 := by
  unfold sendR
  by_cases he : lsendErr l f = 0
  · rw [if_pos he]
    have hg := goK_le l.sent.length (l.queue ++ [f]).length l.next
    have hq : ∀ x ∈ l.queue ++ [f], FrSmall x := fun x hx => by
      rcases List.mem_append.1 hx with hx | hx
      · exact h2 x hx
      · rw [List.mem_singleton.1 hx]; exact hf
    unfold sendL LinkI.go
    simp only
    generalize goK l.sent.length (l.queue ++ [f]).length l.next = k at *
    refine ⟨fun x hx => ?_, fun x hx => hq x (List.mem_of_mem_drop hx), ?_, ?_, packs_len8 _ _ _ _ _ (by omega)⟩
    · rcases List.mem_append.1 hx with hx | hx
      · exact h1 x hx
      · exact hq x (List.mem_of_mem_take hx)
    · intro N h8 hN; rw [List.length_append, List.length_take]; omega
    · rw [List.length_drop, List.length_append]; simp
  · rw [if_neg he]
    exact ⟨fun _ h => by simp [link0] at h, fun _ h => by simp [link0] at h, by simp [link0], by simp [link0], by simp⟩
/-- what link.Send answers, laid out -/
structure SendT (w : World) (B : Nat) (S Q : List FrK) (P : List PkK) (sa qa pa : Option Addr) (sc qc pc : Nat) (R : LinkI × List PkI) : Prop where
  inS : InT frS w B (.slice sa S.length sc) S
  eS : S.map (·.1) = R.1.sent
  inQ : InT frS w B (.slice qa Q.length qc) Q
  eQ : Q.map (·.1) = R.1.queue
  inP : InT pkS w B (.slice pa P.length pc) P
  eP : P.map (·.1) = R.2
theorem GoOk.laid {w : World} {B : Nat} {sv qv pv : Value} {R : LinkI × List PkI} (h : GoOk w B B sv qv pv R) : ∃ S Q P sa sc qa qc pa pc, sv = .slice sa S.length sc ∧ qv = .slice qa Q.length qc ∧ pv = .slice pa P.length pc ∧ SendT w B S Q P sa qa pa sc qc pc R := by
  obtain ⟨S, Q, P, q1, q2, q3, q4, q5, q6⟩ := h.ex
  obtain ⟨sa, sc, rfl, _⟩ := q1.row
  obtain ⟨qa, qc, rfl, _⟩ := q3.row
  obtain ⟨pa, pc, rfl⟩ := own_form q5.row
  exact ⟨S, Q, P, sa, sc, qa, qc, pa, pc, rfl, rfl, rfl, q1, q2, q3, q4, q5.inT, q6⟩
theorem SendT.below {w w' : World} {B : Nat} {S Q : List FrK} {P : List PkK} {sa qa pa : Option Addr} {sc qc pc : Nat} {R : LinkI × List PkI} (h : SendT w B S Q P sa qa pa sc qc pc R) (hb : Below w.heap.size w w') : SendT w' B S Q P sa qa pa sc qc pc R := ⟨h.inS.below hb, h.eS, h.inQ.below hb, h.eQ, h.inP.below hb, h.eP⟩
theorem SendT.base {w : World} {B B' : Nat} {S Q : List FrK} {P : List PkK} {sa qa pa : Option Addr} {sc qc pc : Nat} {R : LinkI × List PkI} (h : SendT w B S Q P sa qa pa sc qc pc R) (hB : B' ≤ B) : SendT w B' S Q P sa qa pa sc qc pc R := ⟨h.inS.base hB, h.eS, h.inQ.base hB, h.eQ, h.inP.base hB, h.eP⟩
theorem GoOk.laid0 {w : World} {N : Nat} {sv qv pv : Value} {R : LinkI × List PkI} (h : GoOk w 0 N sv qv pv R) : ∃ S Q P sa sc qa qc pa pc, sv = .slice sa S.length sc ∧ qv = .slice qa Q.length qc ∧ pv = .slice pa P.length pc ∧ SendT w 0 S Q P sa qa pa sc qc pc R := by
  obtain ⟨S, Q, P, q1, q2, q3, q4, q5, q6⟩ := h.ex
  obtain ⟨sa, sc, rfl, _⟩ := q1.row
  obtain ⟨qa, qc, rfl, _⟩ := q3.row
  obtain ⟨pa, pc, rfl⟩ := own_form q5.row
  exact ⟨S, Q, P, sa, sc, qa, qc, pa, pc, rfl, rfl, rfl, q1, q2, q3, q4, q5.inT.base (Nat.zero_le _), q6⟩
theorem packs_frames {ep hd : Int} : ∀ (a : List FrI) (n : Int), ∀ p ∈ packs ep hd n a, p.frame ∈ a
  | [], _, p, hp => by simp [packs] at hp
  | f :: a, n, p, hp => by
    rcases List.mem_cons.1 (show p ∈ ⟨ep, n, false, hd, f⟩ :: packs ep hd (n + 1) a from hp) with rfl | hp
    · exact List.mem_cons_self
    · exact List.mem_cons_of_mem _ (packs_frames a (n + 1) p hp)
theorem sendR_packs (l : LinkI) (f : FrI) (h2 : ∀ x ∈ l.queue, FrSmall x) (hf : FrSmall f) : ∀ p ∈ (sendR l f).1.2, FrSmall p.frame := by
  unfold sendR
  by_cases he : lsendErr l f = 0
  · rw [if_pos he]
    intro p hp
    have h := List.mem_of_mem_take (packs_frames _ _ p hp)
    rcases List.mem_append.1 h with hx | hx
    · exact h2 _ hx
    · rw [List.mem_singleton.1 hx]; exact hf
  · rw [if_neg he]
    intro p hp
    simp at hp

end Go.Proofs.YtnpjcdfkjgenbaaDoor
