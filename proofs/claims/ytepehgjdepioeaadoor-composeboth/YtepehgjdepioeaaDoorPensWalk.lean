/-
  Two pens side by side.
-/
import Derived.Test.YtepehgjdepioeaaDoorPenSteps
import Derived.Test.YtepehgjdepioeaaDoorPureBoth
import Derived.Lib.Builder
namespace Go.Proofs.YtepehgjdepioeaaDoor
open Go.RowKit Go.Lib

/-- Two pens that share nothing, with what they have written. -/
structure PensI (w : World) (B bp bq : Nat) (dp ip dq iq : Value) (lp lq : List Step) : Prop where
  p : PenL w B bp dp ip lp
  q : PenL w B bq dq iq lq
  apart : ∀ k, penF bp dp ip k → ¬ penF bq dq iq k
  base : B ≤ w.heap.size
def Pens (w : World) (B bp bq : Nat) (lp lq : List Step) : Prop := ∃ dp ip dq iq, PensI w B bp bq dp ip dq iq lp lq
theorem Pens.symm {w : World} {B bp bq : Nat} {lp lq : List Step} (h : Pens w B bp bq lp lq) : Pens w B bq bp lq lp := by
  obtain ⟨dp, ip, dq, iq, h⟩ := h
  exact ⟨dq, iq, dp, ip, h.q, h.p, fun k h1 h2 => h.apart k h2 h1, h.base⟩
theorem Pens.kept {F : Nat → Prop} {w w' : World} {B bp bq : Nat} {lp lq : List Step} (h : Pens w B bp bq lp lq) (c : Chg F w w') (hF : ∀ k, F k → k < B) : Pens w' B bp bq lp lq := by
  obtain ⟨dp, ip, dq, iq, h⟩ := h
  exact ⟨dp, ip, dq, iq, PenAt.kept h.p c (fun k hk e => by have := (PenAt.F_lt h.p k hk).1; have := hF k e; omega), PenAt.kept h.q c (fun k hk e => by have := (PenAt.F_lt h.q k hk).1; have := hF k e; omega), h.apart, Nat.le_trans h.base c.size⟩
theorem Pens.below {w w' : World} {B bp bq : Nat} {lp lq : List Step} (h : Pens w B bp bq lp lq) (hb : Below w.heap.size w w') : Pens w' B bp bq lp lq := by
  obtain ⟨dp, ip, dq, iq, h⟩ := h
  exact ⟨dp, ip, dq, iq, penL_below h.p hb, penL_below h.q hb, h.apart, Nat.le_trans h.base hb.size⟩
theorem PensI.stepP {w w' : World} {B bp bq : Nat} {dp ip dq iq dp' ip' : Value} {lp lq lp' : List Step} (h : PensI w B bp bq dp ip dq iq lp lq) (hp : PenL w' B bp dp' ip' lp') (hs : PenStep w w' bp dp ip dp' ip') : Pens w' B bp bq lp' lq ∧ Chg (fun k => B ≤ k) w w' := by
  refine ⟨⟨dp', ip', dq, iq, hp, PenAt.kept h.q hs.chg (fun k hk e => h.apart k e hk), penF_apart hs (fun k hk => (PenAt.F_lt h.q k hk).2) h.apart, Nat.le_trans h.base hs.chg.size⟩, ?_⟩
  exact ⟨hs.chg.os, hs.chg.tape, hs.chg.output, hs.chg.size, fun k hk hn => hs.chg.block k hk (fun e => hn (PenAt.F_lt h.p k e).1)⟩

theorem pens_keepP (w : World) (B bp bq : Nat) (lp lq : List Step) (n : Nat) (h : Pens w B bp bq lp lq) (hl : lp.length ≤ 100000) (h1 : 1 ≤ n) (hk : n ≤ 100000) :
    Calls Tryd.prog 41 #[.pointer (some ⟨bp, 0, none⟩), .int .i64 (n : Int)] w fun e w' => e = .returned (.tuple #[]) ∧ Pens w' B bp bq (lp ++ List.replicate n (1, 0)) lq ∧ Chg (fun k => B ≤ k) w w' := by
  obtain ⟨dp, ip, dq, iq, h⟩ := h
  refine (keepL w B bp dp ip lp n h.p h.base hl h1 hk).mono ?_
  rintro e w' ⟨rfl, dp', ip', hp, hs⟩
  exact ⟨rfl, h.stepP hp hs⟩
theorem pens_removeP (w : World) (B bp bq : Nat) (lp lq : List Step) (n : Nat) (h : Pens w B bp bq lp lq) (hl : lp.length ≤ 100000) (hk : n ≤ 100000) :
    Calls Tryd.prog 43 #[.pointer (some ⟨bp, 0, none⟩), .int .i64 (n : Int)] w fun e w' => e = .returned (.tuple #[]) ∧ Pens w' B bp bq (lp ++ List.replicate n (3, 0)) lq ∧ Chg (fun k => B ≤ k) w w' := by
  obtain ⟨dp, ip, dq, iq, h⟩ := h
  refine (removeL w B bp dp ip lp n h.p hl hk).mono ?_
  rintro e w' ⟨rfl, hp, hs⟩
  exact ⟨rfl, h.stepP hp hs⟩
theorem pens_insertP (w : World) (B bp bq : Nat) (lp lq : List Step) (rs : List Nat) (h : Pens w B bp bq lp lq) (hl : lp.length ≤ 100000) (hs : (str rs).size ≤ 10000000) :
    Calls Tryd.prog 42 #[.pointer (some ⟨bp, 0, none⟩), .string (str rs)] w fun e w' => e = .returned (.tuple #[]) ∧ Pens w' B bp bq (lp ++ insS rs) lq ∧ Chg (fun k => B ≤ k) w w' := by
  obtain ⟨dp, ip, dq, iq, h⟩ := h
  refine (insertL w B bp dp ip lp rs h.p h.base hl hs).mono ?_
  rintro e w' ⟨rfl, ip', hp, hs⟩
  exact ⟨rfl, h.stepP hp hs⟩
theorem pens_keepQ (w : World) (B bp bq : Nat) (lp lq : List Step) (n : Nat) (h : Pens w B bp bq lp lq) (hl : lq.length ≤ 100000) (h1 : 1 ≤ n) (hk : n ≤ 100000) :
    Calls Tryd.prog 41 #[.pointer (some ⟨bq, 0, none⟩), .int .i64 (n : Int)] w fun e w' => e = .returned (.tuple #[]) ∧ Pens w' B bp bq lp (lq ++ List.replicate n (1, 0)) ∧ Chg (fun k => B ≤ k) w w' := by
  refine (pens_keepP w B bq bp lq lp n h.symm hl h1 hk).mono ?_
  rintro e w' ⟨rfl, hp, hs⟩
  exact ⟨rfl, hp.symm, hs⟩
theorem pens_removeQ (w : World) (B bp bq : Nat) (lp lq : List Step) (n : Nat) (h : Pens w B bp bq lp lq) (hl : lq.length ≤ 100000) (hk : n ≤ 100000) :
    Calls Tryd.prog 43 #[.pointer (some ⟨bq, 0, none⟩), .int .i64 (n : Int)] w fun e w' => e = .returned (.tuple #[]) ∧ Pens w' B bp bq lp (lq ++ List.replicate n (3, 0)) ∧ Chg (fun k => B ≤ k) w w' := by
  refine (pens_removeP w B bq bp lq lp n h.symm hl hk).mono ?_
  rintro e w' ⟨rfl, hp, hs⟩
  exact ⟨rfl, hp.symm, hs⟩
theorem pens_insertQ (w : World) (B bp bq : Nat) (lp lq : List Step) (rs : List Nat) (h : Pens w B bp bq lp lq) (hl : lq.length ≤ 100000) (hs : (str rs).size ≤ 10000000) :
    Calls Tryd.prog 42 #[.pointer (some ⟨bq, 0, none⟩), .string (str rs)] w fun e w' => e = .returned (.tuple #[]) ∧ Pens w' B bp bq lp (lq ++ insS rs) ∧ Chg (fun k => B ≤ k) w w' := by
  refine (pens_insertP w B bq bp lq lp rs h.symm hl hs).mono ?_
  rintro e w' ⟨rfl, hp, hs⟩
  exact ⟨rfl, hp.symm, hs⟩
/-- 'return p.op(), q.op()' -/
theorem pens_opP (w : World) (B bp bq : Nat) (lp lq : List Step) (h : Pens w B bp bq lp lq) (hl : lp.length ≤ 100000) :
    Calls Tryd.prog 44 #[.pointer (some ⟨bp, 0, none⟩)] w fun e w' => ∃ v, e = .returned v ∧ w'.ownsRow B 42 3 v (group lp).length (partCells (group lp)) ∧ (∃ dq iq, PenL w' B bq dq iq lq ∧ ∀ k, v.ownBlock = some k → ¬ penF bq dq iq k) ∧ Chg (fun k => B ≤ k) w w' := by
  obtain ⟨dp, ip, dq, iq, h⟩ := h
  refine (opL w B bp dp ip lp h.p h.base hl).mono ?_
  rintro e w' ⟨dp', ip', rfl, hp, hs⟩
  have hc : Chg (fun k => B ≤ k) w w' := ⟨hs.chg.os, hs.chg.tape, hs.chg.output, hs.chg.size, fun k hk hn => hs.chg.block k hk (fun e => hn (PenAt.F_lt h.p k e).1)⟩
  have ha := penF_apart hs (fun k hk => (PenAt.F_lt h.q k hk).2) h.apart
  exact ⟨_, rfl, hp.own, ⟨dq, iq, PenAt.kept h.q hs.chg (fun k hk e => h.apart k e hk), fun k hk => ha k (.inr (.inl hk))⟩, hc⟩

theorem PensI.below {w w' : World} {B bp bq : Nat} {dp ip dq iq : Value} {lp lq : List Step} (h : PensI w B bp bq dp ip dq iq lp lq) (hb : Below w.heap.size w w') : PensI w' B bp bq dp ip dq iq lp lq :=
  ⟨penL_below h.p hb, penL_below h.q hb, h.apart, Nat.le_trans h.base hb.size⟩
theorem PensI.kept {F : Nat → Prop} {w w' : World} {B bp bq : Nat} {dp ip dq iq : Value} {lp lq : List Step} (h : PensI w B bp bq dp ip dq iq lp lq) (c : Chg F w w') (hF : ∀ k, F k → k < B ∨ w.heap.size ≤ k) : PensI w' B bp bq dp ip dq iq lp lq :=
  ⟨PenAt.kept h.p c (fun k hk e => by have := PenAt.F_lt h.p k hk; have := hF k e; omega), PenAt.kept h.q c (fun k hk e => by have := PenAt.F_lt h.q k hk; have := hF k e; omega), h.apart, Nat.le_trans h.base c.size⟩
theorem chg_base {w w' : World} {B b : Nat} {dv iv dv' iv' : Value} {l : List Step} (h : PenL w B b dv iv l) (hs : PenStep w w' b dv iv dv' iv') : Chg (fun k => B ≤ k) w w' :=
  ⟨hs.chg.os, hs.chg.tape, hs.chg.output, hs.chg.size, fun k hk hn => hs.chg.block k hk (fun e => hn (PenAt.F_lt h k e).1)⟩
theorem alloc2 (w : World) (A C : Obj) : Below w.heap.size w ((w.alloc A).alloc C) := ((Below.refl _ _).alloc (Nat.le_refl _) _).alloc (by simp) _

end Go.Proofs.YtepehgjdepioeaaDoor
