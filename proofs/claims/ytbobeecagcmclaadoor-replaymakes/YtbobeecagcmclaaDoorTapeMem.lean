/-
  Bytes that are handed on; bytes.Clone; tapes: tape.mayBe, tape.cut.
-/
import Derived.Test.YtbobeecagcmclaaDoorBytesOpen
import Derived.Test.YtbobeecagcmclaaDoorBlk
import Derived.Lib.SliceRun
namespace Go.Proofs.YtbobeecagcmclaaDoor
open Go.RowKit Go.Lib

/-- bytes that are handed on -/
structure BArg (w : World) (a : Option Addr) (c : Nat) (l : List Nat) : Prop where
  by_ : Bytes w a l
  cap : l.length ≤ c
  nil : a = none → c = 0
theorem BArg.src {w : World} {a : Option Addr} {c : Nat} {l : List Nat} (h : BArg w a c l) : SrcB w a c l := by
  cases a with
  | none =>
    have h0 := h.nil rfl
    have hl : l = [] := List.length_eq_zero_iff.1 (by have := h.cap; omega)
    exact .inl ⟨rfl, h0, hl⟩
  | some ad =>
    refine .inr ⟨ad, rfl, fun j u hj => ?_⟩
    have hjl : j < l.length := by
      have := (List.getElem?_eq_some_iff.1 hj).1
      rwa [octs_length] at this
    rw [octs_get hjl] at hj
    cases hj
    rcases h.by_ with rfl | ⟨g, off, he, _, hx⟩
    · simp at hjl
    · cases he
      rw [WideShapes.add_plain]
      exact hx j hjl
theorem BArg.mk' {w : World} {a : Option Addr} {c : Nat} {l : List Nat} (h : Bytes w a l) (hs : SrcB w a c l) (hc : l.length ≤ c) : BArg w a c l :=
  ⟨h, hc, fun e => by
    rcases hs with ⟨_, h0, _⟩ | ⟨ad, h1, _⟩
    · exact h0
    · rw [e] at h1; cases h1⟩
theorem BArg.below {w w' : World} {a : Option Addr} {c : Nat} {l : List Nat} (h : BArg w a c l) (hb : Below w.heap.size w w') : BArg w' a c l := ⟨h.by_.below hb, h.cap, h.nil⟩
theorem bArg_nil (w : World) : BArg w none 0 [] := ⟨.inl rfl, Nat.le_refl _, fun _ => rfl⟩
theorem bArg_own {w : World} {B : Nat} {v : Value} {l : List Nat} (h : w.ownsRow B 5 1 v l.length (octs l)) : ∃ a c, v = .slice a l.length c ∧ BArg w a c l := by
  obtain ⟨a, c, e, h1, h2, h3⟩ := srcB_own h
  exact ⟨a, c, e, BArg.mk' h2 h1 h3⟩
theorem Bytes.take {w : World} {a : Option Addr} {l : List Nat} (h : Bytes w a l) (n : Nat) : Bytes w a (l.take n) := by
  rcases h with rfl | ⟨g, off, rfl, hg, hx⟩
  · exact .inl (by simp)
  · refine .inr ⟨g, off, rfl, hg, fun i hi => ?_⟩
    rw [List.length_take] at hi
    rw [List.getElem_take]
    exact hx i (by omega)
theorem Bytes.drop {w : World} {a : Option Addr} {l : List Nat} {c : Nat} (h : Bytes w a l) (hc : l.length ≤ c) (n : Nat) : Bytes w (if c = n then a else a.map (·.add n)) (l.drop n) := by
  by_cases h0 : l.drop n = []
  · exact .inl h0
  · have hl : n < l.length := by
      apply Nat.lt_of_not_le
      intro h
      exact h0 (List.drop_of_length_le h)
    rcases h with rfl | ⟨g, off, rfl, hg, hx⟩
    · simp at hl
    · refine .inr ⟨g, off + n, by rw [if_neg (by omega)]; simp [Addr.add], hg, fun i hi => ?_⟩
      rw [List.length_drop] at hi
      have := hx (n + i) (by omega)
      rw [List.getElem_drop, ← this, Nat.add_assoc]
theorem BArg.take {w : World} {a : Option Addr} {c : Nat} {l : List Nat} (h : BArg w a c l) (n : Nat) (hn : n ≤ l.length) : BArg w a n (l.take n) :=
  ⟨h.by_.take n, by rw [List.length_take]; omega, fun e => by have := h.nil e; have := h.cap; omega⟩
theorem BArg.keep {w : World} {a : Option Addr} {c : Nat} {l : List Nat} (h : BArg w a c l) (n : Nat) (hn : n ≤ l.length) : BArg w a c (l.take n) :=
  ⟨h.by_.take n, by have := h.cap; rw [List.length_take]; omega, h.nil⟩
theorem BArg.drop {w : World} {a : Option Addr} {c : Nat} {l : List Nat} (h : BArg w a c l) (n : Nat) : BArg w (if c = n then a else a.map (·.add n)) (c - n) (l.drop n) :=
  ⟨h.by_.drop h.cap n, by have := h.cap; rw [List.length_drop]; omega, fun e => by
    by_cases hc : c = n
    · omega
    · rw [if_neg hc] at e
      have : a = none := by simpa using e
      have := h.nil this
      omega⟩
/-- 'b[:n:n]' -/
theorem cut_hm (a : Option Addr) (L c n : Nat) (hn : n ≤ L) (hc : L ≤ c) (z : Int) (hz : z = (n : Int)) :
    ∀ wx : World, (Instr.slice 84 (.slice a L c) none (some (.int .i64 z)) (some (.int .i64 z))).run Tryd.prog wx = .ok (.slice a n n) wx := by
  have e : Tryd.prog.underlying 84 = some (.slice (Tryd.prog.elem 84)) := by kernel_rfl
  have hs : ∀ wx, (sizeOf (Tryd.prog.elem 84)).run Tryd.prog wx = .ok 1 wx := fun wx => by kernel_rfl
  subst hz
  intro wx
  rw [run_slice_hm wx 84 a L c e .i64 .i64 (n : Int) (n : Int) (by omega) (by omega) (by omega), hs]
  simp [Result.andThen, sliced, Addr.add]
/-- 'b[i:j:j]' -/
theorem cut_lhm (a : Option Addr) (L c i j : Nat) (hi : i ≤ j) (hj : j ≤ L) (hc : L ≤ c) (y z : Int) (hy : y = (i : Int)) (hz : z = (j : Int)) :
    ∀ wx : World, (Instr.slice 84 (.slice a L c) (some (.int .i64 y)) (some (.int .i64 z)) (some (.int .i64 z))).run Tryd.prog wx = .ok (.slice (if j = i then a else a.map (·.add i)) (j - i) (j - i)) wx := by
  have e : Tryd.prog.underlying 84 = some (.slice (Tryd.prog.elem 84)) := by kernel_rfl
  have hs : ∀ wx, (sizeOf (Tryd.prog.elem 84)).run Tryd.prog wx = .ok 1 wx := fun wx => by kernel_rfl
  subst hy hz
  intro wx
  rw [run_slice_lhm wx 84 a L c e .i64 .i64 .i64 (i : Int) (j : Int) (j : Int) (by omega) (by omega) (by omega) (by omega), hs]
  simp [Result.andThen, sliced]

/-- P4.1 -/
def tapeOk (n : Nat) (s : Int) : Prop := n ≤ 8388608 ∧ 0 ≤ s ∧ s ≤ (n : Int)
instance (n : Nat) (s : Int) : Decidable (tapeOk n s) := by unfold tapeOk; infer_instance

end Go.Proofs.YtbobeecagcmclaaDoor
