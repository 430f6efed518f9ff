/-
  Walks: edge.counts, follows, Check.
-/
import Derived.Test.YtbobeecagcmclaaDoorEdgeMem
import Derived.Test.YtbobeecagcmclaaDoorCheck
import Derived.Deep.QuietTactic
import Derived.BigQuiet
namespace Go.Proofs.YtbobeecagcmclaaDoor
open Go.RowKit Go.Lib

set_option maxHeartbeats 400000 in
theorem counts_same (n : Int) (w : World) :
    Calls Tryd.prog 65 #[.int .i64 n] w fun e w' => e = .returned (.bool (decide (0 ≤ n ∧ n ≤ 1048576))) ∧ w' = w := by
  by_cases h1 : 0 ≤ n
  · by_cases h2 : n ≤ 1048576
    · have e : decide (0 ≤ n ∧ n ≤ 1048576) = true := decide_eq_true ⟨h1, h2⟩
      rw [e]
      clear e
      go_enter Tryd.func65, Tryd.ntmps65
      go_wp2
      go_ret
      exact ⟨rfl, rfl⟩
    · have e : decide (0 ≤ n ∧ n ≤ 1048576) = false := decide_eq_false fun h => h2 h.2
      rw [e]
      clear e
      go_enter Tryd.func65, Tryd.ntmps65
      go_wp2
      go_ret
      exact ⟨rfl, rfl⟩
  · have e : decide (0 ≤ n ∧ n ≤ 1048576) = false := decide_eq_false fun h => h1 h.1
    rw [e]
    clear e
    go_enter Tryd.func65, Tryd.ntmps65
    go_wp2
    go_ret
    exact ⟨rfl, rfl⟩

set_option maxRecDepth 100000 in
set_option maxHeartbeats 1000000 in
theorem follows_any (E : List (List Part)) (vs : List Value) (a : Option Addr) (c n c' : Nat) (ps : List Part) (v : Value) (w : World) (hn : n ≤ E.length) (hp : PendAt w a c E vs) (ho : OpVal w v ps) (hE : ∀ q ∈ E, OpSmall q) (hs : OpSmall ps) (hlen : E.length ≤ 1048576) :
    Calls Tryd.prog 42 #[.slice a n c', v] w fun e w' => e = .returned (.bool (fitsB (E.take n) ps)) ∧ Below w.heap.size w w' := by
  by_cases h0 : n = 0
  · subst h0
    have e : fitsB (E.take 0) ps = true := by simp [fitsB]
    rw [e]
    clear e
    go_enter Tryd.func42, Tryd.ntmps42
    go_wp2_with fail
    go_ret
    exact ⟨rfl, Below.refl _ _⟩
  · obtain ⟨m, rfl⟩ : ∃ m, n = m + 1 := ⟨n - 1, by omega⟩
    have hm : m < E.length := by omega
    have hm' : m < vs.length := by rw [hp.len]; omega
    have e : fitsB (E.take (m + 1)) ps = decide ((lens ps).1 = (lens E[m]).2) := by
      unfold fitsB
      rw [List.take_succ_eq_append_getElem hm, List.getLast?_append]
      simp
    rw [e]
    clear e
    have hq := hE _ (List.getElem_mem hm)
    obtain ⟨qa, qc, eq, hqo, _, _⟩ := (hp.each m hm hm').form
    obtain ⟨pa, pc, rfl, hpo, _, _⟩ := ho.form
    have c1 := lengths_any E[m] qa qc w hqo (by have := hq.1; omega) (fun p hp => by have := (hq.2 p hp).2.2; omega)
    have c2 := fun w1 (hb : Below w.heap.size w w1) => lengths_any ps pa pc w1 (hpo.below hb) (by have := hs.1; omega) (fun p hp => by have := (hs.2 p hp).2.2; omega)
    rcases hp.vals with h1 | ⟨b, off, rfl, hbl, hcell⟩
    · rw [h1] at hm'; simp at hm'
    · have hc := hcell m hm'
      rw [eq] at hc
      have t1 : (0 : Int) ≤ (m : Int) := by omega
      have t2 : (m : Int) < (m : Int) + 1 := by omega
      generalize lens E[m] = L1 at *
      generalize lens ps = L2 at *
      obtain ⟨f1, g1⟩ := L1
      obtain ⟨f2, g2⟩ := L2
      simp only at c1 c2 ⊢
      clear hcell hq hs hE hp hqo hpo ho
      generalize E[m].length = el at *
      go_enter Tryd.func42, Tryd.ntmps42
      go_wp2_with fail
      refine c1.mono ?_
      rintro e w1 ⟨rfl, hb1⟩
      have c2' := c2 w1 hb1
      clear c1 c2 hc
      go_wp2_with fail
      refine c2'.mono ?_
      rintro e w2 ⟨rfl, hb2⟩
      go_wp2_with fail
      go_ret
      exact ⟨by rfl, below_two hb1 hb2 (Nat.le_refl _)⟩

end Go.Proofs.YtbobeecagcmclaaDoor
