/-
  Walks: wire.writer.record, wire.EncodeRecord.
-/
import Derived.Test.YtbobeecagcmclaaDoorWireWop
namespace Go.Proofs.YtbobeecagcmclaaDoor
open Go.RowKit Go.Lib

/-- P3.6: a record as bytes -/
def recW (e : Nat) (ps : List Part) : List Nat := sev e ++ (if e = 0 then opW ps else [])

theorem opErr_parts {ps : List Part} (h : opErr ps = 0) (hs : ∀ p ∈ ps, p.text.size ≤ 1048576) : ps.length ≤ 10000 ∧ ∀ p ∈ ps, PartW p := by
  have ok := opErr_zero h
  refine ⟨by have := ok.many; omega, fun p hp => ?_⟩
  have g := ok.chain.good p hp
  refine ⟨by have := g.kind; omega, ?_, hs p hp⟩
  by_cases h2 : p.kind = 2
  · have := (g.text h2).1; omega
  · have := g.count h2; omega
theorem recordErr_zero {e : Int} {ps : List Part} (h : recordErr e ps = 0) : (0 ≤ e ∧ e ≤ 1048576) ∧ (e ≠ 0 → ps = []) ∧ opErr ps = 0 := by
  unfold recordErr at h
  cases hn : inN e with
  | false => rw [hn] at h; simp at h
  | true =>
    rw [hn, if_neg (by decide)] at h
    have hr : 0 ≤ e ∧ e ≤ 1048576 := of_decide_eq_true hn
    by_cases h2 : e ≠ 0 ∧ ps.length ≠ 0
    · rw [if_pos h2] at h; omega
    · rw [if_neg h2] at h
      exact ⟨hr, fun h0 => List.length_eq_zero_iff.1 (by omega), h⟩

end Go.Proofs.YtbobeecagcmclaaDoor
