/-
  edge.Send and the reference's: one form for all that may come.
-/
import Derived.Test.YtmdehfomogfmlaaDoorSentOf
import Derived.Test.YtmdehfomogfmlaaDoorEdgeSendAll
import Derived.Test.YtmdehfomogfmlaaDoorEdgeSendBad
namespace Go.Proofs.YtmdehfomogfmlaaDoor
open Go.RowKit Go.Lib

/-- P2.2: the side then -/
def sendS (sent heard : Int) (E : List (List Part)) (ps : List Part) : Int := if sendErr sent heard E ps = 0 then sent + 1 else 0
def sendH (sent heard : Int) (E : List (List Part)) (ps : List Part) : Int := if sendErr sent heard E ps = 0 then heard else 0
def sendE (sent heard : Int) (E : List (List Part)) (ps : List Part) : List (List Part) := if sendErr sent heard E ps = 0 then E ++ [ps] else []
theorem sendErr_sent {sent heard : Int} {E : List (List Part)} {ps : List Part} (h : sendErr sent heard E ps = 0) : 0 ≤ sent ∧ sent ≤ 1048576 := by
  unfold sendErr edgeBoth edgeErr at h
  cases hB : edgeOkB sent heard E with
  | false => rw [hB] at h; simp at h
  | true =>
    unfold edgeOkB at hB
    simp at hB
    omega

theorem send_all (sent heard : Int) (E : List (List Part)) (vs : List Value) (a : Option Addr) (c : Nat) (ps : List Part) (v : Value) (w : World) (hp : PendAt w a c E vs) (hE : ∀ q ∈ E, OpSmall q) (hlen : E.length ≤ 1048576) (hs : -9223372036854775808 ≤ sent ∧ sent ≤ 9223372036854775807) (ho : OpVal w v ps) (hso : OpSmall ps) (hT : Tabs w) :
    Calls Tryd.prog 19 #[.agg #[.int .i64 sent, .int .i64 heard, .slice a E.length c], v] w fun e w' => ∃ a' c', e = .returned (.tuple #[.agg #[.int .i64 (sendS sent heard E ps), .int .i64 (sendH sent heard E ps), .slice a' (sendE sent heard E ps).length c'], .int .i64 (sendErr sent heard E ps)]) ∧ (∃ us, RowOps w' w.heap.size (.slice a' (sendE sent heard E ps).length c') (sendE sent heard E ps) us) ∧ Below w.heap.size w w' := by
  unfold sendS sendH sendE
  by_cases h : sendErr sent heard E ps = 0
  · rw [if_pos h, if_pos h, if_pos h, h]
    refine (send_own sent heard E vs a c ps v w hp hE hlen (sendErr_sent h) ho hso hT h).mono ?_
    rintro e w' ⟨a', c', rfl, ⟨us, hr⟩, hb⟩
    exact ⟨a', c', by simp, ⟨us, by rw [List.length_append]; exact hr⟩, hb⟩
  · rw [if_neg h, if_neg h, if_neg h]
    refine (send_bad sent heard E vs a c ps v w hp hE hlen hs ho hso hT h).mono ?_
    rintro e w' ⟨rfl, hb⟩
    exact ⟨none, 0, by simp, ⟨[], rowOps_nil _ _⟩, hb⟩
theorem sentOf_all (sent heard : Int) (E : List (List Part)) (vs : List Value) (a : Option Addr) (c : Nat) (ps : List Part) (v : Value) (w : World) (hp : PendAt w a c E vs) (hE : ∀ q ∈ E, OpSmall q) (hlen : E.length ≤ 1048576) (hs : -9223372036854775808 ≤ sent ∧ sent ≤ 9223372036854775807) (ho : OpVal w v ps) (hso : OpSmall ps) (hT : Tabs w) :
    Calls Tryd.prog 30 #[.agg #[.int .i64 sent, .int .i64 heard, .slice a E.length c], v] w fun e w' => ∃ a' c', e = .returned (.tuple #[.agg #[.int .i64 (sendS sent heard E ps), .int .i64 (sendH sent heard E ps), .slice a' (sendE sent heard E ps).length c'], .int .i64 (sendErr sent heard E ps)]) ∧ (∃ us, RowOps w' w.heap.size (.slice a' (sendE sent heard E ps).length c') (sendE sent heard E ps) us) ∧ Below w.heap.size w w' := by
  unfold sendS sendH sendE
  by_cases h : sendErr sent heard E ps = 0
  · rw [if_pos h, if_pos h, if_pos h, h]
    refine (sentOf_ok sent heard E vs a c ps v w hp hE hlen (sendErr_sent h) ho hso hT h).mono ?_
    rintro e w' ⟨a', c', rfl, ⟨us, hr⟩, hb⟩
    exact ⟨a', c', by simp, ⟨us, by rw [List.length_append]; exact hr⟩, hb⟩
  · rw [if_neg h, if_neg h, if_neg h]
    refine (sentOf_bad sent heard E vs a c ps v w hp hE hlen hs ho hso hT h).mono ?_
    rintro e w' ⟨rfl, hb⟩
    exact ⟨none, 0, by simp, ⟨[], rowOps_nil _ _⟩, hb⟩
theorem sendE_small {sent heard : Int} {E : List (List Part)} {ps : List Part} (hE : ∀ q ∈ E, OpSmall q) (hlen : E.length ≤ 1048576) (hso : OpSmall ps) : (∀ q ∈ sendE sent heard E ps, q.length ≤ 1048577) ∧ (sendE sent heard E ps).length ≤ 1048577 := by
  unfold sendE
  split
  · refine ⟨fun q hq => ?_, by simp; omega⟩
    rcases List.mem_append.1 hq with h | h
    · have := (hE q h).1; omega
    · rw [List.mem_singleton.1 h]; have := hso.1; omega
  · exact ⟨by simp, by simp⟩

end Go.Proofs.YtmdehfomogfmlaaDoor
