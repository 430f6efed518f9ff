/-
  edge.Hear and the reference's: one form for all that may come.
-/
import Derived.Test.YtmdehfomogfmlaaDoorHeardOf
import Derived.Test.YtmdehfomogfmlaaDoorEdgeHearBad
import Derived.Test.YtmdehfomogfmlaaDoorSameEdge
import Derived.Deep.RegionHeld3
namespace Go.Proofs.YtmdehfomogfmlaaDoor
open Go.RowKit Go.Lib

/-- P2.3: what is refused, and what is told -/
def hearX (up : Bool) (sent heard : Int) (E : List (List Part)) (ps : List Part) (hd : Int) : Int := if hearErr sent heard E ps hd ≠ 0 then hearErr sent heard E ps hd else (hearRun up (E.drop (hd - (sent - E.length)).toNat) ps).1
def hearS (up : Bool) (sent heard : Int) (E : List (List Part)) (ps : List Part) (hd : Int) : Int := if hearX up sent heard E ps hd = 0 then sent else 0
def hearH (up : Bool) (sent heard : Int) (E : List (List Part)) (ps : List Part) (hd : Int) : Int := if hearX up sent heard E ps hd = 0 then heard + 1 else 0
def hearP (up : Bool) (sent heard : Int) (E : List (List Part)) (ps : List Part) (hd : Int) : List (List Part) := if hearX up sent heard E ps hd = 0 then (hearRun up (E.drop (hd - (sent - E.length)).toNat) ps).2.1 else []
def hearT (up : Bool) (sent heard : Int) (E : List (List Part)) (ps : List Part) (hd : Int) : List Part := if hearX up sent heard E ps hd = 0 then (hearRun up (E.drop (hd - (sent - E.length)).toNat) ps).2.2 else []
theorem hear_all (up : Bool) (sent heard : Int) (E : List (List Part)) (vs : List Value) (a : Option Addr) (c : Nat) (ps : List Part) (v : Value) (hd : Int) (w : World) (hp : PendAt w a c E vs) (hE : ∀ q ∈ E, OpSmall q) (hlen : E.length ≤ 1048576) (hs : -9223372036854775808 ≤ sent ∧ sent ≤ 9223372036854775807) (ho : OpVal w v ps) (hso : OpSmall ps) (hT : Tabs w) :
    Calls Tryd.prog 22 #[.agg #[.int .i64 sent, .int .i64 heard, .slice a E.length c], v, .int .i64 hd, .bool up] w fun e w' => ∃ a' c' tv, e = .returned (.tuple #[.agg #[.int .i64 (hearS up sent heard E ps hd), .int .i64 (hearH up sent heard E ps hd), .slice a' (hearP up sent heard E ps hd).length c'], tv, .int .i64 (hearX up sent heard E ps hd)]) ∧ (∃ us, RowOps w' w.heap.size (.slice a' (hearP up sent heard E ps hd).length c') (hearP up sent heard E ps hd) us) ∧ w'.ownsRow w.heap.size 68 3 tv (hearT up sent heard E ps hd).length (partCells (hearT up sent heard E ps hd)) ∧ Below w.heap.size w w' := by
  by_cases h : hearErr sent heard E ps hd = 0
  · have hX : hearX up sent heard E ps hd = (hearRun up (E.drop (hd - (sent - E.length)).toNat) ps).1 := by unfold hearX; rw [if_neg (by rw [h]; simp)]
    refine (hear_own up sent heard E vs a c ps v hd w hp hE hlen ho hso hT h).mono ?_
    rintro e w' ⟨hb, h'⟩
    rcases h' with ⟨h0, a', c', tv, rfl, ⟨us, hr⟩, ht⟩ | ⟨h0, rfl⟩
    · have hX0 : hearX up sent heard E ps hd = 0 := by rw [hX, h0]
      unfold hearS hearH hearP hearT
      rw [if_pos hX0, if_pos hX0, if_pos hX0, if_pos hX0, hX0]
      exact ⟨a', c', tv, rfl, ⟨us, hr⟩, ht, hb⟩
    · have hX0 : hearX up sent heard E ps hd ≠ 0 := by rw [hX]; exact h0
      unfold hearS hearH hearP hearT
      rw [if_neg hX0, if_neg hX0, if_neg hX0, if_neg hX0, hX]
      exact ⟨none, 0, .slice none 0 0, rfl, ⟨[], rowOps_nil _ _⟩, World.ownsRow_nil _ _ _ _, hb⟩
  · have hX : hearX up sent heard E ps hd = hearErr sent heard E ps hd := by unfold hearX; rw [if_pos h]
    have hX0 : hearX up sent heard E ps hd ≠ 0 := by rw [hX]; exact h
    refine (hear_bad up sent heard E vs a c ps v hd w hp hE hlen hs ho hso hT h).mono ?_
    rintro e w' ⟨rfl, hb⟩
    unfold hearS hearH hearP hearT
    rw [if_neg hX0, if_neg hX0, if_neg hX0, if_neg hX0, hX]
    exact ⟨none, 0, .slice none 0 0, rfl, ⟨[], rowOps_nil _ _⟩, World.ownsRow_nil _ _ _ _, hb⟩

theorem heardOf_all (up : Bool) (sent heard : Int) (E : List (List Part)) (vs : List Value) (a : Option Addr) (c : Nat) (ps : List Part) (v : Value) (hd : Int) (w : World) (hp : PendAt w a c E vs) (hE : ∀ q ∈ E, OpSmall q) (hlen : E.length ≤ 1048576) (hs : -9223372036854775808 ≤ sent ∧ sent ≤ 9223372036854775807) (ho : OpVal w v ps) (hso : OpSmall ps) (hT : Tabs w) :
    Calls Tryd.prog 32 #[.agg #[.int .i64 sent, .int .i64 heard, .slice a E.length c], v, .int .i64 hd, .bool up] w fun e w' => ∃ a' c' tv, e = .returned (.tuple #[.agg #[.int .i64 (hearS up sent heard E ps hd), .int .i64 (hearH up sent heard E ps hd), .slice a' (hearP up sent heard E ps hd).length c'], tv, .int .i64 (hearX up sent heard E ps hd)]) ∧ (∃ us, RowOps w' w.heap.size (.slice a' (hearP up sent heard E ps hd).length c') (hearP up sent heard E ps hd) us) ∧ w'.ownsRow w.heap.size 68 3 tv (hearT up sent heard E ps hd).length (partCells (hearT up sent heard E ps hd)) ∧ Below w.heap.size w w' := by
  by_cases h : hearErr sent heard E ps hd = 0
  · have hX : hearX up sent heard E ps hd = (hearRun up (E.drop (hd - (sent - E.length)).toNat) ps).1 := by unfold hearX; rw [if_neg (by rw [h]; simp)]
    refine (heardOf_own up sent heard E vs a c ps v hd w hp hE hlen ho hso hT h).mono ?_
    rintro e w' ⟨hb, h'⟩
    rcases h' with ⟨h0, a', c', tv, rfl, ⟨us, hr⟩, ht⟩ | ⟨h0, rfl⟩
    · have hX0 : hearX up sent heard E ps hd = 0 := by rw [hX, h0]
      unfold hearS hearH hearP hearT
      rw [if_pos hX0, if_pos hX0, if_pos hX0, if_pos hX0, hX0]
      exact ⟨a', c', tv, rfl, ⟨us, hr⟩, ht, hb⟩
    · have hX0 : hearX up sent heard E ps hd ≠ 0 := by rw [hX]; exact h0
      unfold hearS hearH hearP hearT
      rw [if_neg hX0, if_neg hX0, if_neg hX0, if_neg hX0, hX]
      exact ⟨none, 0, .slice none 0 0, rfl, ⟨[], rowOps_nil _ _⟩, World.ownsRow_nil _ _ _ _, hb⟩
  · have hX : hearX up sent heard E ps hd = hearErr sent heard E ps hd := by unfold hearX; rw [if_pos h]
    have hX0 : hearX up sent heard E ps hd ≠ 0 := by rw [hX]; exact h
    refine (heardOf_bad up sent heard E vs a c ps v hd w hp hE hlen hs ho hso hT h).mono ?_
    rintro e w' ⟨rfl, hb⟩
    unfold hearS hearH hearP hearT
    rw [if_neg hX0, if_neg hX0, if_neg hX0, if_neg hX0, hX]
    exact ⟨none, 0, .slice none 0 0, rfl, ⟨[], rowOps_nil _ _⟩, World.ownsRow_nil _ _ _ _, hb⟩


end Go.Proofs.YtmdehfomogfmlaaDoor
