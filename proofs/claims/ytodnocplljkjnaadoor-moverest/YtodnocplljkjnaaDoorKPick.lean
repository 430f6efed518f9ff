/-
  Walks: wherrykeep.picked.
-/
import Derived.Test.YtodnocplljkjnaaDoorPenMem
namespace Go.Proofs.YtodnocplljkjnaaDoor
open Go.RowKit

/-- a number from 0 to many - 1 -/
def pick (n many : Int) : Nat := if n < 0 then ((-(n + 1)) % many).toNat else (n % many).toNat
theorem pick_lt (n many : Int) (h0 : 0 < many) : (pick n many : Int) < many := by
  unfold pick
  split
  · have h1 := Int.emod_nonneg (-(n + 1)) (by omega : many ≠ 0)
    have h2 := Int.emod_lt_of_pos (-(n + 1)) h0
    omega
  · have h1 := Int.emod_nonneg n (by omega : many ≠ 0)
    have h2 := Int.emod_lt_of_pos n h0
    omega
theorem pick_neg (n many : Int) (hn : n < 0) (h0 : 0 < many) : -(n + 1).tmod many = (pick n many : Int) := by
  unfold pick
  rw [if_pos hn, ← Int.neg_tmod, Int.tmod_eq_emod_of_nonneg (by omega)]
  have h1 := Int.emod_nonneg (-(n + 1)) (by omega : many ≠ 0)
  omega
theorem pick_pos (n many : Int) (hn : ¬ n < 0) (h0 : 0 < many) : n % many = (pick n many : Int) := by
  unfold pick
  rw [if_neg hn]
  have h1 := Int.emod_nonneg n (by omega : many ≠ 0)
  omega

set_option maxHeartbeats 400000 in
theorem picked_same (n many : Int) (w : World) (hn : -9223372036854775808 ≤ n ∧ n ≤ 9223372036854775807) (h0 : 0 < many) (h1 : many ≤ 9223372036854775807) :
    Calls Tryd.prog 7 #[.int .i64 n, .int .i64 many] w fun e w' => e = .returned (.int .i64 (pick n many : Int)) ∧ w' = w := by
  by_cases hneg : n < 0
  · go_enter Tryd.func7, Tryd.ntmps7
    go_wp2
    go_ret
    exact ⟨by rw [pick_neg n many hneg h0]; rfl, rfl⟩
  · have hp := pick_pos n many hneg h0
    go_enter Tryd.func7, Tryd.ntmps7
    go_wp2
    go_ret
    exact ⟨by rfl, rfl⟩
theorem picked_any (n many : Int) (w : World) (hn : -9223372036854775808 ≤ n ∧ n ≤ 9223372036854775807) (h0 : 0 < many) (h1 : many ≤ 9223372036854775807) :
    Calls Tryd.prog 7 #[.int .i64 n, .int .i64 many] w fun e w' => ∃ k : Nat, (k : Int) < many ∧ e = .returned (.int .i64 (k : Int)) ∧ Below w.heap.size w w' :=
  (picked_same n many w hn h0 h1).mono fun _ _ ⟨he, hw⟩ => ⟨pick n many, pick_lt n many h0, he, by rw [hw]; exact Below.refl _ _⟩

def I64 (n : Int) : Prop := -9223372036854775808 ≤ n ∧ n ≤ 9223372036854775807

end Go.Proofs.YtodnocplljkjnaaDoor
