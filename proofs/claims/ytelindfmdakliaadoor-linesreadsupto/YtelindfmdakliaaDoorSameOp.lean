/-
  Walk: sameOp.
-/
import Derived.Test.YtelindfmdakliaaDoorCheck
import Derived.Deep.QuietTactic
import Derived.BigQuiet
import Derived.Laws.StructEq
namespace Go.Proofs.YtelindfmdakliaaDoor
open Go.RowKit

theorem eq_part (kd n : Int) (tx : ByteArray) (w : World) : (Op.equalIn 10000 63 (.agg #[.int .i64 kd, .int .i64 n, .string tx]) (.agg #[.int .i64 kd, .int .i64 n, .string tx])).run Tryd.prog w = .ok true w := by
  have u3 := Tryd.underlying3
  have a3 := Tryd.isAgg3
  have z3 := Tryd.sizeOf3
  have u9 := Tryd.underlying9
  have a9 := Tryd.isAgg9
  have z9 := Tryd.sizeOf9
  have hS : Tryd.prog.underlying 63 = some (.struct (Tryd.prog.fieldsOf 63)) := by kernel_rfl
  rw [show (10000 : Nat) = 9999 + 1 from rfl, run_equalIn_agg w 9999 63 _ _ hS (by kernel_rfl)]
  simp only [Program.fieldsOf, Tryd.underlying63]
  go_simp
theorem neq_part (kd n : Int) (tx : ByteArray) (w : World) : (binOp .neq 63 (.agg #[.int .i64 kd, .int .i64 n, .string tx]) (.agg #[.int .i64 kd, .int .i64 n, .string tx])).run Tryd.prog w = .ok (.bool false) w := by
  rw [run_neq_struct, eq_part]
  rfl

set_option maxHeartbeats 1000000 in
theorem sameOp_true (ps : List Part) (a b : Option Addr) (c d : Nat) (w : World) (ha : OpAt w a ps) (hb : OpAt w b ps) (hn : ps.length ≤ 9223372036854775806) :
    Calls Tryd.prog 28 #[.slice a ps.length c, .slice b ps.length d] w fun e w' => e = .returned (.bool true) ∧ Below w.heap.size w w' := by
  have g0 : ((ps.length : Int) != (ps.length : Int)) = false := by simp
  go_enter Tryd.func28, Tryd.ntmps28
  go_wp2
  go_loopw [5] (fun i wr => ∃ k : Nat, k ≤ ps.length ∧ i = .int .i64 k ∧ Below w.heap.size w wr) (fun i _ => ps.length - (intOf i).toNat)
  case atStart => exact ⟨0, Nat.zero_le _, rfl, Below.refl _ _⟩
  case round =>
    obtain ⟨k, hk, rfl, hbw⟩ := hrel
    by_cases hlt : k < ps.length
    · rcases ha with rfl | ⟨b1, o1, rfl, hl1, hc1⟩
      · simp at hlt
      · rcases hb with rfl | ⟨b2, o2, rfl, hl2, hc2⟩
        · simp at hlt
        · obtain ⟨p0, p1, p2⟩ := hc1 k hlt
          obtain ⟨q0, q1, q2⟩ := hc2 k hlt
          rw [← bcell hbw _ _ hl1] at p0 p1 p2
          rw [← bcell hbw _ _ hl2] at q0 q1 q2
          clear hc1 hc2
          have hne := neq_part ps[k].kind ps[k].n ps[k].text
          generalize ps[k] = p at *
          obtain ⟨kd, n, tx⟩ := p
          simp only at p0 p1 p2 q0 q1 q2 hne
          have hi1 : (k : Int) < (ps.length : Int) := by omega
          have hi0 : (0 : Int) ≤ (k : Int) := by omega
          go_wp2
          go_quiet (fail)
          go_wp2
          go_roundw
          case rel => exact ⟨k + 1, hlt, by go_num, hbw.trans ⟨rfl, rfl, rfl, Nat.le_refl _, fun _ _ => rfl⟩⟩
          case measure => simp [intOf]; omega
    · go_wp2
      go_ret
      exact ⟨rfl, hbw⟩

end Go.Proofs.YtelindfmdakliaaDoor
