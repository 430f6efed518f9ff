/-
  Walk: wherryref.steps.
-/
import Derived.Test.YtknjnfknalfbdaaDoorPenMem
import Derived.Test.YtknjnfknalfbdaaDoorLensOf
import Derived.Test.YtknjnfknalfbdaaDoorPure
import Derived.Deep.AppendLies
namespace Go.Proofs.YtknjnfknalfbdaaDoor
open Go.RowKit

/-- steps as cells -/
def stepCells (l : List Step) : List Value := l.flatMap fun s => [Value.int .i64 s.1, Value.int .i32 s.2]
theorem stepCells_length (l : List Step) : (stepCells l).length = l.length * 2 := by
  induction l with
  | nil => rfl
  | cons a r ih => rw [stepCells, List.flatMap_cons, List.length_append, ← stepCells, ih]; simp; omega
theorem stepCells_append (a b : List Step) : stepCells (a ++ b) = stepCells a ++ stepCells b := by simp [stepCells]
theorem stepCells_one (s : Step) : stepCells [s] = [Value.int .i64 s.1, Value.int .i32 s.2] := rfl

theorem info_step : (Tryd.prog.info? 154).map (fun i => (i.zero, i.size, i.bytes)) = some (some (.agg #[.int .i64 0, .int .i32 0]), 2, 16) := by kernel_rfl

set_option maxHeartbeats 1000000 in
theorem steps_any (ps : List Part) (a : Option Addr) (cap : Nat) (w : World) (hop : OpAt w a ps) (hok : OpOk ps) (hs : ∀ p ∈ ps, p.text.size ≤ 1048576) :
    Calls Tryd.prog 100 #[.slice a ps.length cap] w fun e w' => ∃ v, e = .returned v ∧ w'.ownsRow w.heap.size 154 2 v (steps ps).length (stepCells (steps ps)) ∧ Below w.heap.size w w' := by
  obtain ⟨i0, hi, hz0, hz1, hz2⟩ := info_parts info_step
  have hmany := hok.many
  go_enter Tryd.func100, Tryd.ntmps100
  go_wp2
  go_loopw [3, 4] (fun v i wr => ∃ (k : Nat), k ≤ ps.length ∧ i = .int .i64 k ∧ wr.ownsRow w.heap.size 154 2 v (steps (ps.take k)).length (stepCells (steps (ps.take k))) ∧ Below w.heap.size w wr) (fun _ i _ => ps.length - (intOf i).toNat)
  case atStart => exact ⟨0, Nat.zero_le _, rfl, World.ownsRow_nil _ _ _ _, Below.refl _ _⟩
  case round =>
    obtain ⟨k, hk, rfl, hown, hb⟩ := hrel
    by_cases hlt : k < ps.length
    · have g := hok.chain.good _ (List.getElem_mem hlt)
      have hsz : ps[k].text.size ≤ 1048576 := hs _ (List.getElem_mem hlt)
      have hopr := hop.below hb
      have hst : steps (ps.take (k + 1)) = steps (ps.take k) ++ stepsOf ps[k] := steps_take ps k hlt
      have hle1 : (steps (ps.take (k + 1))).length ≤ 8000 := Nat.le_trans (steps_take_le ps (k + 1)) hok.steps_le
      rw [hst, List.length_append] at hle1
      have HST : Hid (steps (ps.take (k + 1)) = steps (ps.take k) ++ stepsOf ps[k]) := hst
      clear hst
      rcases hop with rfl | ⟨b, off, rfl, hbs, hcell⟩
      · simp at hlt
      · have hpk := hcell k hlt
        generalize steps (ps.take k) = L at *
        generalize ps[k] = p at *
        obtain ⟨kd, n, tx⟩ := p
        simp only at hpk hsz
        clear hcell hs hopr
        obtain ⟨c0, c1, c2⟩ := hpk
        rw [← bcell hb _ _ hbs] at c0 c1 c2
        by_cases hkd : kd = 2
        · subst hkd
          have hcv := conv_runes tx (by omega)
          have HSO : Hid (stepsOf ⟨2, n, tx⟩ = (runes tx).map (fun r : Nat => ((2 : Int), (r : Int)))) := rfl
          have hrl : (stepsOf ⟨2, n, tx⟩).length = (runes tx).length := by rw [HSO.out, List.length_map]
          rw [hrl] at hle1
          clear hrl
          go_wp2
          clear hcv c0 c1 c2
          obtain ⟨G, HG⟩ : ∃ G, Hid (wr.heap.size = G) := ⟨_, rfl⟩
          go_loopw [3, 6] (fun v i wr' => ∃ (j : Nat), j ≤ (runes tx).length ∧ i = .int .i64 j ∧ wr'.ownsRow w.heap.size 154 2 v (L.length + j) (stepCells (L ++ ((runes tx).take j).map (fun r : Nat => ((2 : Int), (r : Int))))) ∧ Below w.heap.size w wr' ∧ ∃ c, wr'.heap[G]? = some (.cells (runeRow tx c) 21 (0, 0))) (fun _ i _ => (runes tx).length - (intOf i).toNat)
          case atStart =>
            refine ⟨0, Nat.zero_le _, rfl, ?_, ?_, grownCap wr (runes tx).length 0 21, ?_⟩
            · simpa using own_drew (hown.alloc _)
            · exact (hb.alloc hb.size _).drew
            · rw [← HG.out]; exact heap_alloc_new wr _
          case round =>
            obtain ⟨j, hj, rfl, hown1, hb1, c, hrow⟩ := hrel
            by_cases hjl : j < (runes tx).length
            · have hcl := cell_of_row _ _ j _ _ _ hrow
              rw [runeRow_get tx c j hjl, ← HG.out] at hcl
              have HT : Hid ((runes tx).take (j + 1) = (runes tx).take j ++ [(runes tx)[j]]) := List.take_succ_eq_append_getElem hjl
              generalize (runes tx)[j] = r at *
              go_wp2_with (at_builtin; refine wpList_append_lies _ rfl (.tmp 32) (.tmp 38) 151 rfl w.heap.size 154 i0 (.agg #[.int .i64 0, .int .i32 0]) 2 16 Tryd.underlying151 hi hz0 hz1 hz2 rfl (by decide) _ _ _ rfl (hown1.alloc _) ⟨wr.heap.size, 0, none⟩ 1 1 [.int .i64 2, .int .i32 r] rfl rfl (cell_two_new _ _ _ _) (by intro u hu; simp at hu; rcases hu with rfl | rfl <;> rfl) (by decide) (by unfold maxLen; omega) (by omega) (by have := hb1.size; simp; omega) _ rfl ?_; intro g2 cap2 w2 hown2 hgrow2 hat2 hlt2)
              go_roundw
              case rel =>
                refine ⟨j + 1, hjl, by go_num, ?_, (hb1.alloc hb1.size _).grown hgrow2 (by have := hb1.size; simp; omega) (fun k e => (hown1.lt k e).1), c, row_kept (hown1.alloc _) (row_old hrow _) (by decide) hgrow2⟩
                rw [HT.out]
                simpa [stepCells_append, stepCells_one, Nat.add_assoc] using hown2
              case measure => simp [intOf]; omega
            · obtain rfl : j = (runes tx).length := by omega
              go_wp2
              go_roundw
              case rel =>
                refine ⟨k + 1, hlt, by go_num, ?_, hb1⟩
                rw [HST.out, HSO.out]
                simpa using hown1
              case measure => simp [intOf]; omega
        · obtain ⟨h1, h2, _⟩ := g.count hkd
          simp only at h1 h2
          obtain ⟨m, rfl⟩ : ∃ m : Nat, n = m := ⟨n.toNat, by omega⟩
          have HSO : Hid (stepsOf ⟨kd, (m : Int), tx⟩ = List.replicate m (kd, 0)) := by show stepsOf _ = _; simp [stepsOf, hkd]
          have hrl : (stepsOf ⟨kd, (m : Int), tx⟩).length = m := by rw [HSO.out, List.length_replicate]
          rw [hrl] at hle1
          clear hrl
          have gk : (kd == 2) = false := by simpa using hkd
          clear hkd
          go_wp2
          have hbs' := Nat.lt_of_lt_of_le hbs hb.size
          go_loopw [3, 7] (fun v i wr' => ∃ (j : Nat), j ≤ m ∧ i = .int .i64 j ∧ wr'.ownsRow w.heap.size 154 2 v (L.length + j) (stepCells (L ++ List.replicate j (kd, 0))) ∧ Below w.heap.size w wr') (fun _ i _ => m - (intOf i).toNat)
          case atStart => exact ⟨0, Nat.zero_le _, rfl, by simpa using hown, hb⟩
          case round =>
            obtain ⟨j, hj, rfl, hown1, hb1⟩ := hrel
            rw [bcell hb _ _ hbs, ← bcell hb1 _ _ hbs] at c0 c1
            by_cases hjl : j < m
            · go_wp2_with (at_builtin; refine wpList_append_lies _ rfl (.tmp 49) (.tmp 56) 151 rfl w.heap.size 154 i0 (.agg #[.int .i64 0, .int .i32 0]) 2 16 Tryd.underlying151 hi hz0 hz1 hz2 rfl (by decide) _ _ _ rfl (hown1.alloc _) ⟨wr.heap.size, 0, none⟩ 1 1 [.int .i64 kd, .int .i32 0] rfl rfl (cell_two_new _ _ _ _) (by intro u hu; simp at hu; rcases hu with rfl | rfl <;> rfl) (by decide) (by unfold maxLen; omega) (by omega) (by have := hb1.size; simp; omega) _ rfl ?_; intro g2 cap2 w2 hown2 hgrow2 hat2 hlt2)
              go_roundw
              case rel =>
                refine ⟨j + 1, hjl, by go_num, ?_, (hb1.alloc hb1.size _).grown hgrow2 (by have := hb1.size; simp; omega) (fun k e => (hown1.lt k e).1)⟩
                rw [List.replicate_succ', ← List.append_assoc, stepCells_append, stepCells_one]
                simpa [Nat.add_assoc] using hown2
              case measure => simp [intOf]; omega
            · obtain rfl : j = m := by omega
              go_wp2
              go_roundw
              case rel =>
                refine ⟨k + 1, hlt, by go_num, ?_, hb1⟩
                rw [HST.out, HSO.out]
                simpa using hown1
              case measure => simp [intOf]; omega
    · go_wp2
      go_ret
      have e : k = ps.length := by omega
      subst e
      rw [List.take_length] at hown
      exact ⟨_, rfl, hown, hb⟩

end Go.Proofs.YtknjnfknalfbdaaDoor
