/-
  Walk: wherryref.OpCopy.
-/
import Derived.Test.YtnpjcdfkjgenbaaDoorPenMem
namespace Go.Proofs.YtnpjcdfkjgenbaaDoor
open Go.RowKit

set_option maxHeartbeats 1000000 in
theorem opCopy_any (ps : List Part) (a : Option Addr) (cap : Nat) (w : World) (hop : OpAt w a ps) (hn : ps.length ≤ 1048576) :
    Calls Tryd.prog 32 #[.slice a ps.length cap] w fun e w' => ∃ v, e = .returned v ∧ w'.ownsRow w.heap.size 63 3 v ps.length (partCells ps) ∧ Below w.heap.size w w' := by
  obtain ⟨i0, hi, hz0, hz1, hz2⟩ := info_parts info_part
  go_enter Tryd.func32, Tryd.ntmps32
  go_wp2
  go_loopw [3, 4] (fun v i wr => ∃ k : Nat, k ≤ ps.length ∧ i = .int .i64 k ∧ wr.ownsRow w.heap.size 63 3 v k (partCells (ps.take k)) ∧ Below w.heap.size w wr) (fun _ i _ => ps.length - (intOf i).toNat)
  case atStart => exact ⟨0, Nat.zero_le _, rfl, World.ownsRow_nil _ _ _ _, Below.refl _ _⟩
  case round =>
    obtain ⟨k, hk, rfl, hown, hb⟩ := hrel
    by_cases hlt : k < ps.length
    · have HT : Hid (partCells (ps.take (k + 1)) = partCells (ps.take k) ++ [.int .i64 ps[k].kind, .int .i64 ps[k].n, .string ps[k].text]) := by
        show _ = _
        rw [List.take_succ_eq_append_getElem hlt, partCells_append, partCells_one]
      rcases hop with rfl | ⟨b, off, rfl, hbs, hcell⟩
      · simp at hlt
      · obtain ⟨c0, c1, c2⟩ := hcell k hlt
        rw [← bcell hb _ _ hbs] at c0 c1 c2
        clear hcell
        generalize partCells (ps.take k) = X at *
        generalize ps[k] = p at *
        obtain ⟨kd, n, tx⟩ := p
        simp only at c0 c1 c2 HT
        go_wp2_with (at_builtin; refine wpList_append_lies _ rfl (.tmp 11) (.tmp 16) 26 rfl w.heap.size 63 i0 _ 3 32 Tryd.underlying26 hi hz0 hz1 hz2 rfl (by decide) _ _ _ rfl (hown.alloc _) ⟨wr.heap.size, 0, none⟩ 1 1 [.int .i64 kd, .int .i64 n, .string tx] rfl rfl (World.news_of_block (cs := #[.int .i64 kd, .int .i64 n, .string tx]) (t := 63) (fr := (0, 0)) (heap_alloc_new wr _)) (by simp [Value.oneCell']) (by omega) (by unfold maxLen; omega) (by omega) (by have := hb.size; simp; omega) _ rfl ?_; intro g1 cap1 w1 hown1 hgrow1 hat1 hlt1)
        go_roundw
        case rel => exact ⟨k + 1, hlt, by go_num, by rw [HT.out]; exact hown1, (hb.alloc hb.size _).grown hgrow1 (by have := hb.size; simp; omega) (fun j e => (hown.lt j e).1)⟩
        case measure => simp [intOf]; omega
    · obtain rfl : k = ps.length := by omega
      rw [List.take_length] at hown
      go_wp2
      go_ret
      exact ⟨_, rfl, hown, hb⟩

end Go.Proofs.YtnpjcdfkjgenbaaDoor
