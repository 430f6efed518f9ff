/-
  Walk: wherrykeep.letters.
-/
import Derived.Test.YtepehgjdepioeaaDoorRuneRow
namespace Go.Proofs.YtepehgjdepioeaaDoor
open Go.RowKit

set_option maxRecDepth 100000 in
set_option maxHeartbeats 1000000 in
theorem letters_any (s : ByteArray) (most : Nat) (w : World) (hs : s.size ≤ 9223372036854775807) (hm : most ≤ 1000000) :
    Calls Tryd.prog 15 #[.string s, .int .i64 (most : Int)] w fun e w' => ∃ rs : List Nat, (∀ r ∈ rs, CP r) ∧ rs.length ≤ most ∧ e = .returned (.string (str rs)) ∧ Below w.heap.size w w' := by
  obtain ⟨i0, hi, hz0, hz1, hz2⟩ := info_parts info_i32
  go_enter Tryd.func15, Tryd.ntmps15
  go_wp2
  go_loopw [5, 6] (fun ov i wr => ∃ (k : Nat) (acc : List Nat), k ≤ s.size ∧ i = .int .i64 k ∧ acc.length ≤ most ∧ (∀ r ∈ acc, CP r) ∧ wr.ownsRow w.heap.size 21 1 ov acc.length (runeVals acc) ∧ Below w.heap.size w wr) (fun _ i _ => s.size - (RowKit.intOf i).toNat)
  case atStart => exact ⟨0, [], Nat.zero_le _, rfl, Nat.zero_le _, (fun r hr => by cases hr), World.ownsRow_nil _ _ _ _, Below.refl _ _⟩
  case round =>
    obtain ⟨k, acc, hk, rfl, hacc, hcp, hown, hbr⟩ := hrel
    obtain ⟨oa, oc, rfl⟩ := own_form hown
    by_cases hlt : k < s.size
    · by_cases hl2 : acc.length < most
      · have hlA : acc.length ≤ 1000000 := by omega
        have hbz := hbr.size
        by_cases h6 : s[k].toNat % 8 = 6
        · have g6 : ((s[k].toNat : Int) % 8 == 6) = true := by simp; omega
          go_wp2_with (at_builtin; refine wpList_append_lies _ rfl _ _ 46 rfl w.heap.size 21 i0 _ 1 4 Tryd.underlying46 hi hz0 hz1 hz2 rfl (by decide) _ _ _ rfl (hown.alloc _) ⟨wr.heap.size, 0, none⟩ 1 1 [.int .i32 (224 + (s[k].toNat : Int) / 8 % 256)] rfl rfl (World.news_of_block (cs := #[.int .i32 (224 + (s[k].toNat : Int) / 8 % 256)]) (t := 21) (fr := (0, 0)) (heap_alloc_new wr _)) (by simp [Value.oneCell']) (by omega) (by unfold maxLen; omega) (by omega) (by simp; omega) _ rfl ?_; intro g1 cap1 w6 hown1 hgrow1 hat1 hlt1)
          go_roundw
          case rel =>
            refine ⟨k + 1, acc ++ [224 + s[k].toNat / 8 % 256], hlt, by go_num, by simp; omega, fun r hr => ?_, ?_, (hbr.alloc hbr.size _).grown hgrow1 (by simp; omega) (fun j e => (hown.lt j e).1)⟩
            · rcases List.mem_append.1 hr with hr | hr
              · exact hcp r hr
              · simp only [List.mem_singleton] at hr
                subst hr
                unfold CP; omega
            · have e : runeVals (acc ++ [224 + s[k].toNat / 8 % 256]) = runeVals acc ++ [.int .i32 (224 + (s[k].toNat : Int) / 8 % 256)] := by simp [runeVals]
              rw [e, List.length_append, List.length_singleton]
              exact hown1
          case measure => simp [RowKit.intOf]; omega
        · by_cases h7 : s[k].toNat % 8 = 7
          · have g6 : ((s[k].toNat : Int) % 8 == 6) = false := by simp; omega
            have g7 : ((s[k].toNat : Int) % 8 == 7) = true := by simp; omega
            go_wp2_with (at_builtin; refine wpList_append_lies _ rfl _ _ 46 rfl w.heap.size 21 i0 _ 1 4 Tryd.underlying46 hi hz0 hz1 hz2 rfl (by decide) _ _ _ rfl (hown.alloc _) ⟨wr.heap.size, 0, none⟩ 1 1 [.int .i32 (128512 + (s[k].toNat : Int) / 8 % 256)] rfl rfl (World.news_of_block (cs := #[.int .i32 (128512 + (s[k].toNat : Int) / 8 % 256)]) (t := 21) (fr := (0, 0)) (heap_alloc_new wr _)) (by simp [Value.oneCell']) (by omega) (by unfold maxLen; omega) (by omega) (by simp; omega) _ rfl ?_; intro g1 cap1 w6 hown1 hgrow1 hat1 hlt1)
            go_roundw
            case rel =>
              refine ⟨k + 1, acc ++ [128512 + s[k].toNat / 8 % 256], hlt, by go_num, by simp; omega, fun r hr => ?_, ?_, (hbr.alloc hbr.size _).grown hgrow1 (by simp; omega) (fun j e => (hown.lt j e).1)⟩
              · rcases List.mem_append.1 hr with hr | hr
                · exact hcp r hr
                · simp only [List.mem_singleton] at hr
                  subst hr
                  unfold CP; omega
              · have e : runeVals (acc ++ [128512 + s[k].toNat / 8 % 256]) = runeVals acc ++ [.int .i32 (128512 + (s[k].toNat : Int) / 8 % 256)] := by simp [runeVals]
                rw [e, List.length_append, List.length_singleton]
                exact hown1
            case measure => simp [RowKit.intOf]; omega
          · have g6 : ((s[k].toNat : Int) % 8 == 6) = false := by simp; omega
            have g7 : ((s[k].toNat : Int) % 8 == 7) = false := by simp; omega
            go_wp2_with (at_builtin; refine wpList_append_lies _ rfl _ _ 46 rfl w.heap.size 21 i0 _ 1 4 Tryd.underlying46 hi hz0 hz1 hz2 rfl (by decide) _ _ _ rfl (hown.alloc _) ⟨wr.heap.size, 0, none⟩ 1 1 [.int .i32 (97 + (s[k].toNat : Int) / 8 % 256)] rfl rfl (World.news_of_block (cs := #[.int .i32 (97 + (s[k].toNat : Int) / 8 % 256)]) (t := 21) (fr := (0, 0)) (heap_alloc_new wr _)) (by simp [Value.oneCell']) (by omega) (by unfold maxLen; omega) (by omega) (by simp; omega) _ rfl ?_; intro g1 cap1 w6 hown1 hgrow1 hat1 hlt1)
            go_roundw
            case rel =>
              refine ⟨k + 1, acc ++ [97 + s[k].toNat / 8 % 256], hlt, by go_num, by simp; omega, fun r hr => ?_, ?_, (hbr.alloc hbr.size _).grown hgrow1 (by simp; omega) (fun j e => (hown.lt j e).1)⟩
              · rcases List.mem_append.1 hr with hr | hr
                · exact hcp r hr
                · simp only [List.mem_singleton] at hr
                  subst hr
                  unfold CP; omega
              · have e : runeVals (acc ++ [97 + s[k].toNat / 8 % 256]) = runeVals acc ++ [.int .i32 (97 + (s[k].toNat : Int) / 8 % 256)] := by simp [runeVals]
                rw [e, List.length_append, List.length_singleton]
                exact hown1
            case measure => simp [RowKit.intOf]; omega
      · obtain rfl : acc.length = most := by omega
        have hcb := conv_back wr _ _ _ hown
        go_wp2
        go_ret
        exact ⟨acc, hcp, hacc, rfl, hbr⟩
    · have hcb := conv_back wr _ _ _ hown
      go_wp2
      go_ret
      exact ⟨acc, hcp, hacc, rfl, hbr⟩

end Go.Proofs.YtepehgjdepioeaaDoor
