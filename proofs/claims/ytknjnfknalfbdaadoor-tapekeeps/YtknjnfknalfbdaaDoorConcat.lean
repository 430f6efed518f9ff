/-
  Walks: slices.Grow, slices.Concat (of bytes).
-/
import Derived.Test.YtknjnfknalfbdaaDoorTapeMem
import Derived.Deep.LoopGhost
import Derived.Deep.RegionHeld3
namespace Go.Proofs.YtknjnfknalfbdaaDoor
open Go.RowKit Go.Lib

theorem take_flatC {Ls : List (List Nat)} {i : Nat} (h : i < Ls.length) : (Ls.take (i + 1)).flatten = (Ls.take i).flatten ++ Ls[i] := by
  rw [List.take_add_one, List.getElem?_eq_getElem h, List.flatten_append]
  simp
/-- lists of bytes in memory, to be handed on -/
def ListsB (w : World) (a : Option Addr) (Ls : List (List Nat)) : Prop := Ls = [] ∨ ∃ b off, a = some ⟨b, off, none⟩ ∧ b < w.heap.size ∧ ∀ i (h : i < Ls.length), ∃ ad c, w.cell? ⟨b, off + i, none⟩ = some (.slice ad Ls[i].length c) ∧ BArg w ad c Ls[i]

set_option maxRecDepth 100000 in
set_option maxHeartbeats 1000000 in
theorem grow_any (n : Nat) (w : World) (h0 : 0 < n) (hn : n ≤ 50000000000) :
    Calls Tryd.prog 106 #[.slice none 0 0, .int .i64 (n : Int)] w fun r w' => ∃ v, r = .returned v ∧ w'.ownsRow w.heap.size 5 1 v 0 [] ∧ Below w.heap.size w w' := by
  have g0 : ¬ (n : Int) < 0 := by omega
  have g1 : (0 : Int) < (n : Int) := by omega
  have hb8 : (Tryd.t5).bytes = 1 := by kernel_rfl
  have f1 : (n : Int) * ((Tryd.t5).bytes : Int) ≤ 281474976710656 := by rw [hb8]; omega
  have f2 : ¬ 281474976710656 < Builtin.nextslicecap n 0 * (Tryd.t5).bytes := by
    have := growslice_fits (need := n) (old := 0) (bytes := 1) h0 (by omega)
    rw [hb8]
    omega
  have f3 : ¬ n = 0 := by omega
  have f4 : (n : Int) ≤ 9223372036854775807 := by omega
  have hge := grownCap_ge w n 0 5
  have hle := grownCap_le_maxLen w n 0 5 (by unfold maxLen; omega)
  unfold grownCap at hge hle
  clear hb8
  have hal := heap_alloc_new w
  go_enter Tryd.func106, Tryd.ntmps106
  go_wp2_with fail
  generalize (Question.appendCap n 0 5).cut (w.tape w.drawn (Question.appendCap n 0 5)) = cp at *
  go_ret
  refine ⟨_, rfl, ⟨rfl, .inr ⟨w.heap.size, cp, _, rfl, Nat.le_refl _, hal _, Nat.zero_le _, hle, ?_, rfl⟩⟩, ((Below.refl w.heap.size w).alloc (Nat.le_refl _) _).trans ⟨rfl, rfl, rfl, Nat.le_refl _, fun _ _ => rfl⟩⟩
  simp [Builtin.zeroCells]
  omega

set_option maxRecDepth 100000 in
set_option maxHeartbeats 1000000 in
theorem concat_any (Ls : List (List Nat)) (a : Option Addr) (c : Nat) (w : World) (h : ListsB w a Ls) (h0 : 0 < Ls.flatten.length) (hs : Ls.flatten.length ≤ 50000000000) (hn : Ls.length ≤ 10) :
    Calls Tryd.prog 87 #[.slice a Ls.length c] w fun r w' => ∃ v, r = .returned v ∧ w'.ownsRow w.heap.size 5 1 v Ls.flatten.length (octs Ls.flatten) ∧ Below w.heap.size w w' := by
  obtain ⟨R, hR⟩ : ∃ R, R = Ls.flatten := ⟨_, rfl⟩
  rw [← hR] at hs h0 ⊢
  have HR : Hid (R = Ls.flatten) := hR
  clear hR
  go_enter Tryd.func87, Tryd.ntmps87
  go_wp2_with fail
  go_loopg [3, 11] Ls.length (fun g zv iv wr => ∃ i : Nat, i + g = Ls.length ∧ iv = .int .i64 (i : Int) ∧ zv = .int .i64 ((Ls.take i).flatten.length : Int) ∧ w = wr)
  case atStart => exact ⟨0, by omega, rfl, rfl, rfl⟩
  case round =>
    obtain ⟨i, hi, rfl, rfl, rfl⟩ := hrel
    by_cases hlt : i < Ls.length
    · have h' := h
      rcases h' with h1 | ⟨b, off, rfl, hbl, hc⟩
      · subst h1; simp at hlt
      · obtain ⟨ad, cc, hcell, hby⟩ := hc i hlt
        have hfl := take_flatC hlt
        have hll : (Ls.take (i + 1)).flatten.length ≤ 50000000000 := by
          have : (Ls.take (i + 1)).flatten.length ≤ R.length := by
            rw [HR.out]
            conv => rhs; rw [← List.take_append_drop (i + 1) Ls, List.flatten_append, List.length_append]
            omega
          omega
        rw [hfl, List.length_append] at hll
        have HF : Hid ((Ls.take (i + 1)).flatten.length = (Ls.take i).flatten.length + Ls[i].length) := by show _ = _; rw [hfl, List.length_append]
        clear hfl hc
        generalize (Ls.take i).flatten.length = P at *
        generalize Ls[i].length = M at *
        have hiz : (i : Int) < (Ls.length : Int) := by omega
        have hi0 : (0 : Int) ≤ (i : Int) := by omega
        have hnn : ¬ (P : Int) + (M : Int) < 0 := by omega
        go_wp2_with fail
        go_roundg (Ls.length - i - 1)
        case measure => omega
        case rel => exact ⟨i + 1, by omega, by go_num, by rw [HF.out]; go_num, rfl⟩
    · have hiz : ¬ (i : Int) < (Ls.length : Int) := by omega
      have HQ : Hid ((Ls.take i).flatten.length = R.length) := by show _ = _; rw [HR.out, List.take_of_length_le (by omega)]
      rw [HQ.out]
      have cG := grow_any R.length w h0 hs
      go_wp2_with fail
      refine cG.mono ?_
      rintro r w1 ⟨v1, rfl, hown1, hb1⟩
      go_wp2_with fail
      clear cG hlt hiz hi
      go_loopg [6, 27] Ls.length (fun g ov iv wq => ∃ k : Nat, k + g = Ls.length ∧ iv = .int .i64 (k : Int) ∧ wq.ownsRow w.heap.size 5 1 ov (Ls.take k).flatten.length (octs (Ls.take k).flatten) ∧ Below w.heap.size w wq)
      case atStart => exact ⟨0, by omega, rfl, hown1, hb1⟩
      case round =>
        clear hown1 hb1
        obtain ⟨k, hk, rfl, hown, hb⟩ := hrel
        obtain ⟨oa, oc, rfl⟩ := own_form hown
        by_cases hlt : k < Ls.length
        · rcases h with h1 | ⟨b, off, rfl, hbl, hc⟩
          · subst h1; simp at hlt
          · obtain ⟨ad, cc, hcell, hby⟩ := hc k hlt
            have hq := (hb.cell (p := ⟨b, off + k, none⟩) hbl).trans hcell
            have hsrc := (hby.below hb).src
            have hfl := take_flatC hlt
            have hll : (Ls.take (k + 1)).flatten.length ≤ 50000000000 := by
              have : (Ls.take (k + 1)).flatten.length ≤ R.length := by
                rw [HR.out]
                conv => rhs; rw [← List.take_append_drop (k + 1) Ls, List.flatten_append, List.length_append]
                omega
              omega
            rw [hfl, List.length_append] at hll
            have HF : Hid ((Ls.take (k + 1)).flatten = (Ls.take k).flatten ++ Ls[k]) := hfl
            clear hfl hc hcell hby
            generalize (Ls.take k).flatten = P at *
            generalize Ls[k] = M at *
            have hkz : (k : Int) < (Ls.length : Int) := by omega
            have hk0 : (0 : Int) ≤ (k : Int) := by omega
            have hz := hb.size
            go_wp2_with (at_builtin; refine wpList_append_bytes rfl _ _ rfl w.heap.size hz (.slice oa P.length oc) P.length (octs P) rfl hown ad cc M rfl hsrc (by omega) ?_; intro v3 w3 hown3 hgr3 hmv3)
            rw [← octs_append, ← List.length_append, ← HF.out] at hown3
            have hb3 : Below w.heap.size w w3 := hb.grown hgr3 hz (fun k e => (hown.lt k e).1)
            go_roundg (Ls.length - k - 1)
            case measure => omega
            case rel => exact ⟨k + 1, by omega, by go_num, hown3, hb3⟩
        · have hkz : ¬ (k : Int) < (Ls.length : Int) := by omega
          have HQ : Hid ((Ls.take k).flatten = R) := by show _ = _; rw [HR.out, List.take_of_length_le (by omega)]
          generalize (Ls.take k).flatten = Q at *
          go_wp2_with fail
          go_ret
          exact ⟨_, rfl, by rw [← HQ.out]; exact hown, hb⟩

end Go.Proofs.YtknjnfknalfbdaaDoor
