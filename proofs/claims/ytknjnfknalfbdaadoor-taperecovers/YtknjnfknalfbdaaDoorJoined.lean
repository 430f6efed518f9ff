/-
  Walks: wherryref.joined, sevens.
-/
import Derived.Test.YtknjnfknalfbdaaDoorBytesOpen
import Derived.Test.YtknjnfknalfbdaaDoorWireNums
import Derived.Test.YtknjnfknalfbdaaDoorBlk
import Derived.Deep.LoopGhost
import Derived.Deep.RegionHeld3
namespace Go.Proofs.YtknjnfknalfbdaaDoor
open Go.RowKit Go.Lib

/-- lists of bytes in memory -/
def ListsAt (w : World) (a : Option Addr) (Ls : List (List Nat)) : Prop := Ls = [] ∨ ∃ b off, a = some ⟨b, off, none⟩ ∧ b < w.heap.size ∧ ∀ i (h : i < Ls.length), ∃ ad c, w.cell? ⟨b, off + i, none⟩ = some (.slice ad Ls[i].length c) ∧ Bytes w ad Ls[i]
theorem take_flat {Ls : List (List Nat)} {i : Nat} (h : i < Ls.length) : (Ls.take (i + 1)).flatten = (Ls.take i).flatten ++ Ls[i] := by
  rw [List.take_add_one, List.getElem?_eq_getElem h, List.flatten_append]
  simp

set_option maxRecDepth 100000 in
set_option maxHeartbeats 2000000 in
theorem joined_any (Ls : List (List Nat)) (a : Option Addr) (c : Nat) (w : World) (h : ListsAt w a Ls) (hs : Ls.flatten.length ≤ 50000000000) (hn : Ls.length ≤ 10) :
    Calls Tryd.prog 82 #[.slice a Ls.length c] w fun r w' => ∃ v, r = .returned v ∧ w'.ownsRow w.heap.size 5 1 v Ls.flatten.length (octs Ls.flatten) ∧ Below w.heap.size w w' := by
  obtain ⟨R, hR⟩ : ∃ R, R = Ls.flatten := ⟨_, rfl⟩
  rw [← hR] at hs ⊢
  have HR : Hid (R = Ls.flatten) := hR
  clear hR
  go_enter Tryd.func82, Tryd.ntmps82
  go_wp2_with fail
  go_loopg [3, 4] Ls.length (fun g ov iv wr => ∃ i : Nat, i + g = Ls.length ∧ iv = .int .i64 (i : Int) ∧ wr.ownsRow w.heap.size 5 1 ov (Ls.take i).flatten.length (octs (Ls.take i).flatten) ∧ Below w.heap.size w wr)
  case atStart => exact ⟨0, by omega, rfl, World.ownsRow_nil _ _ _ _, Below.refl _ _⟩
  case round =>
    obtain ⟨i, hi, rfl, hown, hb⟩ := hrel
    obtain ⟨oa, oc, rfl⟩ := own_form hown
    by_cases hlt : i < Ls.length
    · rcases h with h0 | ⟨b, off, rfl, hbl, hc⟩
      · subst h0; simp at hlt
      · obtain ⟨ad, cc, hcell, hby⟩ := hc i hlt
        have hcell' : ∀ wx, Below w.heap.size w wx → wx.cell? ⟨b, off + i, none⟩ = some (.slice ad Ls[i].length cc) := fun wx hx => (hx.cell (p := ⟨b, off + i, none⟩) hbl).trans hcell
        have hq := hcell' wr hb
        have hfl := take_flat hlt
        have hll : (Ls.take (i + 1)).flatten.length ≤ 50000000000 := by
          have : (Ls.take (i + 1)).flatten.length ≤ R.length := by
            rw [HR.out]
            conv => rhs; rw [← List.take_append_drop (i + 1) Ls, List.flatten_append, List.length_append]
            omega
          omega
        rw [hfl, List.length_append] at hll
        have HF : Hid ((Ls.take (i + 1)).flatten = (Ls.take i).flatten ++ Ls[i]) := hfl
        clear hfl hc
        generalize (Ls.take i).flatten = P at *
        generalize Ls[i] = M at *
        have hiz : (i : Int) < (Ls.length : Int) := by omega
        have hi0 : (0 : Int) ≤ (i : Int) := by omega
        go_wp2_with fail
        go_loopg [3, 5] M.length (fun g2 ov kv wq => ∃ k : Nat, k + g2 = M.length ∧ kv = .int .i64 (k : Int) ∧ wq.ownsRow w.heap.size 5 1 ov (P ++ M.take k).length (octs (P ++ M.take k)) ∧ Below w.heap.size w wq)
        case atStart => exact ⟨0, by omega, rfl, by rw [List.take_zero, List.append_nil]; exact hown, hb⟩
        case round =>
          clear hown hb hq
          obtain ⟨k, hk, rfl, hown, hb⟩ := hrel
          obtain ⟨oa, oc, rfl⟩ := own_form hown
          have hq := hcell' _ hb
          by_cases hkl : k < M.length
          · rcases hby with h0 | ⟨g, of', rfl, hgl, hx⟩
            · subst h0; simp at hkl
            · have hxk : wr.cell? ⟨g, of' + k, none⟩ = some (.int .u8 (M[k] : Int)) := (hb.cell (p := ⟨g, of' + k, none⟩) hgl).trans (hx k hkl)
              have hst : P ++ M.take (k + 1) = (P ++ M.take k) ++ [M[k]] := by
                rw [List.take_add_one, List.getElem?_eq_getElem hkl, List.append_assoc]
                rfl
              have HS : Hid (P ++ M.take (k + 1) = (P ++ M.take k) ++ [M[k]]) := hst
              have hlk : (P ++ M.take k).length ≤ 50000000000 := by rw [List.length_append, List.length_take]; omega
              clear hst hx
              generalize M[k] = x at *
              generalize P ++ M.take k = Q at *
              have hkz : (k : Int) < (M.length : Int) := by omega
              have hk0 : (0 : Int) ≤ (k : Int) := by omega
              have hN : SrcB (wr.alloc (.cells #[.int .u8 (x : Int)] 5)) (some ⟨wr.heap.size, 0, none⟩) 1 [x] := .inr ⟨_, rfl, World.news_of_block (cs := #[.int .u8 (x : Int)]) (t := 5) (fr := (0, 0)) (heap_alloc_new wr (.cells #[.int .u8 (x : Int)] 5))⟩
              have hz := hb.size
              go_wp2_with (at_builtin; refine wpList_append_bytes rfl _ _ rfl w.heap.size (by simp; omega) (.slice oa Q.length oc) Q.length (octs Q) rfl (hown.alloc _) (some ⟨wr.heap.size, 0, none⟩) 1 [x] rfl hN (by simp; omega) ?_; intro v1 w1 hown1 hgr1 hmv1)
              rw [← octs_append, show Q.length + [x].length = (Q ++ [x]).length by simp, ← HS.out] at hown1
              have hb1 : Below w.heap.size w w1 := (hb.alloc hz _).grown hgr1 (by simp; omega) (fun k e => (hown.lt k e).1)
              go_roundg (M.length - k - 1)
              case measure => omega
              case rel => exact ⟨k + 1, by omega, by go_num, hown1, hb1⟩
          · have hkz : ¬ (k : Int) < (M.length : Int) := by omega
            have HQ : Hid (P ++ M.take k = (Ls.take (i + 1)).flatten) := by show _ = _; rw [HF.out, List.take_of_length_le (by omega)]
            generalize P ++ M.take k = Q at *
            go_wp2_with fail
            go_roundg (Ls.length - i - 1)
            case measure => omega
            case rel => exact ⟨i + 1, by omega, by go_num, by rw [← HQ.out]; exact hown, hb⟩
    · have hiz : ¬ (i : Int) < (Ls.length : Int) := by omega
      have HQ : Hid ((Ls.take i).flatten = R) := by show _ = _; rw [HR.out, List.take_of_length_le (by omega)]
      generalize (Ls.take i).flatten = Q at *
      go_wp2_with fail
      go_ret
      exact ⟨_, rfl, by rw [← HQ.out]; exact hown, hb⟩

end Go.Proofs.YtknjnfknalfbdaaDoor
