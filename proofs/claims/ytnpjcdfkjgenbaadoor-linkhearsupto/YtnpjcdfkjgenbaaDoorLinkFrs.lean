/-
  Walks: wherryref.framesCopy.
-/
import Derived.Test.YtnpjcdfkjgenbaaDoorLinkCopy
namespace Go.Proofs.YtnpjcdfkjgenbaaDoor
open Go.RowKit Go.Lib

set_option maxRecDepth 100000 in
set_option maxHeartbeats 2000000 in
theorem framesCopy_any {B : Nat} (K : List FrK) (v : Value) (w : World) (h : InK frS w B v K) (hs : ∀ x ∈ K, x.1.op.length ≤ 1048576) (hl : K.length ≤ 1048577) :
    Calls Tryd.prog 10 #[v] w fun r w' => ∃ v', r = .returned v' ∧ (∃ K', RowK frS w' w.heap.size v' K' ∧ K'.map (·.1) = K.map (·.1)) ∧ Below w.heap.size w w' := by
  obtain ⟨i0, hi0, hzz0, hzz1, hzz2⟩ := info_parts info_fr
  obtain ⟨a, c, rfl, _⟩ := h.row
  go_enter Tryd.func10, Tryd.ntmps10
  go_wp2_with fail
  go_loopg [3, 4] K.length (fun g ov iv wr => ∃ (i : Nat) (L : List FrK), i + g = K.length ∧ iv = .int .i64 (i : Int) ∧ RowK frS wr w.heap.size ov L ∧ (L.length ≤ i ∧ i ≤ L.length) ∧ Hid (L.map (·.1) = (K.take i).map (·.1)) ∧ Below w.heap.size w wr)
  case atStart => exact ⟨0, [], by omega, rfl, rowK_nil _ _ _, ⟨Nat.le_refl _, Nat.le_refl _⟩, by show _ = _; simp, Below.refl _ _⟩
  case round =>
    obtain ⟨i, L, hi, rfl, hL, hLl, HL, hb⟩ := hrel
    obtain ⟨oa, oc, rfl⟩ := own_form hL.row
    by_cases hlt : i < K.length
    · have hiz : (i : Int) < (K.length : Int) := by omega
      have hi0' : (0 : Int) ≤ (i : Int) := by omega
      obtain ⟨b, off, c', ea, hbl, _, c0, c1, c2, c3, c4⟩ := fr_get (h.below hb) hlt
      simp only [Value.slice.injEq, true_and] at ea
      obtain ⟨rfl, rfl⟩ := ea
      have hov : OpVal wr K[i].2 K[i].1.op := ((h.below hb).each K[i] (List.getElem_mem hlt)).op
      have hsm := hs K[i] (List.getElem_mem hlt)
      have cF := frameCopy_any K[i].1 K[i].2 wr hov hsm
      have HT : Hid ((K.take (i + 1)).map (·.1) = (K.take i).map (·.1) ++ [K[i].1]) := by show _ = _; rw [List.take_succ_eq_append_getElem hlt, List.map_append]; rfl
      generalize K[i] = x at *
      obtain ⟨f, u⟩ := x
      simp only at c0 c1 c2 c3 c4 hov cF HT
      obtain ⟨ua, uc, rfl, _⟩ := hov.form
      clear hs hov
      go_wp2_with fail
      refine cF.mono ?_
      rintro r w1 ⟨xu, rfl, hox, hb1⟩
      obtain ⟨xa, xc, rfl⟩ := own_form hox
      have hbA := (Below.refl w1.heap.size w1).alloc (Nat.le_refl _) (.cells #[.int .i64 f.kind, .int .i64 f.heard, .int .i64 f.epoch, .slice xa f.op.length xc, .string f.text] 28)
      have hf1 := heap_alloc_new w1 (.cells #[.int .i64 f.kind, .int .i64 f.heard, .int .i64 f.epoch, .slice xa f.op.length xc, .string f.text] 28)
      have hb2 := below_two (below_two hb hb1 (Nat.le_refl _)) hbA (Nat.le_refl _)
      have hL2 := (hL.below hb1).below hbA
      have ho2 := own_base (own_below hox hbA) hb.size
      have hrw : (w1.alloc (.cells #[.int .i64 f.kind, .int .i64 f.heard, .int .i64 f.epoch, .slice xa f.op.length xc, .string f.text] 28)).ownsRow w.heap.size 28 5 (.slice oa L.length oc) L.length (frS.all L) := hL2.row
      have hz1 := hb1.size
      have hz0 := hb.size
      obtain ⟨f0, fl0, _⟩ := blk hf1
      clear c0 c1 c2 c3 c4 cF
      have hzA : w1.heap.size + 1 ≤ (w1.alloc (.cells #[.int .i64 f.kind, .int .i64 f.heard, .int .i64 f.epoch, .slice xa f.op.length xc, .string f.text] 28)).heap.size := by simp
      go_wp2_with (at_builtin; refine wpList_append_lies _ rfl _ _ 22 rfl w.heap.size 28 i0 (.agg #[.int .i64 0, .int .i64 0, .int .i64 0, .slice none 0 0, .string .empty]) 5 64 Tryd.underlying22 hi0 hzz0 hzz1 hzz2 rfl (by decide) _ _ _ rfl (hrw.alloc _) ⟨w1.heap.size + 1, 0, none⟩ 1 1 [.int .i64 f.kind, .int .i64 f.heard, .int .i64 f.epoch, .slice xa f.op.length xc, .string f.text] rfl rfl (by have hq := World.news_of_block (cs := #[.int .i64 f.kind, .int .i64 f.heard, .int .i64 f.epoch, .slice xa f.op.length xc, .string f.text]) (t := 28) (fr := (0, 0)) (heap_alloc_new (w1.alloc (.cells #[.int .i64 f.kind, .int .i64 f.heard, .int .i64 f.epoch, .slice xa f.op.length xc, .string f.text] 28)) _); rw [show (w1.alloc (.cells #[.int .i64 f.kind, .int .i64 f.heard, .int .i64 f.epoch, .slice xa f.op.length xc, .string f.text] 28)).heap.size = w1.heap.size + 1 by simp] at hq; exact hq) (by simp [Value.oneCell']) (by decide) (by unfold maxLen; omega) (by omega) (by simp; omega) _ rfl ?_; intro g1 cap1 w3 hown3 hgr3 hat3 hlt3)
      have hL3 := RowK.app (x := ((f, Value.slice xa f.op.length xc) : FrK)) hL2 ho2 hown3 hgr3
      have hb3 : Below w.heap.size w w3 := (hb2.alloc hb2.size _).grown hgr3 (by simp; omega) (fun k e => (hrw.lt k e).1)
      go_roundg (K.length - i - 1)
      case measure => omega
      case rel => exact ⟨i + 1, _, by omega, by go_num, hL3, by simp; omega, by show _ = _; rw [HT.out, List.map_append, HL.out]; rfl, hb3⟩
    · have hiz : ¬ (i : Int) < (K.length : Int) := by omega
      have HE : Hid (L.map (·.1) = K.map (·.1)) := by show _ = _; rw [HL.out, List.take_of_length_le (by omega)]
      clear HL
      go_wp2_with fail
      go_ret
      exact ⟨_, rfl, ⟨L, hL, HE.out⟩, hb⟩

end Go.Proofs.YtnpjcdfkjgenbaaDoor
