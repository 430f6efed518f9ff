/-
  Walks: wherryref.In, TapeMay, TapeSynced, TapeCrashed.
-/
import Derived.Test.YtknjnfknalfbdaaSTapeOps
import Derived.Test.YtknjnfknalfbdaaSJoined
namespace Go.Proofs.Ytknjnfknalfbdaa
open Go.RowKit Go.Lib

set_option maxRecDepth 100000 in
set_option maxHeartbeats 1000000 in
theorem tapeMay_any (n : Nat) (s : Int) (a : Option Addr) (c : Nat) (w : World) (hn : n ≤ 9223372036854775807) :
    Calls Try.prog 14 #[.agg #[.slice a n c, .int .i64 s]] w fun r w' => r = .returned (.bool (decide (tapeOk n s))) ∧ Below w.heap.size w w' := by
  obtain ⟨R, hR⟩ : ∃ R, R = decide (tapeOk n s) := ⟨_, rfl⟩
  rw [← hR]
  have hb0 := (Below.refl w.heap.size w).alloc (Nat.le_refl _) (.cells #[.slice a n c, .int .i64 s] 24)
  have hpb := heap_alloc_new w (.cells #[.slice a n c, .int .i64 s] 24)
  obtain ⟨q0, ql0, _⟩ := blk hpb
  have cI : ∀ (wx : World), Calls Try.prog 17 #[.int .i64 s, .int .i64 0, .int .i64 (n : Int)] wx fun r w' => r = .returned (.bool (decide (0 ≤ s ∧ s ≤ (n : Int)))) ∧ w' = wx := by
    intro wx
    obtain ⟨R, hR⟩ : ∃ R, R = decide (0 ≤ s ∧ s ≤ (n : Int)) := ⟨_, rfl⟩
    rw [← hR]
    by_cases h1 : 0 ≤ s
    · by_cases h2 : s ≤ (n : Int)
      · have HR : Hid (R = true) := by show _ = _; rw [hR]; exact decide_eq_true ⟨h1, h2⟩
        clear hR
        go_enter Try.func17, Try.ntmps17
        go_wp2_with fail
        go_ret
        exact ⟨by rw [HR.out]; simp, rfl⟩
      · have HR : Hid (R = false) := by show _ = _; rw [hR]; exact decide_eq_false (fun h => h2 h.2)
        clear hR
        go_enter Try.func17, Try.ntmps17
        go_wp2_with fail
        go_ret
        exact ⟨by rw [HR.out]; simp, rfl⟩
    · have HR : Hid (R = false) := by show _ = _; rw [hR]; exact decide_eq_false (fun h => h1 h.1)
      clear hR
      go_enter Try.func17, Try.ntmps17
      go_wp2_with fail
      go_ret
      exact ⟨by rw [HR.out]; simp, rfl⟩
  by_cases h1 : n ≤ 8388608
  · have g1 : (n : Int) ≤ 8388608 := by omega
    have HR : Hid (R = decide (0 ≤ s ∧ s ≤ (n : Int))) := by show _ = _; rw [hR]; unfold tapeOk; simp [h1]
    clear hR
    generalize decide (0 ≤ s ∧ s ≤ (n : Int)) = D at *
    go_enter Try.func14, Try.ntmps14
    go_wp2_with fail
    refine (cI _).mono ?_
    rintro r w1 ⟨rfl, rfl⟩
    go_wp2_with fail
    go_ret
    exact ⟨by rw [HR.out]; simp, hb0⟩
  · have g1 : ¬ (n : Int) ≤ 8388608 := by omega
    have HR : Hid (R = false) := by show _ = _; rw [hR]; exact decide_eq_false (fun h => h1 h.1)
    clear hR
    go_enter Try.func14, Try.ntmps14
    go_wp2_with fail
    go_ret
    exact ⟨by rw [HR.out]; simp, hb0⟩

/-- 'joined(b)' -/
theorem join1 {w : World} {L : List Nat} {a : Option Addr} {c : Nat} (h : BArg w a c L) (hl : L.length ≤ 50000000000) :
    Calls Try.prog 15 #[.slice (some ⟨w.heap.size, 0, none⟩) 1 1] (w.alloc (.cells #[.slice a L.length c] 22)) fun r w' => ∃ v, r = .returned v ∧ w'.ownsRow w.heap.size 5 1 v L.length (octs L) ∧ Below w.heap.size w w' := by
  have hb0 := (Below.refl w.heap.size w).alloc (Nat.le_refl _) (.cells #[.slice a L.length c] 22)
  have hblk := heap_alloc_new w (.cells #[.slice a L.length c] 22)
  obtain ⟨q0, ql0, _⟩ := blk hblk
  have hf : [L].flatten = L := by simp
  have cJ := joined_any [L] (some ⟨w.heap.size, 0, none⟩) 1 (w.alloc (.cells #[.slice a L.length c] 22)) (.inr ⟨w.heap.size, 0, rfl, ql0, fun i hi => by
    have : i = 0 := by simp at hi; omega
    subst this
    exact ⟨a, c, by rw [q0]; rfl, h.by_.below hb0⟩⟩) (by rw [hf]; exact hl) (by simp)
  rw [hf] at cJ
  refine cJ.mono ?_
  rintro r w1 ⟨v, rfl, hown, hb1⟩
  exact ⟨v, rfl, own_base hown hb0.size, below_two hb0 hb1 (Nat.le_refl _)⟩

set_option maxRecDepth 100000 in
set_option maxHeartbeats 1000000 in
theorem tapeSynced_any (l : List Nat) (a : Option Addr) (c : Nat) (s : Int) (w : World) (h : BArg w a c l) (hl : l.length ≤ 140737488351232) :
    Calls Try.prog 7 #[.agg #[.slice a l.length c, .int .i64 s]] w fun r w' => ∃ v, r = .returned (.tuple #[.agg #[v, .int .i64 (syncT l s).2.1], .int .i64 (syncT l s).2.2]) ∧ w'.ownsRow w.heap.size 5 1 v (syncT l s).1.length (octs (syncT l s).1) ∧ Below w.heap.size w w' := by
  obtain ⟨hpar, hres, HB0, hz⟩ := tape_two w (.cells #[.slice a l.length c, .int .i64 s] 24) (.cells #[.slice none 0 0, .int .i64 0] 24)
  have cM := tapeMay_any l.length s a c ((w.alloc (.cells #[.slice a l.length c, .int .i64 s] 24)).alloc (.cells #[.slice none 0 0, .int .i64 0] 24)) (by omega)
  have hz1 : w.heap.size < ((w.alloc (.cells #[.slice a l.length c, .int .i64 s] 24)).alloc (.cells #[.slice none 0 0, .int .i64 0] 24)).heap.size := by omega
  have hz2 : w.heap.size + 1 < ((w.alloc (.cells #[.slice a l.length c, .int .i64 s] 24)).alloc (.cells #[.slice none 0 0, .int .i64 0] 24)).heap.size := by omega
  have hzb : w.heap.size ≤ ((w.alloc (.cells #[.slice a l.length c, .int .i64 s] 24)).alloc (.cells #[.slice none 0 0, .int .i64 0] 24)).heap.size := by omega
  clear hz
  by_cases hok : tapeOk l.length s
  · have hR : syncT l s = (l, (l.length : Int), 0) := by unfold syncT; rw [if_pos hok]
    rw [hR]
    rw [decide_eq_true hok] at cM
    have hls := hok.1
    clear hR hok
    have hh := h.below HB0
    obtain ⟨q0, _, _⟩ := blk hpar
    go_enter Try.func7, Try.ntmps7
    go_wp2_with fail
    refine cM.mono ?_
    generalize ((w.alloc (.cells #[.slice a l.length c, .int .i64 s] 24)).alloc (.cells #[.slice none 0 0, .int .i64 0] 24)) = w0 at *
    rintro r w1 ⟨rfl, hb1⟩
    have HB1 := below_two HB0 hb1 (Nat.le_refl _)
    have hpar1 := (hb1.block _ hz1).trans hpar
    have hres1 := (hb1.block _ hz2).trans hres
    have HBd := below_two HB1 (below_drew w1) (Nat.le_refl _)
    have cC : Calls Try.prog 15 #[.slice (some ⟨w1.heap.size, 0, none⟩) 1 1] (w1.alloc (.cells #[.slice a l.length c] 22)).drew fun r w' => ∃ v, r = .returned v ∧ w'.ownsRow w1.drew.heap.size 5 1 v l.length (octs l) ∧ Below w1.drew.heap.size w1.drew w' := join1 ((hh.below hb1).below (below_drew w1)) (by omega)
    have hS0 := tp_of hpar1
    have hres0 : w1.drew.heap[w.heap.size + 1]? = some (.cells #[.slice none 0 0, .int .i64 0] 24 (0, 0)) := hres1
    clear cM q0 hpar hres hh h hpar1 hres1 hb1 HB1
    go_wp2_with fail
    go_region_held3 (fun w' => w'.cell? ⟨w.heap.size, 0, none⟩ = some (.slice a l.length c) ∧ w'.cell? ⟨w.heap.size, 1, none⟩ = some (.int .i64 s)) (with_reducible first | exact hS0 | assumption | exact tp_alloc_drew hS0 _ | exact tp_below hS0 hbz | exact tp_keep (by assumption) _ _) (first | (go_at_call 15; with_reducible refine Calls.mono cC ?_; rintro e wz ⟨v, rfl, hown, hbz⟩; have hof := own_form hown; obtain ⟨va, vc, rfl⟩ := hof; have hresz := (hbz.block _ (Array.getElem?_eq_some_iff.1 hres0).1).trans hres0; have hbk := blk hresz; obtain ⟨rz, rlz, rfz⟩ := hbk))
    have hresz := (hbz.block _ (Array.getElem?_eq_some_iff.1 hres0).1).trans hres0
    have HBz := below_two HBd hbz (Nat.le_refl _)
    obtain ⟨hfin, hch⟩ := tape_store hresz (x := .slice va l.length vc) (y := .int .i64 (l.length : Int))
    have hown2 := own_chg hown hch (fun k hk e => row_ne hown hresz (by decide) (by rw [← e]; exact hk.symm))
    have hB1 := HBd.size
    go_wp2_with fail
    generalize ((wz.setCell ⟨w.heap.size + 1, 0, none⟩ (.slice va l.length vc)).setCell ⟨w.heap.size + 1, 1, none⟩ (.int .i64 (l.length : Int))) = w9 at *
    obtain ⟨t0, _, _⟩ := blk hfin
    refine bodyPost_ret (v := .tuple #[.agg #[.slice va l.length vc, .int .i64 (l.length : Int)], .int .i64 0]) (by simp [results, Try.results7, go_sem, t0]) rfl ⟨.slice va l.length vc, rfl, own_base hown2 hB1, HBz.trans (hch.below (fun i e => by omega) HBz.size)⟩
  · have hR : syncT l s = ([], 0, 9) := by unfold syncT; rw [if_neg hok]
    rw [hR]
    rw [decide_eq_false hok] at cM
    clear hR hok h
    obtain ⟨q0, _, _⟩ := blk hpar
    go_enter Try.func7, Try.ntmps7
    go_wp2_with fail
    refine cM.mono ?_
    generalize ((w.alloc (.cells #[.slice a l.length c, .int .i64 s] 24)).alloc (.cells #[.slice none 0 0, .int .i64 0] 24)) = w0 at *
    rintro r w1 ⟨rfl, hb1⟩
    have HB1 := below_two HB0 hb1 (Nat.le_refl _)
    have hres1 := (hb1.block _ hz2).trans hres
    obtain ⟨hfin, hch⟩ := tape_store hres1 (x := .slice none 0 0) (y := .int .i64 0)
    clear cM q0 hpar hres
    obtain ⟨q1, ql1, qf1⟩ := blk hres1
    go_wp2_with fail
    generalize ((w1.setCell ⟨w.heap.size + 1, 0, none⟩ (.slice none 0 0)).setCell ⟨w.heap.size + 1, 1, none⟩ (.int .i64 0)) = w9 at *
    obtain ⟨t0, _, _⟩ := blk hfin
    refine bodyPost_ret (v := .tuple #[.agg #[.slice none 0 0, .int .i64 0], .int .i64 9]) (by simp [results, Try.results7, go_sem, t0]) rfl ⟨.slice none 0 0, rfl, tape_own_zero _ _, HB1.trans (hch.below (fun i e => by omega) HB1.size)⟩

set_option maxRecDepth 100000 in
set_option maxHeartbeats 1000000 in
theorem tapeCrashed_any (l : List Nat) (a : Option Addr) (c : Nat) (s k : Int) (w : World) (h : BArg w a c l) (hl : l.length ≤ 140737488351232) (hk : -9223372036854775808 ≤ k ∧ k ≤ 9223372036854775807) :
    Calls Try.prog 10 #[.agg #[.slice a l.length c, .int .i64 s], .int .i64 k] w fun r w' => ∃ v, r = .returned (.tuple #[.agg #[v, .int .i64 (crashT l s k).2.1], .int .i64 (crashT l s k).2.2]) ∧ w'.ownsRow w.heap.size 5 1 v (crashT l s k).1.length (octs (crashT l s k).1) ∧ Below w.heap.size w w' := by
  obtain ⟨hpar, hres, HB0, hz⟩ := tape_two w (.cells #[.slice a l.length c, .int .i64 s] 24) (.cells #[.slice none 0 0, .int .i64 0] 24)
  have cM := tapeMay_any l.length s a c ((w.alloc (.cells #[.slice a l.length c, .int .i64 s] 24)).alloc (.cells #[.slice none 0 0, .int .i64 0] 24)) (by omega)
  have hz1 : w.heap.size < ((w.alloc (.cells #[.slice a l.length c, .int .i64 s] 24)).alloc (.cells #[.slice none 0 0, .int .i64 0] 24)).heap.size := by omega
  have hz2 : w.heap.size + 1 < ((w.alloc (.cells #[.slice a l.length c, .int .i64 s] 24)).alloc (.cells #[.slice none 0 0, .int .i64 0] 24)).heap.size := by omega
  have hzb : w.heap.size ≤ ((w.alloc (.cells #[.slice a l.length c, .int .i64 s] 24)).alloc (.cells #[.slice none 0 0, .int .i64 0] 24)).heap.size := by omega
  clear hz
  by_cases hok : tapeOk l.length s
  · by_cases hk0 : k < 0
    · have hR : crashT l s k = ([], 0, 2) := by unfold crashT; rw [if_pos hok, if_pos hk0]
      rw [hR]
      rw [decide_eq_true hok] at cM
      clear hR hok h
      obtain ⟨q0, _, _⟩ := blk hpar
      go_enter Try.func10, Try.ntmps10
      go_wp2_with fail
      refine cM.mono ?_
      generalize ((w.alloc (.cells #[.slice a l.length c, .int .i64 s] 24)).alloc (.cells #[.slice none 0 0, .int .i64 0] 24)) = w0 at *
      rintro r w1 ⟨rfl, hb1⟩
      have HB1 := below_two HB0 hb1 (Nat.le_refl _)
      have hres1 := (hb1.block _ hz2).trans hres
      obtain ⟨hfin, hch⟩ := tape_store hres1 (x := .slice none 0 0) (y := .int .i64 0)
      clear cM q0 hpar hres
      obtain ⟨q1, ql1, qf1⟩ := blk hres1
      go_wp2_with fail
      generalize ((w1.setCell ⟨w.heap.size + 1, 0, none⟩ (.slice none 0 0)).setCell ⟨w.heap.size + 1, 1, none⟩ (.int .i64 0)) = w9 at *
      obtain ⟨t0, _, _⟩ := blk hfin
      refine bodyPost_ret (v := .tuple #[.agg #[.slice none 0 0, .int .i64 0], .int .i64 2]) (by simp [results, Try.results10, go_sem, t0]) rfl ⟨.slice none 0 0, rfl, tape_own_zero _ _, HB1.trans (hch.below (fun i e => by omega) HB1.size)⟩
    · have hR : crashT l s k = (l.take (s + min k ((l.length : Int) - s)).toNat, s + min k ((l.length : Int) - s), 0) := by unfold crashT; rw [if_pos hok, if_neg hk0]
      rw [hR]
      rw [decide_eq_true hok] at cM
      have hn := hok
      unfold tapeOk at hn
      obtain ⟨M, hM⟩ : ∃ M : Nat, (M : Int) = s + min k ((l.length : Int) - s) := ⟨(s + min k ((l.length : Int) - s)).toNat, by omega⟩
      rw [← hM, Int.toNat_natCast]
      have HM : Hid ((M : Int) = s + min k ((l.length : Int) - s)) := hM
      have hnn : M ≤ l.length := by omega
      have hln : (l.take M).length = M := by rw [List.length_take]; omega
      have hs1 := hn.1
      have hs2 := hn.2.1
      have hs3 := hn.2.2
      have hcut := (cut_bytes a l.length c M hnn h.cap (M : Int) rfl).1
      clear hR hok hn hM
      have hh := h.below HB0
      have cC : ∀ (w1 : World) (hb1 : Below ((w.alloc (.cells #[.slice a l.length c, .int .i64 s] 24)).alloc (.cells #[.slice none 0 0, .int .i64 0] 24)).heap.size ((w.alloc (.cells #[.slice a l.length c, .int .i64 s] 24)).alloc (.cells #[.slice none 0 0, .int .i64 0] 24)) w1), Calls Try.prog 15 #[.slice (some ⟨w1.heap.size, 0, none⟩) 1 1] (w1.alloc (.cells #[.slice a M c] 22)) fun r w' => ∃ v, r = .returned v ∧ w'.ownsRow w1.heap.size 5 1 v M (octs (l.take M)) ∧ Below w1.heap.size w1 w' := fun (w1 : World) (hb1 : Below ((w.alloc (.cells #[.slice a l.length c, .int .i64 s] 24)).alloc (.cells #[.slice none 0 0, .int .i64 0] 24)).heap.size ((w.alloc (.cells #[.slice a l.length c, .int .i64 s] 24)).alloc (.cells #[.slice none 0 0, .int .i64 0] 24)) w1) => by
        have := join1 (L := l.take M) ((hh.below hb1).keep M hnn) (by omega)
        rw [hln] at this
        exact this
      rw [hln]
      clear hln hh
      generalize l.take M = L at *
      obtain ⟨q0, _, _⟩ := blk hpar
      go_enter Try.func10, Try.ntmps10
      go_wp2_with fail
      refine cM.mono ?_
      generalize ((w.alloc (.cells #[.slice a l.length c, .int .i64 s] 24)).alloc (.cells #[.slice none 0 0, .int .i64 0] 24)) = w0 at *
      rintro r w1 ⟨rfl, hb1⟩
      have HB1 := below_two HB0 hb1 (Nat.le_refl _)
      have hpar1 := (hb1.block _ hz1).trans hpar
      have hres1 := (hb1.block _ hz2).trans hres
      replace cC := cC w1 hb1
      clear cM q0 hpar hres h
      obtain ⟨q0, ql0, _⟩ := blk hpar1
      obtain ⟨q1, ql1, qf1⟩ := blk hres1
      by_cases hlt : k < (l.length : Int) - s
      · have hx : s + k = (M : Int) := by rw [HM.out]; omega
        go_wp2_with fail
        clear hx
        refine cC.mono ?_
        rintro r w2 ⟨v, rfl, hown, hb2⟩
        obtain ⟨va, vc, rfl⟩ := own_form hown
        have HB2 := below_two HB1 hb2 (Nat.le_refl _)
        have hres2 := (hb2.block _ ql1).trans hres1
        obtain ⟨hfin, hch⟩ := tape_store hres2 (x := .slice va M vc) (y := .int .i64 (M : Int))
        have hown2 := own_chg hown hch (fun k hk e => row_ne hown hres2 (by decide) (by rw [← e]; exact hk.symm))
        have hB1 := HB1.size
        clear q0 q1 qf1 cC hpar1
        obtain ⟨q1, ql2, qf1⟩ := blk hres2
        go_wp2_with fail
        generalize ((w2.setCell ⟨w.heap.size + 1, 0, none⟩ (.slice va M vc)).setCell ⟨w.heap.size + 1, 1, none⟩ (.int .i64 (M : Int))) = w9 at *
        obtain ⟨t0, _, _⟩ := blk hfin
        refine bodyPost_ret (v := .tuple #[.agg #[.slice va M vc, .int .i64 (M : Int)], .int .i64 0]) (by simp [results, Try.results10, go_sem, t0]) rfl ⟨.slice va M vc, rfl, own_base hown2 hB1, HB2.trans (hch.below (fun i e => by omega) HB2.size)⟩
      · have hx : (l.length : Int) = (M : Int) := by rw [HM.out]; omega
        go_wp2_with fail
        clear hx
        refine cC.mono ?_
        rintro r w2 ⟨v, rfl, hown, hb2⟩
        obtain ⟨va, vc, rfl⟩ := own_form hown
        have HB2 := below_two HB1 hb2 (Nat.le_refl _)
        have hres2 := (hb2.block _ ql1).trans hres1
        obtain ⟨hfin, hch⟩ := tape_store hres2 (x := .slice va M vc) (y := .int .i64 (M : Int))
        have hown2 := own_chg hown hch (fun k hk e => row_ne hown hres2 (by decide) (by rw [← e]; exact hk.symm))
        have hB1 := HB1.size
        clear q0 q1 qf1 cC hpar1
        obtain ⟨q1, ql2, qf1⟩ := blk hres2
        go_wp2_with fail
        generalize ((w2.setCell ⟨w.heap.size + 1, 0, none⟩ (.slice va M vc)).setCell ⟨w.heap.size + 1, 1, none⟩ (.int .i64 (M : Int))) = w9 at *
        obtain ⟨t0, _, _⟩ := blk hfin
        refine bodyPost_ret (v := .tuple #[.agg #[.slice va M vc, .int .i64 (M : Int)], .int .i64 0]) (by simp [results, Try.results10, go_sem, t0]) rfl ⟨.slice va M vc, rfl, own_base hown2 hB1, HB2.trans (hch.below (fun i e => by omega) HB2.size)⟩
  · have hR : crashT l s k = ([], 0, 9) := by unfold crashT; rw [if_neg hok]
    rw [hR]
    rw [decide_eq_false hok] at cM
    clear hR hok h
    obtain ⟨q0, _, _⟩ := blk hpar
    go_enter Try.func10, Try.ntmps10
    go_wp2_with fail
    refine cM.mono ?_
    generalize ((w.alloc (.cells #[.slice a l.length c, .int .i64 s] 24)).alloc (.cells #[.slice none 0 0, .int .i64 0] 24)) = w0 at *
    rintro r w1 ⟨rfl, hb1⟩
    have HB1 := below_two HB0 hb1 (Nat.le_refl _)
    have hres1 := (hb1.block _ hz2).trans hres
    obtain ⟨hfin, hch⟩ := tape_store hres1 (x := .slice none 0 0) (y := .int .i64 0)
    clear cM q0 hpar hres
    obtain ⟨q1, ql1, qf1⟩ := blk hres1
    go_wp2_with fail
    generalize ((w1.setCell ⟨w.heap.size + 1, 0, none⟩ (.slice none 0 0)).setCell ⟨w.heap.size + 1, 1, none⟩ (.int .i64 0)) = w9 at *
    obtain ⟨t0, _, _⟩ := blk hfin
    refine bodyPost_ret (v := .tuple #[.agg #[.slice none 0 0, .int .i64 0], .int .i64 9]) (by simp [results, Try.results10, go_sem, t0]) rfl ⟨.slice none 0 0, rfl, tape_own_zero _ _, HB1.trans (hch.below (fun i e => by omega) HB1.size)⟩

end Go.Proofs.Ytknjnfknalfbdaa
