/-
  Walks: tape.cut, tape.Sync, tape.Crash.
-/
import Derived.Test.YtknjnfknalfbdaaDoorTapeMem
namespace Go.Proofs.YtknjnfknalfbdaaDoor
open Go.RowKit Go.Lib

/-- P4.3: what Sync answers -/
def syncT (l : List Nat) (s : Int) : List Nat × Int × Int := if tapeOk l.length s then (l, (l.length : Int), 0) else ([], 0, 9)
/-- P4.4: what Crash answers -/
def crashT (l : List Nat) (s : Int) (k : Int) : List Nat × Int × Int :=
  if tapeOk l.length s then (if k < 0 then ([], 0, 2) else (l.take (s + min k ((l.length : Int) - s)).toNat, s + min k ((l.length : Int) - s), 0)) else ([], 0, 9)

theorem tape_own_zero (w : World) (B : Nat) : w.ownsRow B 5 1 (.slice none 0 0) ([] : List Nat).length (octs []) := World.ownsRow_nil _ _ _ _

theorem tape_store {w : World} {k : Nat} {x y x' y' : Value} (h : w.heap[k]? = some (.cells #[x', y'] 80 (0, 0))) :
    ((w.setCell ⟨k, 0, none⟩ x).setCell ⟨k, 1, none⟩ y).heap[k]? = some (.cells #[x, y] 80 (0, 0)) ∧ Chg (fun j => j = k) w ((w.setCell ⟨k, 0, none⟩ x).setCell ⟨k, 1, none⟩ y) := by
  have := puts_all h [x, y] rfl
  simp only [puts, Nat.zero_add] at this
  exact this

theorem tp_keep {b : Nat} {x y : Value} {w' : World} (h : (fun w' => w'.cell? ⟨b, 0, none⟩ = some x ∧ w'.cell? ⟨b, 1, none⟩ = some y) w') (u v : Value) : (fun w' => w'.cell? ⟨b, 0, none⟩ = some x ∧ w'.cell? ⟨b, 1, none⟩ = some y) ((w'.setCell ⟨b + 1, 0, none⟩ u).setCell ⟨b + 1, 1, none⟩ v) := by
  have hc : ∀ j, ((w'.setCell ⟨b + 1, 0, none⟩ u).setCell ⟨b + 1, 1, none⟩ v).cell? ⟨b, j, none⟩ = w'.cell? ⟨b, j, none⟩ := fun j => World.cell?_of_block (a := ⟨b, j, none⟩) (by
    show ((w'.setCell ⟨b + 1, 0, none⟩ u).setCell ⟨b + 1, 1, none⟩ v).heap[b]? = w'.heap[b]?
    have hn : b ≠ b + 1 := by omega
    rw [Below.heap_setCell _ _ _ _ hn, Below.heap_setCell _ _ _ _ hn])
  exact ⟨(hc 0).trans h.1, (hc 1).trans h.2⟩
theorem tp_below {b : Nat} {x y : Value} {w' w'' : World} (h : (fun w' => w'.cell? ⟨b, 0, none⟩ = some x ∧ w'.cell? ⟨b, 1, none⟩ = some y) w') (hb : Below w'.heap.size w' w'') : (fun w' => w'.cell? ⟨b, 0, none⟩ = some x ∧ w'.cell? ⟨b, 1, none⟩ = some y) w'' :=
  ⟨(hb.cell (p := ⟨b, 0, none⟩) (World.block_lt_of_cell? w' _ h.1)).trans h.1, (hb.cell (p := ⟨b, 1, none⟩) (World.block_lt_of_cell? w' _ h.2)).trans h.2⟩
theorem tp_alloc {b : Nat} {x y : Value} {w' : World} (h : (fun w' => w'.cell? ⟨b, 0, none⟩ = some x ∧ w'.cell? ⟨b, 1, none⟩ = some y) w') (o : Obj) : (fun w' => w'.cell? ⟨b, 0, none⟩ = some x ∧ w'.cell? ⟨b, 1, none⟩ = some y) (w'.alloc o) := tp_below h ((Below.refl _ _).alloc (Nat.le_refl _) o)
theorem tp_alloc_drew {b : Nat} {x y : Value} {w' : World} (h : (fun w' => w'.cell? ⟨b, 0, none⟩ = some x ∧ w'.cell? ⟨b, 1, none⟩ = some y) w'.drew) (o : Obj) : (fun w' => w'.cell? ⟨b, 0, none⟩ = some x ∧ w'.cell? ⟨b, 1, none⟩ = some y) (w'.alloc o).drew := tp_alloc (w' := w') h o
theorem tp_of {b : Nat} {x y : Value} {w : World} {T : TypeId} (h : w.heap[b]? = some (.cells #[x, y] T (0, 0))) : (fun w' => w'.cell? ⟨b, 0, none⟩ = some x ∧ w'.cell? ⟨b, 1, none⟩ = some y) w.drew := by
  obtain ⟨q, _, _⟩ := blk h
  exact ⟨(q 0).trans rfl, (q 1).trans rfl⟩
theorem below_drew (w : World) : Below w.heap.size w w.drew := ⟨rfl, rfl, rfl, Nat.le_refl _, fun _ _ => rfl⟩

set_option maxRecDepth 100000 in
set_option maxHeartbeats 1000000 in
theorem tcut_any (l : List Nat) (a : Option Addr) (c n : Nat) (y : Int) (w : World) (h : BArg w a c l) (hn : n ≤ l.length) (hl : n ≤ 140737488351232) :
    Calls Tryd.prog 90 #[.slice a l.length c, .int .i64 (n : Int), .int .i64 y] w fun r w' => ∃ v, r = .returned (.agg #[v, .int .i64 y]) ∧ w'.ownsRow w.heap.size 5 1 v (l.take n).length (octs (l.take n)) ∧ Below w.heap.size w w' := by
  have hb0 := (Below.refl w.heap.size w).alloc (Nat.le_refl _) (.cells #[.slice none 0 0, .int .i64 0] 80)
  have hres := heap_alloc_new w (.cells #[.slice none 0 0, .int .i64 0] 80)
  have hcut := cut_hm a l.length c n hn h.cap (n : Int) rfl
  have hln : (l.take n).length = n := by rw [List.length_take]; omega
  have cC := clone_any (l.take n) a n _ ((h.take n hn).below hb0) (by omega)
  rw [hln] at cC
  rw [hln]
  generalize l.take n = M at *
  clear h hln
  have hn0 : (0 : Int) ≤ (n : Int) := by omega
  obtain ⟨q0, ql0, qf0⟩ := blk hres
  go_enter Tryd.func90, Tryd.ntmps90
  go_wp2_with fail
  refine cC.mono ?_
  generalize (w.alloc (.cells #[.slice none 0 0, .int .i64 0] 80)) = w0 at *
  rintro r w1 ⟨v, rfl, hown, hb1⟩
  obtain ⟨va, vc, rfl⟩ := own_form hown
  have hres1 := (hb1.block _ ql0).trans hres
  have HB1 := below_two hb0 hb1 (Nat.le_refl _)
  obtain ⟨hfin, hch⟩ := tape_store hres1 (x := .slice va n vc) (y := .int .i64 y)
  have hown2 := own_chg hown hch (fun k hk e => row_ne hown hres1 (by decide) (by rw [← e]; exact hk.symm))
  have hB0 := hb0.size
  clear q0 qf0 cC
  obtain ⟨q0, ql1, qf0⟩ := blk hres1
  go_wp2_with fail
  generalize ((w1.setCell ⟨w.heap.size, 0, none⟩ (.slice va n vc)).setCell ⟨w.heap.size, 1, none⟩ (.int .i64 y)) = w9 at *
  obtain ⟨t0, _, _⟩ := blk hfin
  refine bodyPost_ret (v := .agg #[.slice va n vc, .int .i64 y]) (by simp [results, Tryd.results90, go_sem, t0]) rfl ⟨.slice va n vc, rfl, own_base hown2 hB0, HB1.trans (hch.below (fun i e => by omega) HB1.size)⟩

theorem tape_two (w : World) (o p : Obj) : ((w.alloc o).alloc p).heap[w.heap.size]? = some o ∧ ((w.alloc o).alloc p).heap[w.heap.size + 1]? = some p ∧ Below w.heap.size w ((w.alloc o).alloc p) ∧ ((w.alloc o).alloc p).heap.size = w.heap.size + 2 := by
  have hb1 := (Below.refl w.heap.size w).alloc (Nat.le_refl _) o
  have h2 := heap_alloc_new (w.alloc o) p
  rw [show (w.alloc o).heap.size = w.heap.size + 1 by simp] at h2
  exact ⟨row_old (heap_alloc_new w o) p, h2, hb1.alloc hb1.size p, by simp⟩

set_option maxRecDepth 100000 in
set_option maxHeartbeats 1000000 in
theorem sync_any (l : List Nat) (a : Option Addr) (c : Nat) (s : Int) (w : World) (h : BArg w a c l) (hl : l.length ≤ 140737488351232) :
    Calls Tryd.prog 52 #[.agg #[.slice a l.length c, .int .i64 s]] w fun r w' => ∃ v, r = .returned (.tuple #[.agg #[v, .int .i64 (syncT l s).2.1], .int .i64 (syncT l s).2.2]) ∧ w'.ownsRow w.heap.size 5 1 v (syncT l s).1.length (octs (syncT l s).1) ∧ Below w.heap.size w w' := by
  obtain ⟨hpar, hres, HB0, hz⟩ := tape_two w (.cells #[.slice a l.length c, .int .i64 s] 80) (.cells #[.slice none 0 0, .int .i64 0] 80)
  have cM := mayBe_any l.length s a c ((w.alloc (.cells #[.slice a l.length c, .int .i64 s] 80)).alloc (.cells #[.slice none 0 0, .int .i64 0] 80)) (by omega)
  have hz1 : w.heap.size < ((w.alloc (.cells #[.slice a l.length c, .int .i64 s] 80)).alloc (.cells #[.slice none 0 0, .int .i64 0] 80)).heap.size := by omega
  have hz2 : w.heap.size + 1 < ((w.alloc (.cells #[.slice a l.length c, .int .i64 s] 80)).alloc (.cells #[.slice none 0 0, .int .i64 0] 80)).heap.size := by omega
  have hzb : w.heap.size ≤ ((w.alloc (.cells #[.slice a l.length c, .int .i64 s] 80)).alloc (.cells #[.slice none 0 0, .int .i64 0] 80)).heap.size := by omega
  clear hz
  by_cases hok : tapeOk l.length s
  · have hR : syncT l s = (l, (l.length : Int), 0) := by unfold syncT; rw [if_pos hok]
    rw [hR, ]
    rw [decide_eq_true hok] at cM
    clear hR hok
    have hh := h.below HB0
    obtain ⟨q0, _, _⟩ := blk hpar
    go_enter Tryd.func52, Tryd.ntmps52
    go_wp2_with fail
    refine cM.mono ?_
    generalize ((w.alloc (.cells #[.slice a l.length c, .int .i64 s] 80)).alloc (.cells #[.slice none 0 0, .int .i64 0] 80)) = w0 at *
    rintro r w1 ⟨rfl, hb1⟩
    have HB1 := below_two HB0 hb1 (Nat.le_refl _)
    have hpar1 := (hb1.block _ hz1).trans hpar
    have hres1 := (hb1.block _ hz2).trans hres
    have cC := tcut_any l a c l.length (l.length : Int) w1 (hh.below hb1) (Nat.le_refl _) hl
    rw [List.take_length] at cC
    clear cM q0 hpar hres hh h
    obtain ⟨q0, _, _⟩ := blk hpar1
    obtain ⟨q1, ql1, qf1⟩ := blk hres1
    go_wp2_with fail
    refine cC.mono ?_
    rintro r w2 ⟨v, rfl, hown, hb2⟩
    obtain ⟨va, vc, rfl⟩ := own_form hown
    have HB2 := below_two HB1 hb2 (Nat.le_refl _)
    have hres2 := (hb2.block _ ql1).trans hres1
    obtain ⟨hfin, hch⟩ := tape_store hres2 (x := .slice va l.length vc) (y := .int .i64 (l.length : Int))
    have hown2 := own_chg hown hch (fun k hk e => row_ne hown hres2 (by decide) (by rw [← e]; exact hk.symm))
    have hB1 := HB1.size
    clear q0 q1 qf1 cC hpar1
    obtain ⟨q1, ql2, qf1⟩ := blk hres2
    go_wp2_with fail
    generalize ((w2.setCell ⟨w.heap.size + 1, 0, none⟩ (.slice va l.length vc)).setCell ⟨w.heap.size + 1, 1, none⟩ (.int .i64 (l.length : Int))) = w9 at *
    obtain ⟨t0, _, _⟩ := blk hfin
    refine bodyPost_ret (v := .tuple #[.agg #[.slice va l.length vc, .int .i64 (l.length : Int)], .int .i64 0]) (by simp [results, Tryd.results52, go_sem, t0]) rfl ⟨.slice va l.length vc, rfl, own_base hown2 hB1, HB2.trans (hch.below (fun i e => by omega) HB2.size)⟩
  · have hR : syncT l s = ([], 0, 9) := by unfold syncT; rw [if_neg hok]
    rw [hR]
    rw [decide_eq_false hok] at cM
    clear hR hok h
    obtain ⟨q0, _, _⟩ := blk hpar
    go_enter Tryd.func52, Tryd.ntmps52
    go_wp2_with fail
    refine cM.mono ?_
    generalize ((w.alloc (.cells #[.slice a l.length c, .int .i64 s] 80)).alloc (.cells #[.slice none 0 0, .int .i64 0] 80)) = w0 at *
    rintro r w1 ⟨rfl, hb1⟩
    have HB1 := below_two HB0 hb1 (Nat.le_refl _)
    have hres1 := (hb1.block _ hz2).trans hres
    obtain ⟨hfin, hch⟩ := tape_store hres1 (x := .slice none 0 0) (y := .int .i64 0)
    clear cM q0 hpar hres
    obtain ⟨q1, ql1, qf1⟩ := blk hres1
    go_wp2_with fail
    generalize ((w1.setCell ⟨w.heap.size + 1, 0, none⟩ (.slice none 0 0)).setCell ⟨w.heap.size + 1, 1, none⟩ (.int .i64 0)) = w9 at *
    obtain ⟨t0, _, _⟩ := blk hfin
    refine bodyPost_ret (v := .tuple #[.agg #[.slice none 0 0, .int .i64 0], .int .i64 9]) (by simp [results, Tryd.results52, go_sem, t0]) rfl ⟨.slice none 0 0, rfl, tape_own_zero _ _, HB1.trans (hch.below (fun i e => by omega) HB1.size)⟩

set_option maxRecDepth 100000 in
set_option maxHeartbeats 1000000 in
theorem crash_any (l : List Nat) (a : Option Addr) (c : Nat) (s k : Int) (w : World) (h : BArg w a c l) (hl : l.length ≤ 140737488351232) (hk : -9223372036854775808 ≤ k ∧ k ≤ 9223372036854775807) :
    Calls Tryd.prog 53 #[.agg #[.slice a l.length c, .int .i64 s], .int .i64 k] w fun r w' => ∃ v, r = .returned (.tuple #[.agg #[v, .int .i64 (crashT l s k).2.1], .int .i64 (crashT l s k).2.2]) ∧ w'.ownsRow w.heap.size 5 1 v (crashT l s k).1.length (octs (crashT l s k).1) ∧ Below w.heap.size w w' := by
  obtain ⟨hpar, hres, HB0, hz⟩ := tape_two w (.cells #[.slice a l.length c, .int .i64 s] 80) (.cells #[.slice none 0 0, .int .i64 0] 80)
  have cM := mayBe_any l.length s a c ((w.alloc (.cells #[.slice a l.length c, .int .i64 s] 80)).alloc (.cells #[.slice none 0 0, .int .i64 0] 80)) (by omega)
  have hz1 : w.heap.size < ((w.alloc (.cells #[.slice a l.length c, .int .i64 s] 80)).alloc (.cells #[.slice none 0 0, .int .i64 0] 80)).heap.size := by omega
  have hz2 : w.heap.size + 1 < ((w.alloc (.cells #[.slice a l.length c, .int .i64 s] 80)).alloc (.cells #[.slice none 0 0, .int .i64 0] 80)).heap.size := by omega
  have hzb : w.heap.size ≤ ((w.alloc (.cells #[.slice a l.length c, .int .i64 s] 80)).alloc (.cells #[.slice none 0 0, .int .i64 0] 80)).heap.size := by omega
  clear hz
  by_cases hok : tapeOk l.length s
  · by_cases hk0 : k < 0
    · have hR : crashT l s k = ([], 0, 2) := by unfold crashT; rw [if_pos hok, if_pos hk0]
      rw [hR]
      rw [decide_eq_true hok] at cM
      clear hR hok h
      obtain ⟨q0, _, _⟩ := blk hpar
      go_enter Tryd.func53, Tryd.ntmps53
      go_wp2_with fail
      refine cM.mono ?_
      generalize ((w.alloc (.cells #[.slice a l.length c, .int .i64 s] 80)).alloc (.cells #[.slice none 0 0, .int .i64 0] 80)) = w0 at *
      rintro r w1 ⟨rfl, hb1⟩
      have HB1 := below_two HB0 hb1 (Nat.le_refl _)
      have hres1 := (hb1.block _ hz2).trans hres
      obtain ⟨hfin, hch⟩ := tape_store hres1 (x := .slice none 0 0) (y := .int .i64 0)
      clear cM q0 hpar hres
      obtain ⟨q1, ql1, qf1⟩ := blk hres1
      go_wp2_with fail
      generalize ((w1.setCell ⟨w.heap.size + 1, 0, none⟩ (.slice none 0 0)).setCell ⟨w.heap.size + 1, 1, none⟩ (.int .i64 0)) = w9 at *
      obtain ⟨t0, _, _⟩ := blk hfin
      refine bodyPost_ret (v := .tuple #[.agg #[.slice none 0 0, .int .i64 0], .int .i64 2]) (by simp [results, Tryd.results53, go_sem, t0]) rfl ⟨.slice none 0 0, rfl, tape_own_zero _ _, HB1.trans (hch.below (fun i e => by omega) HB1.size)⟩
    · have hR : crashT l s k = (l.take (s + min k ((l.length : Int) - s)).toNat, s + min k ((l.length : Int) - s), 0) := by unfold crashT; rw [if_pos hok, if_neg hk0]
      rw [hR]
      rw [decide_eq_true hok] at cM
      have hn := hok
      unfold tapeOk at hn
      obtain ⟨M, hM⟩ : ∃ M, M = s + min k ((l.length : Int) - s) := ⟨_, rfl⟩
      rw [← hM]
      have HM : Hid (M = s + min k ((l.length : Int) - s)) := hM
      have hnn : M.toNat ≤ l.length := by omega
      have hc0 : ((M.toNat : Nat) : Int) = M := by omega
      have hln : (l.take M.toNat).length = M.toNat := by rw [List.length_take]; omega
      have hs1 := hn.1
      have hs2 := hn.2.1
      have hs3 := hn.2.2
      clear hR hok hn hM
      have hh := h.below HB0
      have cC := fun (w1 : World) (hb1 : Below ((w.alloc (.cells #[.slice a l.length c, .int .i64 s] 80)).alloc (.cells #[.slice none 0 0, .int .i64 0] 80)).heap.size ((w.alloc (.cells #[.slice a l.length c, .int .i64 s] 80)).alloc (.cells #[.slice none 0 0, .int .i64 0] 80)) w1) => tcut_any l a c M.toNat M w1 (hh.below hb1) hnn (by omega)
      rw [hc0, hln] at cC
      rw [hln]
      clear hc0 hln hh
      generalize l.take M.toNat = L at *
      obtain ⟨q0, _, _⟩ := blk hpar
      go_enter Tryd.func53, Tryd.ntmps53
      go_wp2_with fail
      refine cM.mono ?_
      generalize ((w.alloc (.cells #[.slice a l.length c, .int .i64 s] 80)).alloc (.cells #[.slice none 0 0, .int .i64 0] 80)) = w0 at *
      rintro r w1 ⟨rfl, hb1⟩
      have HB1 := below_two HB0 hb1 (Nat.le_refl _)
      have hpar1 := (hb1.block _ hz1).trans hpar
      have hres1 := (hb1.block _ hz2).trans hres
      replace cC := cC w1 hb1
      clear cM q0 hpar hres h
      obtain ⟨q0, _, _⟩ := blk hpar1
      obtain ⟨q1, ql1, qf1⟩ := blk hres1
      go_wp2_with fail
      all_goals
        first
        | (have hx : s + min k ((l.length : Int) - s) = M := HM.out.symm
           rw [hx]; clear hx)
        | (have hx : s + k = M := by rw [HM.out]; omega
           rw [hx]; clear hx)
        | (have hx : s + ((l.length : Int) - s) = M := by rw [HM.out]; omega
           rw [hx]; clear hx)
        refine cC.mono ?_
        rintro r w2 ⟨v, rfl, hown, hb2⟩
        obtain ⟨va, vc, rfl⟩ := own_form hown
        have HB2 := below_two HB1 hb2 (Nat.le_refl _)
        have hres2 := (hb2.block _ ql1).trans hres1
        obtain ⟨hfin, hch⟩ := tape_store hres2 (x := .slice va M.toNat vc) (y := .int .i64 M)
        have hown2 := own_chg hown hch (fun k hk e => row_ne hown hres2 (by decide) (by rw [← e]; exact hk.symm))
        have hB1 := HB1.size
        clear q0 q1 qf1 cC hpar1
        obtain ⟨q1, ql2, qf1⟩ := blk hres2
        go_wp2_with fail
        generalize ((w2.setCell ⟨w.heap.size + 1, 0, none⟩ (.slice va M.toNat vc)).setCell ⟨w.heap.size + 1, 1, none⟩ (.int .i64 M)) = w9 at *
        obtain ⟨t0, _, _⟩ := blk hfin
        refine bodyPost_ret (v := .tuple #[.agg #[.slice va M.toNat vc, .int .i64 M], .int .i64 0]) (by simp [results, Tryd.results53, go_sem, t0]) rfl ⟨.slice va M.toNat vc, rfl, own_base hown2 hB1, HB2.trans (hch.below (fun i e => by omega) HB2.size)⟩
  · have hR : crashT l s k = ([], 0, 9) := by unfold crashT; rw [if_neg hok]
    rw [hR]
    rw [decide_eq_false hok] at cM
    clear hR hok h
    obtain ⟨q0, _, _⟩ := blk hpar
    go_enter Tryd.func53, Tryd.ntmps53
    go_wp2_with fail
    refine cM.mono ?_
    generalize ((w.alloc (.cells #[.slice a l.length c, .int .i64 s] 80)).alloc (.cells #[.slice none 0 0, .int .i64 0] 80)) = w0 at *
    rintro r w1 ⟨rfl, hb1⟩
    have HB1 := below_two HB0 hb1 (Nat.le_refl _)
    have hres1 := (hb1.block _ hz2).trans hres
    obtain ⟨hfin, hch⟩ := tape_store hres1 (x := .slice none 0 0) (y := .int .i64 0)
    clear cM q0 hpar hres
    obtain ⟨q1, ql1, qf1⟩ := blk hres1
    go_wp2_with fail
    generalize ((w1.setCell ⟨w.heap.size + 1, 0, none⟩ (.slice none 0 0)).setCell ⟨w.heap.size + 1, 1, none⟩ (.int .i64 0)) = w9 at *
    obtain ⟨t0, _, _⟩ := blk hfin
    refine bodyPost_ret (v := .tuple #[.agg #[.slice none 0 0, .int .i64 0], .int .i64 9]) (by simp [results, Tryd.results53, go_sem, t0]) rfl ⟨.slice none 0 0, rfl, tape_own_zero _ _, HB1.trans (hch.below (fun i e => by omega) HB1.size)⟩

end Go.Proofs.YtknjnfknalfbdaaDoor
