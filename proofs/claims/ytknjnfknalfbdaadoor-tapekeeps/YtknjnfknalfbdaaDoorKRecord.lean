/-
  Walks: wherrykeep.Record, sameRecord.
-/
import Derived.Test.YtknjnfknalfbdaaDoorKOps
import Derived.Test.YtknjnfknalfbdaaDoorWireBack
import Derived.Test.YtknjnfknalfbdaaDoorBytesOpen
namespace Go.Proofs.YtknjnfknalfbdaaDoor
open Go.RowKit Go.Lib

theorem partW_length {p : Part} (h : PartW p) : (partW p).length ≤ 8 + p.text.size := by
  unfold partW
  have h1 := sev_le (n := p.kind.toNat) (by have := h.1; omega)
  have h2 := sev_le (n := p.n.toNat) (by have := h.2.1; omega)
  have h3 := sev_le (n := p.text.size) (by have := h.2.2; omega)
  rw [List.length_append]
  split
  · rw [List.length_append, sbytes_length]; omega
  · omega
theorem partsW_length : ∀ (ps : List Part) (m : Nat), (∀ p ∈ ps, PartW p ∧ p.text.size ≤ m) → (ps.flatMap partW).length ≤ ps.length * (8 + m)
  | [], _, _ => by simp
  | p :: ps, m, h => by
    rw [List.flatMap_cons, List.length_append, List.length_cons, Nat.add_mul, Nat.one_mul]
    have h1 := h p (List.mem_cons_self ..)
    have h2 := partW_length h1.1
    have h3 := partsW_length ps m (fun q hq => h q (List.mem_cons_of_mem _ hq))
    omega

/-- a record that was made of raw things -/
structure RecOk (n : Nat) (ps : List Part) : Prop where
  err : recordErr (n : Int) ps = 0
  text : ∀ p ∈ ps, p.text.size ≤ 1048576
  many : (recW n ps).length ≤ 40000

theorem recOk_epoch {k : Nat} (h : k < 1000) : RecOk (1 + k) [] := by
  refine ⟨?_, by simp, ?_⟩
  · unfold recordErr
    rw [show inN ((1 + k : Nat) : Int) = true from decide_eq_true (by omega)]
    simp
    decide +kernel
  · have hl := sev_le (n := 1 + k) (by omega)
    unfold recW
    rw [if_neg (by omega), List.append_nil]
    omega
theorem recOk_op {A : List Step} (h : StepsOk A) (hl : A.length ≤ 44) : RecOk 0 (group A) := by
  have ho := group_ok h (by omega : A.length ≤ 4000)
  have ht : ∀ p ∈ group A, p.text.size ≤ 176 := fun p hp => by have := group_txt A p hp; omega
  have ht2 : ∀ p ∈ group A, p.text.size ≤ 1048576 := fun p hp => by have := ht p hp; omega
  refine ⟨?_, ht2, ?_⟩
  · unfold recordErr
    rw [show inN ((0 : Nat) : Int) = true from rfl]
    simp
    exact ho.err
  · obtain ⟨h1, h2⟩ := opErr_parts ho.err ht2
    have h3 := partsW_length (group A) 176 (fun p hp => ⟨h2 p hp, ht p hp⟩)
    have h4 := group_len A
    have h5 := sev_le (n := (group A).length) (by omega)
    have h6 := sev_le (n := 0) (by omega)
    unfold recW opW
    rw [if_pos rfl, List.length_append, List.length_append]
    omega

theorem raw_cells {w : World} {b : Nat} {x0 x1 x2 x3 x4 : Value} (h : w.heap[b]? = some (.cells #[x0, x1, x2, x3, x4] 63 (0, 0))) : w.cell? ⟨b, 0, none⟩ = some x0 ∧ w.cell? ⟨b, 1, none⟩ = some x1 ∧ w.cell? ⟨b, 2, none⟩ = some x2 ∧ w.cell? ⟨b, 3, none⟩ = some x3 ∧ w.cell? ⟨b, 4, none⟩ = some x4 :=
  ⟨by rw [cell_of_row _ _ _ _ _ _ h]; rfl, by rw [cell_of_row _ _ _ _ _ _ h]; rfl, by rw [cell_of_row _ _ _ _ _ _ h]; rfl, by rw [cell_of_row _ _ _ _ _ _ h]; rfl, by rw [cell_of_row _ _ _ _ _ _ h]; rfl⟩

set_option maxRecDepth 100000 in
set_option maxHeartbeats 1000000 in
theorem krecord_any (r : RawV) (rs : List RawV) (a : Option Addr) (cap : Nat) (w : World) (hk : RawOk r) (hr : RawsAt w a rs) (hok : ∀ r ∈ rs, RawOk r) (hlen : rs.length ≤ 9223372036854775807) :
    Calls Tryd.prog 55 #[.agg #[.int .i64 r.kind, .int .i64 r.a, .int .i64 r.b, .int .i64 r.c, .string r.text], .slice a rs.length cap] w fun e w' => ∃ (n : Nat) (v : Value) (ps : List Part), e = .returned (.agg #[.int .i64 (n : Int), v]) ∧ w'.ownsRow w.heap.size 33 3 v ps.length (partCells ps) ∧ RecOk n ps ∧ Below w.heap.size w w' := by
  have hb1 := (Below.refl w.heap.size w).alloc (Nat.le_refl _) (.cells #[.int .i64 r.kind, .int .i64 r.a, .int .i64 r.b, .int .i64 r.c, .string r.text] 63)
  have hraw := row_old (heap_alloc_new w (.cells #[.int .i64 r.kind, .int .i64 r.a, .int .i64 r.b, .int .i64 r.c, .string r.text] 63)) (.cells #[.int .i64 0, .slice none 0 0] 74)
  have hres := heap_alloc_new (w.alloc (.cells #[.int .i64 r.kind, .int .i64 r.a, .int .i64 r.b, .int .i64 r.c, .string r.text] 63)) (.cells #[.int .i64 0, .slice none 0 0] 74)
  rw [show (w.alloc (.cells #[.int .i64 r.kind, .int .i64 r.a, .int .i64 r.b, .int .i64 r.c, .string r.text] 63)).heap.size = w.heap.size + 1 by simp] at hres
  have HB0 := hb1.alloc hb1.size (.cells #[.int .i64 0, .slice none 0 0] 74)
  obtain ⟨k0, k1, k2, k3, k4⟩ := raw_cells hraw
  obtain ⟨⟨r0, r1⟩, rl, rf0, rf1⟩ := rec_cells hres
  have hp3 := pick_lt r.kind 3 (by omega)
  have cP := picked_same r.kind 3 ((w.alloc (.cells #[.int .i64 r.kind, .int .i64 r.a, .int .i64 r.b, .int .i64 r.c, .string r.text] 63)).alloc (.cells #[.int .i64 0, .slice none 0 0] 74)) hk.kind (by omega) (by omega)
  clear hb1
  have hz0 : ((w.alloc (.cells #[.int .i64 r.kind, .int .i64 r.a, .int .i64 r.b, .int .i64 r.c, .string r.text] 63)).alloc (.cells #[.int .i64 0, .slice none 0 0] 74)).heap.size = w.heap.size + 2 := by simp
  go_enter Tryd.func55, Tryd.ntmps55
  go_wp2_with fail
  refine cP.mono ?_
  rintro e w1 ⟨rfl, rfl⟩
  clear cP
  generalize ((w.alloc (.cells #[.int .i64 r.kind, .int .i64 r.a, .int .i64 r.b, .int .i64 r.c, .string r.text] 63)).alloc (.cells #[.int .i64 0, .slice none 0 0] 74)) = w0 at *
  generalize pick r.kind 3 = p at *
  by_cases h0 : p = 0
  · subst h0
    have hp := pick_lt r.a 1000 (by omega)
    have cQ := picked_same r.a 1000 w0 hk.a (by omega) (by omega)
    go_wp2_with fail
    refine cQ.mono ?_
    rintro e w2 ⟨rfl, rfl⟩
    generalize pick r.a 1000 = k at *
    obtain ⟨hfin, hch⟩ := rec_store hres (x := .int .i64 (1 + (k : Int))) (y := .slice none 0 0)
    have HB2 := HB0.trans (hch.below (fun i e => by omega) HB0.size)
    clear cQ
    go_wp2_with fail
    generalize ((w2.setCell ⟨w.heap.size + 1, 0, none⟩ (.int .i64 (1 + (k : Int)))).setCell ⟨w.heap.size + 1, 1, none⟩ (.slice none 0 0)) = w9 at *
    obtain ⟨⟨t0, t1⟩, _⟩ := rec_cells hfin
    refine bodyPost_ret (v := .agg #[.int .i64 (1 + (k : Int)), .slice none 0 0]) (by simp [results, Tryd.results55, go_sem, t0, t1]) rfl ⟨1 + k, .slice none 0 0, [], ?_, World.ownsRow_nil _ _ _ _, recOk_epoch (by omega), HB2⟩
    rw [show ((1 + k : Nat) : Int) = 1 + (k : Int) by omega]
  · have g0 : ((p : Int) == 0) = false := by simp; omega
    have hp := pick_lt r.c 20 (by omega)
    have cQ := picked_same r.c 20 w0 hk.c (by omega) (by omega)
    go_wp2_with fail
    refine cQ.mono ?_
    rintro e w2 ⟨rfl, rfl⟩
    generalize pick r.c 20 = k at *
    have cO := opCall k rs a cap w2 (hr.below HB0 (Nat.le_refl _)) hok hlen (by omega)
    clear cQ
    go_wp2_with fail
    refine cO.mono ?_
    rintro e w3 ⟨v, A, rfl, oA, eA, nA, hb3, _⟩
    obtain ⟨va, vc, rfl⟩ := own_form oA.own
    have hres3 := (hb3.block _ (by omega)).trans hres
    have HB3 := below_two HB0 hb3 (Nat.le_refl _)
    clear cO r0 r1 rl rf0 rf1 hres
    obtain ⟨⟨r0, r1⟩, rl, rf0, rf1⟩ := rec_cells hres3
    obtain ⟨hfin, hch⟩ := rec_store hres3 (x := .int .i64 0) (y := .slice va (group A).length vc)
    have HB4 := HB3.trans (hch.below (fun i e => by omega) HB3.size)
    have hown4 := own_base (own_chg oA.own hch (fun i hi e => row_ne oA.own hres3 (by decide) (by rw [← e]; exact hi.symm))) (show w.heap.size ≤ w2.heap.size by omega)
    have hA := recOk_op oA.ok (by omega)
    generalize group A = ps at *
    clear oA
    go_wp2_with fail
    generalize ((w3.setCell ⟨w.heap.size + 1, 0, none⟩ (.int .i64 0)).setCell ⟨w.heap.size + 1, 1, none⟩ (.slice va ps.length vc)) = w9 at *
    obtain ⟨⟨t0, t1⟩, _⟩ := rec_cells hfin
    exact bodyPost_ret (v := .agg #[.int .i64 0, .slice va ps.length vc]) (by simp [results, Tryd.results55, go_sem, t0, t1]) rfl ⟨0, .slice va ps.length vc, ps, rfl, hown4, hA, HB4⟩

set_option maxRecDepth 100000 in
set_option maxHeartbeats 1000000 in
theorem sameRecord_true (n : Int) (ps : List Part) (a b : Option Addr) (c d : Nat) (w : World) (ha : OpAt w a ps) (hb : OpAt w b ps) (hn : ps.length ≤ 10000) :
    Calls Tryd.prog 56 #[.agg #[.int .i64 n, .slice a ps.length c], .agg #[.int .i64 n, .slice b ps.length d]] w fun e w' => e = .returned (.bool true) ∧ Below w.heap.size w w' := by
  have hb1 := (Below.refl w.heap.size w).alloc (Nat.le_refl _) (.cells #[.int .i64 n, .slice a ps.length c] 74)
  have hp := row_old (heap_alloc_new w (.cells #[.int .i64 n, .slice a ps.length c] 74)) (.cells #[.int .i64 n, .slice b ps.length d] 74)
  have hq := heap_alloc_new (w.alloc (.cells #[.int .i64 n, .slice a ps.length c] 74)) (.cells #[.int .i64 n, .slice b ps.length d] 74)
  rw [show (w.alloc (.cells #[.int .i64 n, .slice a ps.length c] 74)).heap.size = w.heap.size + 1 by simp] at hq
  have HB := hb1.alloc hb1.size (.cells #[.int .i64 n, .slice b ps.length d] 74)
  obtain ⟨⟨p0, p1⟩, _⟩ := rec_cells hp
  obtain ⟨⟨q0, q1⟩, _⟩ := rec_cells hq
  have cS := ksameOp_true ps a b c d _ (ha.below HB) (hb.below HB) (by omega)
  clear hb1 hp hq
  go_enter Tryd.func56, Tryd.ntmps56
  go_wp2_with fail
  refine cS.mono ?_
  rintro r w1 ⟨rfl, hb1⟩
  go_wp2_with fail
  go_ret
  exact ⟨by simp, below_two HB hb1 (Nat.le_refl _)⟩

end Go.Proofs.YtknjnfknalfbdaaDoor
