/-
  Walk: wire.DecodeRecord.
-/
import Derived.Test.YtknjnfknalfbdaaDoorWireRec
import Derived.Test.YtknjnfknalfbdaaDoorWirePacket
namespace Go.Proofs.YtknjnfknalfbdaaDoor
open Go.RowKit Go.Lib

/-- bytes in memory -/
def Bytes (w : World) (a : Option Addr) (l : List Nat) : Prop := l = [] ∨ ∃ g off, a = some ⟨g, off, none⟩ ∧ g < w.heap.size ∧ ∀ i (h : i < l.length), w.cell? ⟨g, off + i, none⟩ = some (.int .u8 (l[i] : Int))
/-- P3.7: what is wrong with the bytes of a record -/
def recFault (l : List Nat) : Int := if 50000 < l.length then 1 else if endE (rest (recP l)) ≠ 0 then endE (rest (recP l)) else match recP l with
  | .ok x => recordErr x.1.1 x.1.2
  | .error e => e
/-- the record -/
def recOf (l : List Nat) : Nat × List Part := if recFault l ≠ 0 then (0, []) else match recP l with
  | .ok x => x.1
  | .error _ => (0, [])

theorem endE_zero {α : Type} {w : World} {B b : Nat} {P : Except Int (α × List Nat)} (hst : RdSt w B b (rest P)) (h : endE (rest P) = 0) : ∃ x, P = .ok (x, []) := by
  cases P with
  | error e =>
    cases hst with
    | bad he _ => exact absurd h he
  | ok y =>
    obtain ⟨x, l⟩ := y
    cases l with
    | nil => exact ⟨x, rfl⟩
    | cons z l => exact absurd h (show (4 : Int) ≠ 0 by decide)

set_option maxRecDepth 100000 in
set_option maxHeartbeats 2000000 in
theorem decR_any (l : List Nat) (a : Option Addr) (c : Nat) (w : World) (hb : Bytes w a l) (hl : ∀ x ∈ l, x < 256) (hc : l.length ≤ c) (hT : Tabs w) :
    Calls Tryd.prog 120 #[.slice a l.length c, .func (.func 121) #[] #[], .func (.func 78) #[] #[]] w fun r w' => ∃ (v : Value), r = .returned (.tuple #[.agg #[.int .i64 ((recOf l).1 : Int), v], .int .i64 (recFault l)]) ∧ w'.ownsRow w.heap.size 33 3 v (recOf l).2.length (partCells (recOf l).2) ∧ Below w.heap.size w w' := by
  obtain ⟨F, hF⟩ : ∃ F, F = recFault l := ⟨_, rfl⟩
  obtain ⟨O, hO⟩ : ∃ O, O = recOf l := ⟨_, rfl⟩
  rw [← hF, ← hO]
  have HF0 : Hid (F = recFault l) := hF
  have HO0 : Hid (O = recOf l) := hO
  clear hF hO
  by_cases h5 : 50000 < l.length
  · have h5z : (50000 : Int) < (l.length : Int) := by omega
    have HF : Hid (F = 1) := by show _ = _; rw [HF0.out]; unfold recFault; rw [if_pos h5]
    have HO : Hid (O = (0, [])) := by show _ = _; rw [HO0.out]; unfold recOf; rw [← HF0.out, HF.out, if_pos (by decide)]
    have hb0 := (Below.refl w.heap.size w).alloc (Nat.le_refl _) (.cells #[.int .i64 0, .slice none 0 0] 74)
    have HB := hb0.alloc hb0.size (.cells #[.int .i64 0, .slice none 0 0] 74)
    have hres := row_old (heap_alloc_new w (.cells #[.int .i64 0, .slice none 0 0] 74)) (.cells #[.int .i64 0, .slice none 0 0] 74)
    have hnone := heap_alloc_new (w.alloc (.cells #[.int .i64 0, .slice none 0 0] 74)) (.cells #[.int .i64 0, .slice none 0 0] 74)
    rw [show (w.alloc (.cells #[.int .i64 0, .slice none 0 0] 74)).heap.size = w.heap.size + 1 by simp] at hnone
    clear HF0 HO0 hb hb0
    generalize l.length = ll at *
    obtain ⟨⟨t0, t1⟩, _⟩ := rec_cells hres
    go_enter Tryd.func120, Tryd.ntmps120
    go_wp2_with fail
    generalize ((w.alloc (.cells #[.int .i64 0, .slice none 0 0] 74)).alloc (.cells #[.int .i64 0, .slice none 0 0] 74)) = w9 at *
    refine bodyPost_ret (v := .tuple #[.agg #[.int .i64 ((0 : Nat) : Int), .slice none 0 0], .int .i64 1]) (by simp [results, Tryd.results120, go_sem, t0, t1]) rfl ⟨.slice none 0 0, ?_, ?_, HB⟩
    · rw [HF.out, HO.out]
    · rw [HO.out]; exact World.ownsRow_nil _ _ _ _
  · have h5z : ¬ (50000 : Int) < (l.length : Int) := by omega
    have HF1 : Hid (F = if endE (rest (recP l)) ≠ 0 then endE (rest (recP l)) else match recP l with | .ok x => recordErr x.1.1 x.1.2 | .error e => e) := by show _ = _; rw [HF0.out]; unfold recFault; rw [if_neg h5]
    have HO1 : Hid (O = if F ≠ 0 then (0, []) else match recP l with | .ok x => x.1 | .error _ => (0, [])) := by show _ = _; rw [HO0.out, HF0.out]; rfl
    have hb0 := (Below.refl w.heap.size w).alloc (Nat.le_refl _) (.cells #[.int .i64 0, .slice none 0 0] 74)
    have hb1 := hb0.alloc hb0.size (.cells #[.int .i64 0, .slice none 0 0] 74)
    have HB0 := hb1.alloc hb1.size (.cells #[.slice a l.length c, .int .i64 0] 195)
    have hres := row_old (row_old (heap_alloc_new w (.cells #[.int .i64 0, .slice none 0 0] 74)) (.cells #[.int .i64 0, .slice none 0 0] 74)) (.cells #[.slice a l.length c, .int .i64 0] 195)
    have hnone := row_old (heap_alloc_new (w.alloc (.cells #[.int .i64 0, .slice none 0 0] 74)) (.cells #[.int .i64 0, .slice none 0 0] 74)) (.cells #[.slice a l.length c, .int .i64 0] 195)
    have hrd := heap_alloc_new ((w.alloc (.cells #[.int .i64 0, .slice none 0 0] 74)).alloc (.cells #[.int .i64 0, .slice none 0 0] 74)) (.cells #[.slice a l.length c, .int .i64 0] 195)
    rw [show (w.alloc (.cells #[.int .i64 0, .slice none 0 0] 74)).heap.size = w.heap.size + 1 by simp] at hnone
    rw [show ((w.alloc (.cells #[.int .i64 0, .slice none 0 0] 74)).alloc (.cells #[.int .i64 0, .slice none 0 0] 74)).heap.size = w.heap.size + 1 + 1 by simp] at hrd
    have hsz : (((w.alloc (.cells #[.int .i64 0, .slice none 0 0] 74)).alloc (.cells #[.int .i64 0, .slice none 0 0] 74)).alloc (.cells #[.slice a l.length c, .int .i64 0] 195)).heap.size = w.heap.size + 3 := by simp
    have hRd : RdSt (((w.alloc (.cells #[.int .i64 0, .slice none 0 0] 74)).alloc (.cells #[.int .i64 0, .slice none 0 0] 74)).alloc (.cells #[.slice a l.length c, .int .i64 0] 195)) (w.heap.size + 3) (w.heap.size + 1 + 1) (.ok l) := .ok ⟨⟨a, c, hrd, hc, by
      rcases hb with rfl | ⟨g, off, rfl, hg, hx⟩
      · exact .inl rfl
      · refine .inr ⟨g, off, rfl, by omega, by omega, fun i hi => ?_⟩
        rw [HB0.cell (p := ⟨g, off + i, none⟩) hg]
        exact hx i hi⟩, ⟨by omega, by omega⟩, hl, by omega⟩
    have cR := readRecord_any _ _ _ _ hRd
    rw [show andR (.ok l) recP = recP l from rfl] at cR
    clear HF0 HO0 hb hb0 hb1 hRd hrd
    generalize recP l = P at *
    generalize l.length = ll at *
    go_enter Tryd.func120, Tryd.ntmps120
    go_wp2_with fail
    generalize (((w.alloc (.cells #[.int .i64 0, .slice none 0 0] 74)).alloc (.cells #[.int .i64 0, .slice none 0 0] 74)).alloc (.cells #[.slice a ll c, .int .i64 0] 195)) = w0 at *
    refine cR.mono ?_
    rintro r w1 ⟨e, v, ps, rfl, hown, hst, hx, he, hpl, hpk, hc1⟩
    obtain ⟨va, vc, rfl⟩ := own_form hown
    have hz1 := hc1.size
    have hres1 := row_old (hc1.row hres (by omega)) (.cells #[.int .i64 (e : Int), .slice va ps.length vc] 74)
    have hnone1 := row_old (hc1.row hnone (by omega)) (.cells #[.int .i64 (e : Int), .slice va ps.length vc] 74)
    have hth1 := heap_alloc_new w1 (.cells #[.int .i64 (e : Int), .slice va ps.length vc] 74)
    have HB1 := HB0.trans ((hc1.below (B := w.heap.size) (fun k e => by omega) (by omega)).alloc (by omega) (.cells #[.int .i64 (e : Int), .slice va ps.length vc] 74))
    have cE := end_any _ _ _ _ (hst.chg ((Chg.refl (fun _ => False) w1).alloc (.cells #[.int .i64 (e : Int), .slice va ps.length vc] 74)) (fun _ h => h.elim))
    have hown1 := hown.alloc (.cells #[.int .i64 (e : Int), .slice va ps.length vc] 74)
    have hsz1 : (w1.alloc (.cells #[.int .i64 (e : Int), .slice va ps.length vc] 74)).heap.size = w1.heap.size + 1 := by simp
    have hT1 := hT.below HB1
    obtain ⟨EE, hEE⟩ : ∃ EE, EE = endE (rest P) := ⟨_, rfl⟩
    rw [← hEE] at cE
    have HEE : Hid (EE = endE (rest P)) := hEE
    clear hEE cR
    generalize hpn : ps.length = pn at *
    have HPN : Hid (ps.length = pn) := hpn
    clear hpn
    by_cases h6 : EE = 0
    · subst h6
      obtain ⟨x, hP⟩ := endE_zero hst HEE.out.symm
      have hxe : x = (e, ps) := hx (x, []) hP
      have HF : Hid (F = recordErr e ps) := by show _ = _; rw [HF1.out, ← HEE.out, if_neg (by simp), hP, hxe]
      have HOx : Hid (O = if F ≠ 0 then (0, []) else (e, ps)) := by show _ = _; rw [HO1.out, hP, hxe]
      clear HF1 HO1 hxe hP hst hx HEE
      go_wp2_with fail
      refine cE.mono ?_
      generalize (w1.alloc (.cells #[.int .i64 (e : Int), .slice va pn vc] 74)) = w2 at *
      rintro r w3 ⟨rfl, hc3⟩
      have hres3 := hc3.row hres1 (by omega)
      have hnone3 := hc3.row hnone1 (by omega)
      have hth3 := hc3.row hth1 (by omega)
      have HB3 := HB1.trans (hc3.below (B := w.heap.size) (fun k e => by omega) (by omega))
      have hown3 := own_chg hown1 hc3 (fun k hk e => by have := (hown1.lt k hk).1; omega)
      have hz3 := hc3.size
      clear cE hres1 hnone1 hth1 hres hnone
      obtain ⟨⟨q0, q1⟩, ql, qf0, qf1⟩ := rec_cells hth3
      have hopA : OpAt w3 va ps := by
        have h' := hown3
        rw [← HPN.out] at h'
        obtain ⟨a', c', e', ho, _⟩ := own_opAt' h'
        simp only [Value.slice.injEq, true_and] at e'
        obtain ⟨rfl, rfl⟩ := e'
        exact ho
      have cC := checkRecord_any (e : Int) ps va vc w3 hopA (by rw [HPN.out]; omega) (fun p hp => by have := (hpk p hp).2.2; omega) (hT.below HB3)
      rw [HPN.out] at cC
      generalize recordErr (e : Int) ps = er at *
      by_cases h7 : er = 0
      · subst h7
        have HO : Hid (O = (e, ps)) := by show _ = _; rw [HOx.out, HF.out, if_neg (by simp)]
        clear HOx
        go_wp2_with fail
        refine cC.mono ?_
        rintro r w4 ⟨rfl, hb4⟩
        have hk4 : ∀ {k : Nat} {o : Obj}, w3.heap[k]? = some o → w4.heap[k]? = some o := fun h => (hb4.block _ (Array.getElem?_eq_some_iff.1 h).1).trans h
        have hres4 := hk4 hres3
        have hth4 := hk4 hth3
        have hown4 := own_below hown3 hb4
        have HB4 := below_two HB3 hb4 (Nat.le_refl _)
        clear cC hres3 hnone3 hth3 q0 q1 qf0 qf1 ql hk4
        obtain ⟨⟨q0, q1⟩, ql, qf0, qf1⟩ := rec_cells hth4
        obtain ⟨⟨r0, r1⟩, rl, rf0, rf1⟩ := rec_cells hres4
        obtain ⟨hfin, hch4⟩ := rec_store hres4 (x := .int .i64 (e : Int)) (y := .slice va pn vc)
        have hown5 := own_chg hown4 hch4 (fun k hk e => row_ne hown4 hres4 (by decide) (by rw [← e]; exact hk.symm))
        go_wp2_with fail
        generalize ((w4.setCell ⟨w.heap.size, 0, none⟩ (.int .i64 (e : Int))).setCell ⟨w.heap.size, 1, none⟩ (.slice va pn vc)) = w9 at *
        obtain ⟨⟨t0, t1⟩, _⟩ := rec_cells hfin
        have hbz := HB4.size
        refine bodyPost_ret (v := .tuple #[.agg #[.int .i64 (e : Int), .slice va pn vc], .int .i64 0]) (by simp [results, Tryd.results120, go_sem, t0, t1]) rfl ⟨.slice va pn vc, ?_, ?_, HB4.trans (hch4.below (fun k e => by omega) hbz)⟩
        · rw [HF.out, HO.out]
        · rw [HO.out]
          simp only
          rw [HPN.out]
          exact own_base hown5 (by omega)
      · have g7 : (er != 0) = true := by simpa using h7
        have HO : Hid (O = (0, [])) := by show _ = _; rw [HOx.out, HF.out, if_pos h7]
        clear HOx
        go_wp2_with fail
        refine cC.mono ?_
        rintro r w4 ⟨rfl, hb4⟩
        have hk4 : ∀ {k : Nat} {o : Obj}, w3.heap[k]? = some o → w4.heap[k]? = some o := fun h => (hb4.block _ (Array.getElem?_eq_some_iff.1 h).1).trans h
        have hres4 := hk4 hres3
        have hnone4 := hk4 hnone3
        have HB4 := below_two HB3 hb4 (Nat.le_refl _)
        clear cC hres3 hnone3 hth3 q0 q1 qf0 qf1 ql hk4
        obtain ⟨⟨n0, n1⟩, nl, nf0, nf1⟩ := rec_cells hnone4
        obtain ⟨⟨r0, r1⟩, rl, rf0, rf1⟩ := rec_cells hres4
        obtain ⟨hfin, hch4⟩ := rec_store hres4 (x := .int .i64 0) (y := .slice none 0 0)
        go_wp2_with fail
        generalize ((w4.setCell ⟨w.heap.size, 0, none⟩ (.int .i64 0)).setCell ⟨w.heap.size, 1, none⟩ (.slice none 0 0)) = w9 at *
        obtain ⟨⟨t0, t1⟩, _⟩ := rec_cells hfin
        have hbz := HB4.size
        refine bodyPost_ret (v := .tuple #[.agg #[.int .i64 ((0 : Nat) : Int), .slice none 0 0], .int .i64 er]) (by simp [results, Tryd.results120, go_sem, t0, t1]) rfl ⟨.slice none 0 0, ?_, ?_, HB4.trans (hch4.below (fun k e => by omega) hbz)⟩
        · rw [HF.out, HO.out]
        · rw [HO.out]; exact World.ownsRow_nil _ _ _ _
    · have g6 : (EE != 0) = true := by simpa using h6
      have HF : Hid (F = EE) := by show _ = _; rw [HF1.out, ← HEE.out, if_pos h6]
      have HO : Hid (O = (0, [])) := by show _ = _; rw [HO1.out, if_pos (by rw [HF.out]; exact h6)]
      go_wp2_with fail
      refine cE.mono ?_
      generalize (w1.alloc (.cells #[.int .i64 (e : Int), .slice va pn vc] 74)) = w2 at *
      rintro r w3 ⟨rfl, hc3⟩
      have hres3 := hc3.row hres1 (by omega)
      have hnone3 := hc3.row hnone1 (by omega)
      have HB3 := HB1.trans (hc3.below (B := w.heap.size) (fun k e => by omega) (by omega))
      clear cE hres1 hnone1 hth1 hres hnone
      generalize EE = er at *
      obtain ⟨⟨n0, n1⟩, nl, nf0, nf1⟩ := rec_cells hnone3
      obtain ⟨⟨r0, r1⟩, rl, rf0, rf1⟩ := rec_cells hres3
      obtain ⟨hfin, hch4⟩ := rec_store hres3 (x := .int .i64 0) (y := .slice none 0 0)
      go_wp2_with fail
      generalize ((w3.setCell ⟨w.heap.size, 0, none⟩ (.int .i64 0)).setCell ⟨w.heap.size, 1, none⟩ (.slice none 0 0)) = w9 at *
      obtain ⟨⟨t0, t1⟩, _⟩ := rec_cells hfin
      have hbz := HB3.size
      refine bodyPost_ret (v := .tuple #[.agg #[.int .i64 ((0 : Nat) : Int), .slice none 0 0], .int .i64 er]) (by simp [results, Tryd.results120, go_sem, t0, t1]) rfl ⟨.slice none 0 0, ?_, ?_, HB3.trans (hch4.below (fun k e => by omega) hbz)⟩
      · rw [HF.out, HO.out]
      · rw [HO.out]; exact World.ownsRow_nil _ _ _ _

set_option maxRecDepth 100000 in
set_option maxHeartbeats 1000000 in
theorem decodeRecord_any (l : List Nat) (a : Option Addr) (c : Nat) (w : World) (hb : Bytes w a l) (hl : ∀ x ∈ l, x < 256) (hc : l.length ≤ c) (hT : Tabs w) :
    Calls Tryd.prog 108 #[.slice a l.length c] w fun r w' => ∃ (v : Value), r = .returned (.tuple #[.agg #[.int .i64 ((recOf l).1 : Int), v], .int .i64 (recFault l)]) ∧ w'.ownsRow w.heap.size 33 3 v (recOf l).2.length (partCells (recOf l).2) ∧ Below w.heap.size w w' := by
  have hb0 := (Below.refl w.heap.size w).alloc (Nat.le_refl _) (.cells #[.int .i64 0, .slice none 0 0] 74)
  have hres := heap_alloc_new w (.cells #[.int .i64 0, .slice none 0 0] 74)
  have cD := decR_any l a c (w.alloc (.cells #[.int .i64 0, .slice none 0 0] 74)) (by
    rcases hb with rfl | ⟨g, off, rfl, hg, hx⟩
    · exact .inl rfl
    · exact .inr ⟨g, off, rfl, Nat.lt_of_lt_of_le hg hb0.size, fun i hi => (hb0.cell (p := ⟨g, off + i, none⟩) hg).trans (hx i hi)⟩) hl hc (hT.below hb0)
  generalize recOf l = O at *
  generalize recFault l = F at *
  clear hb
  generalize l.length = ll at *
  go_enter Tryd.func108, Tryd.ntmps108
  go_wp2_with fail
  refine cD.mono ?_
  rintro r w1 ⟨v, rfl, hown, hb1⟩
  obtain ⟨va, vc, rfl⟩ := own_form hown
  generalize hpn : O.2.length = pn at *
  have HPN : Hid (O.2.length = pn) := hpn
  clear hpn
  have hres1 := (hb1.block _ (Array.getElem?_eq_some_iff.1 hres).1).trans hres
  have HB1 := below_two hb0 hb1 (Nat.le_refl _)
  obtain ⟨⟨r0, r1⟩, rl, rf0, rf1⟩ := rec_cells hres1
  obtain ⟨hfin, hch4⟩ := rec_store hres1 (x := .int .i64 (O.1 : Int)) (y := .slice va pn vc)
  have hown5 := own_chg hown hch4 (fun k hk e => row_ne hown hres1 (by decide) (by rw [← e]; exact hk.symm))
  clear cD hres
  go_wp2_with fail
  generalize ((w1.setCell ⟨w.heap.size, 0, none⟩ (.int .i64 (O.1 : Int))).setCell ⟨w.heap.size, 1, none⟩ (.slice va pn vc)) = w9 at *
  obtain ⟨⟨t0, t1⟩, _⟩ := rec_cells hfin
  refine bodyPost_ret (v := .tuple #[.agg #[.int .i64 (O.1 : Int), .slice va pn vc], .int .i64 F]) (by simp [results, Tryd.results108, go_sem, t0, t1]) rfl ⟨.slice va pn vc, rfl, ?_, HB1.trans (hch4.below (fun k e => by omega) HB1.size)⟩
  rw [HPN.out]
  exact own_base hown5 (by simp)

end Go.Proofs.YtknjnfknalfbdaaDoor
