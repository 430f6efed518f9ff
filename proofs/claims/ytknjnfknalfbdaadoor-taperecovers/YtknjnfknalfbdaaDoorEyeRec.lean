/-
  Walk: wherryref.RecordOf.
-/
import Derived.Test.YtknjnfknalfbdaaDoorEyeOps
import Derived.Test.YtknjnfknalfbdaaDoorWireDec
import Derived.Test.YtknjnfknalfbdaaDoorWirePacketF
import Derived.Deep.RegionHeld3
namespace Go.Proofs.YtknjnfknalfbdaaDoor
open Go.RowKit Go.Lib

theorem zr_keep {er : Int} {w w' : World} (h : (fun w' => w'.cell? ⟨w.heap.size + 1, 2, none⟩ = some (.int .i64 er) ∧ w'.cell? ⟨w.heap.size, 0, none⟩ = some (.int .i64 0) ∧ w'.cell? ⟨w.heap.size, 1, none⟩ = some (.slice none 0 0) ∧ w'.frozen? ⟨w.heap.size, 0, none⟩ = false ∧ w'.frozen? ⟨w.heap.size, 1, none⟩ = false ∧ w'.heap[w.heap.size]? = some (.cells #[.int .i64 0, .slice none 0 0] 74 (0, 0)) ∧ w.heap.size + 1 < w'.heap.size ∧ Below w.heap.size w w') w') : (fun w' => w'.cell? ⟨w.heap.size + 1, 2, none⟩ = some (.int .i64 er) ∧ w'.cell? ⟨w.heap.size, 0, none⟩ = some (.int .i64 0) ∧ w'.cell? ⟨w.heap.size, 1, none⟩ = some (.slice none 0 0) ∧ w'.frozen? ⟨w.heap.size, 0, none⟩ = false ∧ w'.frozen? ⟨w.heap.size, 1, none⟩ = false ∧ w'.heap[w.heap.size]? = some (.cells #[.int .i64 0, .slice none 0 0] 74 (0, 0)) ∧ w.heap.size + 1 < w'.heap.size ∧ Below w.heap.size w w') ((w'.setCell ⟨w.heap.size, 0, none⟩ (.int .i64 0)).setCell ⟨w.heap.size, 1, none⟩ (.slice none 0 0)) := by
  obtain ⟨h1, _, _, _, _, h6, h7, h8⟩ := h
  obtain ⟨hb, hc⟩ := rec_store h6 (x := .int .i64 0) (y := .slice none 0 0)
  obtain ⟨⟨t0, t1⟩, _, t2, t3⟩ := rec_cells hb
  have hz := hc.size
  exact ⟨(World.cell?_of_block (a := ⟨w.heap.size + 1, 2, none⟩) (hc.block (w.heap.size + 1) h7 (by omega))).trans h1, t0, t1, t2, t3, hb, by omega, h8.trans (hc.below (fun k e => by omega) h8.size)⟩
theorem zr_drew {er : Int} {w w' : World} (h : (fun w' => w'.cell? ⟨w.heap.size + 1, 2, none⟩ = some (.int .i64 er) ∧ w'.cell? ⟨w.heap.size, 0, none⟩ = some (.int .i64 0) ∧ w'.cell? ⟨w.heap.size, 1, none⟩ = some (.slice none 0 0) ∧ w'.frozen? ⟨w.heap.size, 0, none⟩ = false ∧ w'.frozen? ⟨w.heap.size, 1, none⟩ = false ∧ w'.heap[w.heap.size]? = some (.cells #[.int .i64 0, .slice none 0 0] 74 (0, 0)) ∧ w.heap.size + 1 < w'.heap.size ∧ Below w.heap.size w w') w') : (fun w' => w'.cell? ⟨w.heap.size + 1, 2, none⟩ = some (.int .i64 er) ∧ w'.cell? ⟨w.heap.size, 0, none⟩ = some (.int .i64 0) ∧ w'.cell? ⟨w.heap.size, 1, none⟩ = some (.slice none 0 0) ∧ w'.frozen? ⟨w.heap.size, 0, none⟩ = false ∧ w'.frozen? ⟨w.heap.size, 1, none⟩ = false ∧ w'.heap[w.heap.size]? = some (.cells #[.int .i64 0, .slice none 0 0] 74 (0, 0)) ∧ w.heap.size + 1 < w'.heap.size ∧ Below w.heap.size w w') w'.drew := ⟨h.1, h.2.1, h.2.2.1, h.2.2.2.1, h.2.2.2.2.1, h.2.2.2.2.2.1, h.2.2.2.2.2.2.1, h.2.2.2.2.2.2.2.trans ⟨rfl, rfl, rfl, Nat.le_refl _, fun _ _ => rfl⟩⟩
theorem zr_make {er : Int} {w w' : World} (h1 : w'.cell? ⟨w.heap.size + 1, 2, none⟩ = some (.int .i64 er)) (h2 : w'.heap[w.heap.size]? = some (.cells #[.int .i64 0, .slice none 0 0] 74 (0, 0))) (h3 : w.heap.size + 1 < w'.heap.size) (h4 : Below w.heap.size w w') : (fun w' => w'.cell? ⟨w.heap.size + 1, 2, none⟩ = some (.int .i64 er) ∧ w'.cell? ⟨w.heap.size, 0, none⟩ = some (.int .i64 0) ∧ w'.cell? ⟨w.heap.size, 1, none⟩ = some (.slice none 0 0) ∧ w'.frozen? ⟨w.heap.size, 0, none⟩ = false ∧ w'.frozen? ⟨w.heap.size, 1, none⟩ = false ∧ w'.heap[w.heap.size]? = some (.cells #[.int .i64 0, .slice none 0 0] 74 (0, 0)) ∧ w.heap.size + 1 < w'.heap.size ∧ Below w.heap.size w w') w' := by
  obtain ⟨⟨t0, t1⟩, _, t2, t3⟩ := rec_cells h2
  exact ⟨h1, t0, t1, t2, t3, h2, h3, h4⟩

set_option maxRecDepth 100000 in
set_option maxHeartbeats 4000000 in
theorem recordOf_any (l : List Nat) (a : Option Addr) (c : Nat) (w : World) (hb : Bytes w a l) (hl : ∀ x ∈ l, x < 256) (hc : l.length ≤ c) (hT : Tabs w) :
    Calls Tryd.prog 91 #[.slice a l.length c] w fun r w' => ∃ (v : Value), r = .returned (.tuple #[.agg #[.int .i64 ((recOf l).1 : Int), v], .int .i64 (recFault l)]) ∧ w'.ownsRow w.heap.size 33 3 v (recOf l).2.length (partCells (recOf l).2) ∧ Below w.heap.size w w' := by
  obtain ⟨F, hF⟩ : ∃ F, F = recFault l := ⟨_, rfl⟩
  obtain ⟨O, hO⟩ : ∃ O, O = recOf l := ⟨_, rfl⟩
  rw [← hF, ← hO]
  have HF0 : Hid (F = recFault l) := hF
  have HO0 : Hid (O = recOf l) := hO
  clear hF hO
  by_cases h5 : 50000 < l.length
  · have h5z : (50000 : Int) < (l.length : Int) := by omega
    have HF : Hid (F = 1) := by show _ = _; rw [HF0.out]; unfold recFault; rw [if_pos h5]
    have HO : Hid (O = (0, [])) := by show _ = _; rw [HO0.out]; unfold recOf; rw [← HF0.out, HF.out, if_pos (by decide)]
    have HB := (Below.refl w.heap.size w).alloc (Nat.le_refl _) (.cells #[.int .i64 0, .slice none 0 0] 74)
    have hres := heap_alloc_new w (.cells #[.int .i64 0, .slice none 0 0] 74)
    obtain ⟨⟨t0, t1⟩, _⟩ := rec_cells hres
    clear HF0 HO0 hb
    generalize l.length = ll at *
    go_enter Tryd.func91, Tryd.ntmps91
    go_wp2_with fail
    generalize (w.alloc (.cells #[.int .i64 0, .slice none 0 0] 74)) = w9 at *
    refine bodyPost_ret (v := .tuple #[.agg #[.int .i64 ((0 : Nat) : Int), .slice none 0 0], .int .i64 1]) (by simp [results, Tryd.results91, go_sem, t0, t1]) rfl ⟨.slice none 0 0, ?_, ?_, HB⟩
    · rw [HF.out, HO.out]
    · rw [HO.out]; exact World.ownsRow_nil _ _ _ _
  · have h5z : ¬ (50000 : Int) < (l.length : Int) := by omega
    have HF1 : Hid (F = if endE (rest (recP l)) ≠ 0 then endE (rest (recP l)) else match recP l with | .ok x => recordErr x.1.1 x.1.2 | .error e => e) := by show _ = _; rw [HF0.out]; unfold recFault; rw [if_neg h5]; rfl
    have HO1 : Hid (O = if F ≠ 0 then (0, []) else match recP l with | .ok x => x.1 | .error _ => (0, [])) := by show _ = _; rw [HO0.out, HF0.out]; rfl
    have HK : Hid (recP l = match numP l with | .ok x => if x.1 = 0 then mapR (opP x.2) (fun ps => (0, ps)) else .ok ((x.1, []), x.2) | .error e => .error e) := rfl
    have hb0 := (Below.refl w.heap.size w).alloc (Nat.le_refl _) (.cells #[.int .i64 0, .slice none 0 0] 74)
    have hb1 := hb0.alloc hb0.size (.cells #[.slice a l.length c, .int .i64 0, .int .i64 0] 165)
    have HB0 := hb1.alloc hb1.size (.cells #[.int .i64 0, .slice none 0 0] 74)
    have hres := row_old (row_old (heap_alloc_new w (.cells #[.int .i64 0, .slice none 0 0] 74)) (.cells #[.slice a l.length c, .int .i64 0, .int .i64 0] 165)) (.cells #[.int .i64 0, .slice none 0 0] 74)
    have hey := row_old (heap_alloc_new (w.alloc (.cells #[.int .i64 0, .slice none 0 0] 74)) (.cells #[.slice a l.length c, .int .i64 0, .int .i64 0] 165)) (.cells #[.int .i64 0, .slice none 0 0] 74)
    have hrr := heap_alloc_new ((w.alloc (.cells #[.int .i64 0, .slice none 0 0] 74)).alloc (.cells #[.slice a l.length c, .int .i64 0, .int .i64 0] 165)) (.cells #[.int .i64 0, .slice none 0 0] 74)
    rw [show (w.alloc (.cells #[.int .i64 0, .slice none 0 0] 74)).heap.size = w.heap.size + 1 by simp] at hey
    rw [show ((w.alloc (.cells #[.int .i64 0, .slice none 0 0] 74)).alloc (.cells #[.slice a l.length c, .int .i64 0, .int .i64 0] 165)).heap.size = w.heap.size + 1 + 1 by simp] at hrr
    have hsz : (((w.alloc (.cells #[.int .i64 0, .slice none 0 0] 74)).alloc (.cells #[.slice a l.length c, .int .i64 0, .int .i64 0] 165)).alloc (.cells #[.int .i64 0, .slice none 0 0] 74)).heap.size = w.heap.size + 3 := by simp
    have hEy : EySt (((w.alloc (.cells #[.int .i64 0, .slice none 0 0] 74)).alloc (.cells #[.slice a l.length c, .int .i64 0, .int .i64 0] 165)).alloc (.cells #[.int .i64 0, .slice none 0 0] 74)) (w.heap.size + 1 + 1) (w.heap.size + 1) l (.ok l) := .ok (i := 0) ⟨⟨a, c, hey, hc, by
      rcases hb with rfl | ⟨g, off, rfl, hg, hx⟩
      · exact .inl rfl
      · refine .inr ⟨g, off, rfl, by omega, by omega, fun i hi => ?_⟩
        rw [HB0.cell (p := ⟨g, off + i, none⟩) hg]
        exact hx i hi⟩, ⟨by omega, by omega⟩, hl, by omega, by omega⟩
    have cN := enum_any _ _ _ _ _ hEy
    rw [show andR (.ok l) numP = numP l from rfl] at cN
    clear HF0 HO0 hb hb0 hb1 hEy hey
    generalize recP l = P at *
    generalize numP l = R at *
    have HLL : Hid (l.length = l.length) := rfl
    generalize hll : l.length = ll at *
    go_enter Tryd.func91, Tryd.ntmps91
    go_wp2_with fail
    generalize (((w.alloc (.cells #[.int .i64 0, .slice none 0 0] 74)).alloc (.cells #[.slice a ll c, .int .i64 0, .int .i64 0] 165)).alloc (.cells #[.int .i64 0, .slice none 0 0] 74)) = w0 at *
    refine cN.mono ?_
    rintro r w1 ⟨n, rfl, hn, hst, hx, _, hc1⟩
    have hz1 := hc1.size
    have hres1 := hc1.row hres (by omega)
    have hrr1 := hc1.row hrr (by omega)
    obtain ⟨⟨q0, q1⟩, ql, qf0, qf1⟩ := rec_cells hrr1
    have hsp : (w1.setCell ⟨w.heap.size + 1 + 1, 0, none⟩ (.int .i64 (n : Int))).heap[w.heap.size + 1 + 1]? = some (.cells #[.int .i64 (n : Int), .slice none 0 0] 74 (0, 0)) := by rw [heap_setCell_same w1 _ 0 _ _ _ hrr1]; rfl
    have hcs : Chg (fun k => k = w.heap.size + 1 + 1) w1 (w1.setCell ⟨w.heap.size + 1 + 1, 0, none⟩ (.int .i64 (n : Int))) := (Chg.refl (fun k => k = w.heap.size + 1 + 1) w1).setCell (p := ⟨w.heap.size + 1 + 1, 0, none⟩) rfl _
    have hst1 := hst.chg hcs (fun k hk => by omega)
    have hres2 := hcs.row hres1 (by omega)
    have HB2 := (HB0.trans (hc1.below (B := w.heap.size) (fun k e => by omega) (by omega))).trans (hcs.below (fun k e => by omega) (by omega))
    have hz2 := hcs.size
    clear cN hres hrr hres1 hrr1 hst HB0
    have cO := eops_any _ _ _ _ _ hst1
    by_cases h2 : n = 0
    · subst h2
      have HS : Hid (P = mapR (andR (rest R) opP) (fun ps => (0, ps))) := by
        show _ = _
        rw [HK.out]
        cases R with
        | error e => rfl
        | ok x =>
          show (if x.1 = 0 then mapR (opP x.2) (fun ps => (0, ps)) else .ok ((x.1, []), x.2)) = mapR (opP x.2) (fun ps => (0, ps))
          rw [if_pos (hx x rfl)]
      clear HK
      generalize andR (rest R) opP = T at *
      obtain ⟨⟨m0, m1⟩, ml, mf0, mf1⟩ := rec_cells hsp
      go_wp2_with fail
      refine cO.mono ?_
      generalize (w1.setCell ⟨w.heap.size + 1 + 1, 0, none⟩ (.int .i64 0)) = w2 at *
      rintro r w2' ⟨v, ps, rfl, hown2, hst2, hx2, hpl, hpk, hc2⟩
      obtain ⟨va, vc, rfl⟩ := own_form hown2
      have hsp2 := hc2.row hsp (by omega)
      obtain ⟨⟨s0, s1⟩, sl, sf0, sf1⟩ := rec_cells hsp2
      have hz3 := hc2.size
      have hrr3 : (w2'.setCell ⟨w.heap.size + 1 + 1, 1, none⟩ (.slice va ps.length vc)).heap[w.heap.size + 1 + 1]? = some (.cells #[.int .i64 ((0 : Nat) : Int), .slice va ps.length vc] 74 (0, 0)) := by rw [heap_setCell_same w2' _ 1 _ _ _ hsp2]; rfl
      have hc3 : Chg (fun k => k = w.heap.size + 1 + 1) w2' (w2'.setCell ⟨w.heap.size + 1 + 1, 1, none⟩ (.slice va ps.length vc)) := (Chg.refl (fun k => k = w.heap.size + 1 + 1) w2').setCell (p := ⟨w.heap.size + 1 + 1, 1, none⟩) rfl _
      have hst3 := hst2.chg hc3 (fun k hk => by omega)
      have hres3 := hc3.row (hc2.row hres2 (by omega)) (by omega)
      have HB3 := (HB2.trans (hc2.below (B := w.heap.size) (fun k e => by omega) (by omega))).trans (hc3.below (fun k e => by omega) (by omega))
      have hown3 := own_base (own_chg hown2 hc3 (fun k hk e => row_ne hown2 hsp2 (by decide) (by rw [← e]; exact hk.symm))) (show w.heap.size ≤ w2.heap.size by omega)
      have hx3 : ∀ x, P = .ok x → x.1 = (0, ps) := by rw [HS.out]; exact map_ok hx2
      rw [show rest T = rest P by rw [HS.out, rest_map]] at hst3
      have he3 : (0 : Nat) < 268435456 := by decide
      clear cO hsp hsp2 hres2 HB2 hst1 hst2 hx2 HS hown2 hx m0 m1 ml mf0 mf1 q0 q1 ql qf0 qf1
      generalize hpn : ps.length = pn at *
      have HPN : Hid (ps.length = pn) := hpn
      clear hpn
      have hz4 := hc3.size
      clear hc3
      have hey : ∃ i er, EyAt (w2'.setCell ⟨w.heap.size + 1 + 1, 1, none⟩ (.slice va pn vc)) (w.heap.size + 1 + 1) (w.heap.size + 1) l i er ∧ (er = 0 ∧ rest P = .ok (l.drop i) ∨ er ≠ 0 ∧ rest P = .error er) := by
        generalize rest P = st at *
        cases hst3 with
        | ok h => exact ⟨_, 0, h, .inl ⟨rfl, rfl⟩⟩
        | bad he h => exact ⟨_, _, h, .inr ⟨he, rfl⟩⟩
      obtain ⟨i, er, hey, hcase⟩ := hey
      have hile := hey.le

      obtain ⟨a9, c9, hblk, hlc, ho⟩ := hey.form
      rw [hll] at hblk hile
      obtain ⟨⟨k0, k1, k2⟩, hbl, f1, f2⟩ := ey_cells hblk
      obtain ⟨⟨p0, p1⟩, pl, pf0, pf1⟩ := rec_cells hrr3
      clear ho hlc hblk hst3
      rcases hcase with ⟨rfl, hP⟩ | ⟨her, hP⟩
      · by_cases hil : i < ll
        · have hiz : (i : Int) < (ll : Int) := by omega
          have HF : Hid (F = 4) := by
            show _ = _
            have : endE (rest P) = 4 := by rw [hP, List.drop_eq_getElem_cons (by omega)]; rfl
            rw [HF1.out, this, if_pos (by decide)]
          have HO : Hid (O = (0, [])) := by show _ = _; rw [HO1.out, if_pos (by rw [HF.out]; decide)]
          obtain ⟨hey4, hch4⟩ := hey.wrong 4
          obtain ⟨a9, c9, hblk, _, _⟩ := hey4.form
          obtain ⟨⟨k0', k1', k2'⟩, hbl', f1', f2'⟩ := ey_cells hblk
          have hres4 := hch4.row hres3 (by omega)
          obtain ⟨⟨r0, r1⟩, rl, rf0, rf1⟩ := rec_cells hres4
          have HBz := HB3.size
          have HB4 := (HB3.trans (hch4.below (B := w.heap.size) (fun k e => by omega) HBz))
          have HBz4 := HB4.size
          clear HF1 HO1 hP hblk hey hey4 hx3 hch4 HB3
          have hS0 := zr_make k2' hres4 hbl' HB4
          go_wp2_with fail
          go_region_held3 (fun w' => w'.cell? ⟨w.heap.size + 1, 2, none⟩ = some (.int .i64 4) ∧ w'.cell? ⟨w.heap.size, 0, none⟩ = some (.int .i64 0) ∧ w'.cell? ⟨w.heap.size, 1, none⟩ = some (.slice none 0 0) ∧ w'.frozen? ⟨w.heap.size, 0, none⟩ = false ∧ w'.frozen? ⟨w.heap.size, 1, none⟩ = false ∧ w'.heap[w.heap.size]? = some (.cells #[.int .i64 0, .slice none 0 0] 74 (0, 0)) ∧ w.heap.size + 1 < w'.heap.size ∧ Below w.heap.size w w') (with_reducible first | exact zr_drew hS0 | exact zr_drew (zr_keep hS0) | assumption | exact zr_keep (by assumption)) (fail)
          have hSf := zr_drew (zr_keep hS0)
          clear hS0
          generalize ((((w2'.setCell ⟨w.heap.size + 1 + 1, 1, none⟩ (.slice va pn vc)).setCell ⟨w.heap.size + 1, 2, none⟩ (.int .i64 4)).setCell ⟨w.heap.size, 0, none⟩ (.int .i64 0)).setCell ⟨w.heap.size, 1, none⟩ (.slice none 0 0)).drew = w9 at *
          go_wp2_with fail
          obtain ⟨_, t0, t1, _, _, _, _, HB9⟩ := hSf
          refine bodyPost_ret (v := .tuple #[.agg #[.int .i64 ((0 : Nat) : Int), .slice none 0 0], .int .i64 4]) (by simp [results, Tryd.results91, go_sem, t0, t1]) rfl ⟨.slice none 0 0, ?_, ?_, HB9⟩
          · rw [HF.out, HO.out]
          · rw [HO.out]; exact World.ownsRow_nil _ _ _ _
        · obtain rfl : i = ll := by omega
          have hiz : ¬ (i : Int) < (i : Int) := by omega
          have hP2 : ∃ x, P = .ok (x, []) := by
            cases P with
            | error e => cases hP
            | ok y =>
              obtain ⟨x, r⟩ := y
              have h6 : Except.ok r = (Except.ok (l.drop i) : Except Int (List Nat)) := hP
              cases h6
              exact ⟨x, by rw [List.drop_eq_nil_of_le (by omega)]⟩
          obtain ⟨x, hP2⟩ := hP2
          have hxe : x = (0, ps) := hx3 (x, []) hP2
          have HF : Hid (F = recordErr (0 : Nat) ps) := by
            show _ = _
            rw [HF1.out, hP2, hxe]
            show (if (0 : Int) ≠ 0 then _ else recordErr (0 : Nat) ps) = _
            rw [if_neg (by simp)]
          have HOx : Hid (O = if F ≠ 0 then (0, []) else (0, ps)) := by show _ = _; rw [HO1.out, hP2, hxe]
          have hopA : OpAt (w2'.setCell ⟨w.heap.size + 1 + 1, 1, none⟩ (.slice va pn vc)) va ps := by
            have h' := hown3
            rw [← HPN.out] at h' ⊢
            obtain ⟨a', c', e', ho, _⟩ := own_opAt' h'
            simp only [Value.slice.injEq, true_and] at e'
            obtain ⟨rfl, rfl⟩ := e'
            exact ho
          have cC := recordFault_any ((0 : Nat) : Int) ps va vc _ hopA (by rw [HPN.out]; omega) (fun p hp => by have := (hpk p hp).2.2; omega) (hT.below HB3)
          rw [HPN.out] at cC
          have HBz := HB3.size
          clear HF1 HO1 hP hx3 hP2 hxe hopA
          generalize recordErr ((0 : Nat) : Int) ps = er at *
          go_wp2_with fail
          refine cC.mono ?_
          generalize (w2'.setCell ⟨w.heap.size + 1 + 1, 1, none⟩ (.slice va pn vc)) = w3 at *
          rintro r w4 ⟨rfl, hb4⟩
          have hb4z := hb4.size
          have hey4 := hey.chg (F := fun k => w3.heap.size ≤ k) ⟨hb4.os, hb4.tape, hb4.output, hb4.size, fun k hk h => hb4.block k (by omega)⟩ (fun k hk => by omega)
          have hrr4 := (hb4.block _ (Array.getElem?_eq_some_iff.1 hrr3).1).trans hrr3
          have hres4 := (hb4.block _ (Array.getElem?_eq_some_iff.1 hres3).1).trans hres3
          have hown4 := own_below hown3 hb4
          have HB4 := below_two HB3 hb4 (Nat.le_refl _)
          have HBz4 := HB4.size
          clear k0 k1 k2 f1 f2 hbl p0 p1 pl pf0 pf1 hrr3 hres3 HB3 hey cC
          obtain ⟨a9, c9, hblk, _, _⟩ := hey4.form
          obtain ⟨⟨k0, k1, k2⟩, hbl, f1, f2⟩ := ey_cells hblk
          have hblk4 := hblk
          clear hblk
          obtain ⟨hey5, hch5⟩ := hey4.wrong er
          obtain ⟨a8, c8, hblk, _, _⟩ := hey5.form
          obtain ⟨⟨j0, j1, j2⟩, jl, jf1, jf2⟩ := ey_cells hblk
          have hrr5 := hch5.row hrr4 (by omega)
          have hres5 := hch5.row hres4 (by omega)
          have HB5 := HB4.trans (hch5.below (B := w.heap.size) (fun k e => by omega) HBz4)
          have HBz5 := HB5.size
          have hown5 := own_chg hown4 hch5 (fun k hk e => row_ne hown4 (show w4.heap[w.heap.size + 1]? = _ from hblk4) (by decide) (by rw [← e]; exact hk.symm))
          obtain ⟨⟨p0, p1⟩, pl, pf0, pf1⟩ := rec_cells hrr5
          obtain ⟨⟨r0, r1⟩, rl, rf0, rf1⟩ := rec_cells hres5
          clear hblk hblk4 hey5 hey4 hrr4 hres4 HB4 hch5 hb4
          by_cases h7 : er = 0
          · subst h7
            have HO : Hid (O = (0, ps)) := by show _ = _; rw [HOx.out, HF.out, if_neg (by simp)]
            obtain ⟨hfin, hch6⟩ := rec_store hres5 (x := .int .i64 ((0 : Nat) : Int)) (y := .slice va pn vc)
            have hown6 := own_chg hown5 hch6 (fun k hk e => row_ne hown5 hres5 (by decide) (by rw [← e]; exact hk.symm))
            have HB6 := HB5.trans (hch6.below (fun k e => by omega) HBz5)
            clear HOx hch6 HB5 hrr5
            go_wp2_with fail
            generalize ((w4.setCell ⟨w.heap.size + 1, 2, none⟩ (.int .i64 0)).setCell ⟨w.heap.size, 0, none⟩ (.int .i64 0)).setCell ⟨w.heap.size, 1, none⟩ (.slice va pn vc) = w9 at *
            obtain ⟨⟨t0, t1⟩, _⟩ := rec_cells hfin
            refine bodyPost_ret (v := .tuple #[.agg #[.int .i64 ((0 : Nat) : Int), .slice va pn vc], .int .i64 0]) (by simp [results, Tryd.results91, go_sem, t0, t1]) rfl ⟨.slice va pn vc, ?_, ?_, HB6⟩
            · rw [HF.out, HO.out]
            · rw [HO.out]
              simp only
              rw [HPN.out]
              exact hown6
          · have g7 : (er == 0) = false := by simpa using h7
            have HO : Hid (O = (0, [])) := by show _ = _; rw [HOx.out, HF.out, if_pos h7]
            clear HOx hrr5
            have hS0 := zr_make j2 hres5 jl HB5
            go_wp2_with fail
            go_region_held3 (fun w' => w'.cell? ⟨w.heap.size + 1, 2, none⟩ = some (.int .i64 er) ∧ w'.cell? ⟨w.heap.size, 0, none⟩ = some (.int .i64 0) ∧ w'.cell? ⟨w.heap.size, 1, none⟩ = some (.slice none 0 0) ∧ w'.frozen? ⟨w.heap.size, 0, none⟩ = false ∧ w'.frozen? ⟨w.heap.size, 1, none⟩ = false ∧ w'.heap[w.heap.size]? = some (.cells #[.int .i64 0, .slice none 0 0] 74 (0, 0)) ∧ w.heap.size + 1 < w'.heap.size ∧ Below w.heap.size w w') (with_reducible first | exact zr_drew hS0 | exact zr_drew (zr_keep hS0) | assumption | exact zr_keep (by assumption)) (fail)
            have hSf := zr_drew (zr_keep hS0)
            clear hS0
            generalize (((w4.setCell ⟨w.heap.size + 1, 2, none⟩ (.int .i64 er)).setCell ⟨w.heap.size, 0, none⟩ (.int .i64 0)).setCell ⟨w.heap.size, 1, none⟩ (.slice none 0 0)).drew = w9 at *
            go_wp2_with fail
            obtain ⟨_, t0, t1, _, _, _, _, HB9⟩ := hSf
            refine bodyPost_ret (v := .tuple #[.agg #[.int .i64 ((0 : Nat) : Int), .slice none 0 0], .int .i64 er]) (by simp [results, Tryd.results91, go_sem, t0, t1]) rfl ⟨.slice none 0 0, ?_, ?_, HB9⟩
            · rw [HF.out, HO.out]
            · rw [HO.out]; exact World.ownsRow_nil _ _ _ _
      · have g : (er == 0) = false := by simpa using her
        have HF : Hid (F = er) := by
          show _ = _
          have : endE (rest P) = er := by rw [hP]; rfl
          rw [HF1.out, this, if_pos her]
        have HO : Hid (O = (0, [])) := by show _ = _; rw [HO1.out, if_pos (by rw [HF.out]; exact her)]
        obtain ⟨⟨r0, r1⟩, rl, rf0, rf1⟩ := rec_cells hres3
        clear HF1 HO1 hP hey hx3
        have hS0 := zr_make k2 hres3 hbl HB3
        go_wp2_with fail
        go_region_held3 (fun w' => w'.cell? ⟨w.heap.size + 1, 2, none⟩ = some (.int .i64 er) ∧ w'.cell? ⟨w.heap.size, 0, none⟩ = some (.int .i64 0) ∧ w'.cell? ⟨w.heap.size, 1, none⟩ = some (.slice none 0 0) ∧ w'.frozen? ⟨w.heap.size, 0, none⟩ = false ∧ w'.frozen? ⟨w.heap.size, 1, none⟩ = false ∧ w'.heap[w.heap.size]? = some (.cells #[.int .i64 0, .slice none 0 0] 74 (0, 0)) ∧ w.heap.size + 1 < w'.heap.size ∧ Below w.heap.size w w') (with_reducible first | exact zr_drew hS0 | exact zr_drew (zr_keep hS0) | assumption | exact zr_keep (by assumption)) (fail)
        have hSf := zr_drew (zr_keep hS0)
        clear hS0
        generalize (((w2'.setCell ⟨w.heap.size + 1 + 1, 1, none⟩ (.slice va pn vc)).setCell ⟨w.heap.size, 0, none⟩ (.int .i64 0)).setCell ⟨w.heap.size, 1, none⟩ (.slice none 0 0)).drew = w9 at *
        go_wp2_with fail
        obtain ⟨_, t0, t1, _, _, _, _, HB9⟩ := hSf
        refine bodyPost_ret (v := .tuple #[.agg #[.int .i64 ((0 : Nat) : Int), .slice none 0 0], .int .i64 er]) (by simp [results, Tryd.results91, go_sem, t0, t1]) rfl ⟨.slice none 0 0, ?_, ?_, HB9⟩
        · rw [HF.out, HO.out]
        · rw [HO.out]; exact World.ownsRow_nil _ _ _ _
    · have g2 : ((n : Int) == 0) = false := by simp; omega
      have hx3 : ∀ x, P = .ok x → x.1 = (n, []) := by
        rw [HK.out]
        cases R with
        | error e => intro x hx; cases hx
        | ok x =>
          show ∀ y, (if x.1 = 0 then mapR (opP x.2) (fun ps => (0, ps)) else .ok ((x.1, []), x.2)) = Except.ok y → y.1 = (n, [])
          rw [if_neg (by rw [hx x rfl]; exact h2), hx x rfl]
          intro y hy; cases hy; rfl
      have hst3 : EySt (w1.setCell ⟨w.heap.size + 1 + 1, 0, none⟩ (.int .i64 (n : Int))) (w.heap.size + 1 + 1) (w.heap.size + 1) l (rest P) := by
        have : rest P = rest R := by
          rw [HK.out]
          cases R with
          | error e => rfl
          | ok x =>
            show rest (if x.1 = 0 then mapR (opP x.2) (fun ps => (0, ps)) else .ok ((x.1, []), x.2)) = _
            rw [if_neg (by rw [hx x rfl]; exact h2)]
            rfl
        rw [this]; exact hst1
      have hres3 := hres2
      have hrr3 := hsp
      have HB3 := HB2
      have he3 := hn
      have hpk : ∀ p ∈ ([] : List Part), PartOk 1000000 p := by simp
      clear cO HK hx hst1 hres2 hsp HB2 hcs
      have hey : ∃ i er, EyAt (w1.setCell ⟨w.heap.size + 1 + 1, 0, none⟩ (.int .i64 (n : Int))) (w.heap.size + 1 + 1) (w.heap.size + 1) l i er ∧ (er = 0 ∧ rest P = .ok (l.drop i) ∨ er ≠ 0 ∧ rest P = .error er) := by
        generalize rest P = st at *
        cases hst3 with
        | ok h => exact ⟨_, 0, h, .inl ⟨rfl, rfl⟩⟩
        | bad he h => exact ⟨_, _, h, .inr ⟨he, rfl⟩⟩
      obtain ⟨i, er, hey, hcase⟩ := hey
      have hile := hey.le

      obtain ⟨a9, c9, hblk, hlc, ho⟩ := hey.form
      rw [hll] at hblk hile
      obtain ⟨⟨k0, k1, k2⟩, hbl, f1, f2⟩ := ey_cells hblk
      obtain ⟨⟨p0, p1⟩, pl, pf0, pf1⟩ := rec_cells hrr3
      clear ho hlc hblk hst3
      rcases hcase with ⟨rfl, hP⟩ | ⟨her, hP⟩
      · by_cases hil : i < ll
        · have hiz : (i : Int) < (ll : Int) := by omega
          have HF : Hid (F = 4) := by
            show _ = _
            have : endE (rest P) = 4 := by rw [hP, List.drop_eq_getElem_cons (by omega)]; rfl
            rw [HF1.out, this, if_pos (by decide)]
          have HO : Hid (O = (0, [])) := by show _ = _; rw [HO1.out, if_pos (by rw [HF.out]; decide)]
          obtain ⟨hey4, hch4⟩ := hey.wrong 4
          obtain ⟨a9, c9, hblk, _, _⟩ := hey4.form
          obtain ⟨⟨k0', k1', k2'⟩, hbl', f1', f2'⟩ := ey_cells hblk
          have hres4 := hch4.row hres3 (by omega)
          obtain ⟨⟨r0, r1⟩, rl, rf0, rf1⟩ := rec_cells hres4
          have HBz := HB3.size
          have HB4 := (HB3.trans (hch4.below (B := w.heap.size) (fun k e => by omega) HBz))
          have HBz4 := HB4.size
          clear HF1 HO1 hP hblk hey hey4 hx3 hch4 HB3
          have hS0 := zr_make k2' hres4 hbl' HB4
          go_wp2_with fail
          go_region_held3 (fun w' => w'.cell? ⟨w.heap.size + 1, 2, none⟩ = some (.int .i64 4) ∧ w'.cell? ⟨w.heap.size, 0, none⟩ = some (.int .i64 0) ∧ w'.cell? ⟨w.heap.size, 1, none⟩ = some (.slice none 0 0) ∧ w'.frozen? ⟨w.heap.size, 0, none⟩ = false ∧ w'.frozen? ⟨w.heap.size, 1, none⟩ = false ∧ w'.heap[w.heap.size]? = some (.cells #[.int .i64 0, .slice none 0 0] 74 (0, 0)) ∧ w.heap.size + 1 < w'.heap.size ∧ Below w.heap.size w w') (with_reducible first | exact zr_drew hS0 | exact zr_drew (zr_keep hS0) | assumption | exact zr_keep (by assumption)) (fail)
          have hSf := zr_drew (zr_keep hS0)
          clear hS0
          generalize ((((w1.setCell ⟨w.heap.size + 1 + 1, 0, none⟩ (.int .i64 (n : Int))).setCell ⟨w.heap.size + 1, 2, none⟩ (.int .i64 4)).setCell ⟨w.heap.size, 0, none⟩ (.int .i64 0)).setCell ⟨w.heap.size, 1, none⟩ (.slice none 0 0)).drew = w9 at *
          go_wp2_with fail
          obtain ⟨_, t0, t1, _, _, _, _, HB9⟩ := hSf
          refine bodyPost_ret (v := .tuple #[.agg #[.int .i64 ((0 : Nat) : Int), .slice none 0 0], .int .i64 4]) (by simp [results, Tryd.results91, go_sem, t0, t1]) rfl ⟨.slice none 0 0, ?_, ?_, HB9⟩
          · rw [HF.out, HO.out]
          · rw [HO.out]; exact World.ownsRow_nil _ _ _ _
        · obtain rfl : i = ll := by omega
          have hiz : ¬ (i : Int) < (i : Int) := by omega
          have hP2 : ∃ x, P = .ok (x, []) := by
            cases P with
            | error e => cases hP
            | ok y =>
              obtain ⟨x, r⟩ := y
              have h6 : Except.ok r = (Except.ok (l.drop i) : Except Int (List Nat)) := hP
              cases h6
              exact ⟨x, by rw [List.drop_eq_nil_of_le (by omega)]⟩
          obtain ⟨x, hP2⟩ := hP2
          have hxe : x = (n, []) := hx3 (x, []) hP2
          have HF : Hid (F = recordErr (n : Nat) []) := by
            show _ = _
            rw [HF1.out, hP2, hxe]
            show (if (0 : Int) ≠ 0 then _ else recordErr (n : Nat) []) = _
            rw [if_neg (by simp)]
          have HOx : Hid (O = if F ≠ 0 then (0, []) else (n, [])) := by show _ = _; rw [HO1.out, hP2, hxe]
          have hopA : OpAt (w1.setCell ⟨w.heap.size + 1 + 1, 0, none⟩ (.int .i64 (n : Int))) none [] := .inl rfl
          have cC := recordFault_any ((n : Nat) : Int) [] none 0 _ hopA (by simp) (fun p hp => by have := (hpk p hp).2.2; omega) (hT.below HB3)
          rw [show ([] : List Part).length = 0 from rfl] at cC
          have HBz := HB3.size
          clear HF1 HO1 hP hx3 hP2 hxe hopA
          generalize recordErr ((n : Nat) : Int) [] = er at *
          go_wp2_with fail
          refine cC.mono ?_
          generalize (w1.setCell ⟨w.heap.size + 1 + 1, 0, none⟩ (.int .i64 (n : Int))) = w3 at *
          rintro r w4 ⟨rfl, hb4⟩
          have hb4z := hb4.size
          have hey4 := hey.chg (F := fun k => w3.heap.size ≤ k) ⟨hb4.os, hb4.tape, hb4.output, hb4.size, fun k hk h => hb4.block k (by omega)⟩ (fun k hk => by omega)
          have hrr4 := (hb4.block _ (Array.getElem?_eq_some_iff.1 hrr3).1).trans hrr3
          have hres4 := (hb4.block _ (Array.getElem?_eq_some_iff.1 hres3).1).trans hres3
          skip
          have HB4 := below_two HB3 hb4 (Nat.le_refl _)
          have HBz4 := HB4.size
          clear k0 k1 k2 f1 f2 hbl p0 p1 pl pf0 pf1 hrr3 hres3 HB3 hey cC
          obtain ⟨a9, c9, hblk, _, _⟩ := hey4.form
          obtain ⟨⟨k0, k1, k2⟩, hbl, f1, f2⟩ := ey_cells hblk
          have hblk4 := hblk
          clear hblk
          obtain ⟨hey5, hch5⟩ := hey4.wrong er
          obtain ⟨a8, c8, hblk, _, _⟩ := hey5.form
          obtain ⟨⟨j0, j1, j2⟩, jl, jf1, jf2⟩ := ey_cells hblk
          have hrr5 := hch5.row hrr4 (by omega)
          have hres5 := hch5.row hres4 (by omega)
          have HB5 := HB4.trans (hch5.below (B := w.heap.size) (fun k e => by omega) HBz4)
          have HBz5 := HB5.size
          skip
          obtain ⟨⟨p0, p1⟩, pl, pf0, pf1⟩ := rec_cells hrr5
          obtain ⟨⟨r0, r1⟩, rl, rf0, rf1⟩ := rec_cells hres5
          clear hblk hblk4 hey5 hey4 hrr4 hres4 HB4 hch5 hb4
          by_cases h7 : er = 0
          · subst h7
            have HO : Hid (O = (n, [])) := by show _ = _; rw [HOx.out, HF.out, if_neg (by simp)]
            obtain ⟨hfin, hch6⟩ := rec_store hres5 (x := .int .i64 ((n : Nat) : Int)) (y := .slice none 0 0)
            skip
            have HB6 := HB5.trans (hch6.below (fun k e => by omega) HBz5)
            clear HOx hch6 HB5 hrr5
            go_wp2_with fail
            generalize ((w4.setCell ⟨w.heap.size + 1, 2, none⟩ (.int .i64 0)).setCell ⟨w.heap.size, 0, none⟩ (.int .i64 (n : Int))).setCell ⟨w.heap.size, 1, none⟩ (.slice none 0 0) = w9 at *
            obtain ⟨⟨t0, t1⟩, _⟩ := rec_cells hfin
            refine bodyPost_ret (v := .tuple #[.agg #[.int .i64 ((n : Nat) : Int), .slice none 0 0], .int .i64 0]) (by simp [results, Tryd.results91, go_sem, t0, t1]) rfl ⟨.slice none 0 0, ?_, ?_, HB6⟩
            · rw [HF.out, HO.out]
            · rw [HO.out]
              exact World.ownsRow_nil _ _ _ _
          · have g7 : (er == 0) = false := by simpa using h7
            have HO : Hid (O = (0, [])) := by show _ = _; rw [HOx.out, HF.out, if_pos h7]
            clear HOx hrr5
            have hS0 := zr_make j2 hres5 jl HB5
            go_wp2_with fail
            go_region_held3 (fun w' => w'.cell? ⟨w.heap.size + 1, 2, none⟩ = some (.int .i64 er) ∧ w'.cell? ⟨w.heap.size, 0, none⟩ = some (.int .i64 0) ∧ w'.cell? ⟨w.heap.size, 1, none⟩ = some (.slice none 0 0) ∧ w'.frozen? ⟨w.heap.size, 0, none⟩ = false ∧ w'.frozen? ⟨w.heap.size, 1, none⟩ = false ∧ w'.heap[w.heap.size]? = some (.cells #[.int .i64 0, .slice none 0 0] 74 (0, 0)) ∧ w.heap.size + 1 < w'.heap.size ∧ Below w.heap.size w w') (with_reducible first | exact zr_drew hS0 | exact zr_drew (zr_keep hS0) | assumption | exact zr_keep (by assumption)) (fail)
            have hSf := zr_drew (zr_keep hS0)
            clear hS0
            generalize (((w4.setCell ⟨w.heap.size + 1, 2, none⟩ (.int .i64 er)).setCell ⟨w.heap.size, 0, none⟩ (.int .i64 0)).setCell ⟨w.heap.size, 1, none⟩ (.slice none 0 0)).drew = w9 at *
            go_wp2_with fail
            obtain ⟨_, t0, t1, _, _, _, _, HB9⟩ := hSf
            refine bodyPost_ret (v := .tuple #[.agg #[.int .i64 ((0 : Nat) : Int), .slice none 0 0], .int .i64 er]) (by simp [results, Tryd.results91, go_sem, t0, t1]) rfl ⟨.slice none 0 0, ?_, ?_, HB9⟩
            · rw [HF.out, HO.out]
            · rw [HO.out]; exact World.ownsRow_nil _ _ _ _
      · have g : (er == 0) = false := by simpa using her
        have HF : Hid (F = er) := by
          show _ = _
          have : endE (rest P) = er := by rw [hP]; rfl
          rw [HF1.out, this, if_pos her]
        have HO : Hid (O = (0, [])) := by show _ = _; rw [HO1.out, if_pos (by rw [HF.out]; exact her)]
        obtain ⟨⟨r0, r1⟩, rl, rf0, rf1⟩ := rec_cells hres3
        clear HF1 HO1 hP hey hx3
        have hS0 := zr_make k2 hres3 hbl HB3
        go_wp2_with fail
        go_region_held3 (fun w' => w'.cell? ⟨w.heap.size + 1, 2, none⟩ = some (.int .i64 er) ∧ w'.cell? ⟨w.heap.size, 0, none⟩ = some (.int .i64 0) ∧ w'.cell? ⟨w.heap.size, 1, none⟩ = some (.slice none 0 0) ∧ w'.frozen? ⟨w.heap.size, 0, none⟩ = false ∧ w'.frozen? ⟨w.heap.size, 1, none⟩ = false ∧ w'.heap[w.heap.size]? = some (.cells #[.int .i64 0, .slice none 0 0] 74 (0, 0)) ∧ w.heap.size + 1 < w'.heap.size ∧ Below w.heap.size w w') (with_reducible first | exact zr_drew hS0 | exact zr_drew (zr_keep hS0) | assumption | exact zr_keep (by assumption)) (fail)
        have hSf := zr_drew (zr_keep hS0)
        clear hS0
        generalize (((w1.setCell ⟨w.heap.size + 1 + 1, 0, none⟩ (.int .i64 (n : Int))).setCell ⟨w.heap.size, 0, none⟩ (.int .i64 0)).setCell ⟨w.heap.size, 1, none⟩ (.slice none 0 0)).drew = w9 at *
        go_wp2_with fail
        obtain ⟨_, t0, t1, _, _, _, _, HB9⟩ := hSf
        refine bodyPost_ret (v := .tuple #[.agg #[.int .i64 ((0 : Nat) : Int), .slice none 0 0], .int .i64 er]) (by simp [results, Tryd.results91, go_sem, t0, t1]) rfl ⟨.slice none 0 0, ?_, ?_, HB9⟩
        · rw [HF.out, HO.out]
        · rw [HO.out]; exact World.ownsRow_nil _ _ _ _

end Go.Proofs.YtknjnfknalfbdaaDoor
