/-
  Walks: tape.encodeLength, tape.Append.
-/
import Derived.Test.YtknjnfknalfbdaaDoorTapeOps
import Derived.Test.YtknjnfknalfbdaaDoorConcat
import Derived.Test.YtknjnfknalfbdaaDoorEncBad
import Derived.Test.YtknjnfknalfbdaaDoorTapeDef
namespace Go.Proofs.YtknjnfknalfbdaaDoor
open Go.RowKit Go.Lib

set_option maxRecDepth 100000 in
set_option maxHeartbeats 1000000 in
theorem encodeLength_any (n : Nat) (w : World) (_hn : n ≤ 9223372036854775807) :
    Calls Tryd.prog 86 #[.int .i64 (n : Int)] w fun r w' => r = .returned (.agg #[.int .u8 ((n / 65536 % 256 : Nat) : Int), .int .u8 ((n / 256 % 256 : Nat) : Int), .int .u8 ((n % 256 : Nat) : Int)]) ∧ Below w.heap.size w w' := by
  go_enter Tryd.func86, Tryd.ntmps86
  go_wp2_with fail
  have hres := heap_alloc_new w (.cells #[.int .u8 ((n : Int) / 65536 % 256), .int .u8 ((n : Int) / 256 % 256), .int .u8 ((n : Int) % 256)] 140)
  have HB := (Below.refl w.heap.size w).alloc (Nat.le_refl _) (.cells #[.int .u8 ((n : Int) / 65536 % 256), .int .u8 ((n : Int) / 256 % 256), .int .u8 ((n : Int) % 256)] 140)
  generalize (w.alloc (.cells #[.int .u8 ((n : Int) / 65536 % 256), .int .u8 ((n : Int) / 256 % 256), .int .u8 ((n : Int) % 256)] 140)) = w9 at *
  obtain ⟨t0, _, _⟩ := blk hres
  refine bodyPost_ret (v := .agg #[.int .u8 ((n : Int) / 65536 % 256), .int .u8 ((n : Int) / 256 % 256), .int .u8 ((n : Int) % 256)]) (by simp [results, Tryd.results86, go_sem, t0]) rfl ⟨?_, HB⟩
  simp

/-- P4.2: what Append answers -/
def appendT (l : List Nat) (s : Int) (e : Int) (ps : List Part) : List Nat × Int × Int :=
  if tapeOk l.length s then (if recordErr e ps ≠ 0 then ([], 0, recordErr e ps) else if 8388608 < l.length + 3 + (recW e.toNat ps).length then ([], 0, 8) else (l ++ recT (e.toNat, ps), s, 0)) else ([], 0, 9)
theorem tape_three (w : World) (o p q : Obj) : (((w.alloc o).alloc p).alloc q).heap[w.heap.size]? = some o ∧ (((w.alloc o).alloc p).alloc q).heap[w.heap.size + 1]? = some p ∧ (((w.alloc o).alloc p).alloc q).heap[w.heap.size + 1 + 1]? = some q ∧ Below w.heap.size w (((w.alloc o).alloc p).alloc q) ∧ (((w.alloc o).alloc p).alloc q).heap.size = w.heap.size + 3 := by
  obtain ⟨h1, h2, h3, h4⟩ := tape_two w o p
  have h5 := heap_alloc_new ((w.alloc o).alloc p) q
  rw [h4] at h5
  exact ⟨row_old h1 q, row_old h2 q, h5, h3.alloc h3.size q, by simp⟩

theorem tp_keep2 {b : Nat} {x y : Value} {w' : World} (h : (fun w' : World => w'.cell? ⟨b, 0, none⟩ = some x ∧ w'.cell? ⟨b, 1, none⟩ = some y) w') (u v : Value) : (fun w' : World => w'.cell? ⟨b, 0, none⟩ = some x ∧ w'.cell? ⟨b, 1, none⟩ = some y) ((w'.setCell ⟨b + 1 + 1, 0, none⟩ u).setCell ⟨b + 1 + 1, 1, none⟩ v) := by
  have hc : ∀ j, ((w'.setCell ⟨b + 1 + 1, 0, none⟩ u).setCell ⟨b + 1 + 1, 1, none⟩ v).cell? ⟨b, j, none⟩ = w'.cell? ⟨b, j, none⟩ := fun j => World.cell?_of_block (a := ⟨b, j, none⟩) (by
    show ((w'.setCell ⟨b + 1 + 1, 0, none⟩ u).setCell ⟨b + 1 + 1, 1, none⟩ v).heap[b]? = w'.heap[b]?
    have hn : b ≠ b + 1 + 1 := by omega
    rw [Below.heap_setCell _ _ _ _ hn, Below.heap_setCell _ _ _ _ hn])
  exact ⟨(hc 0).trans h.1, (hc 1).trans h.2⟩
/-- 'slices.Concat(x, y, z)' -/
theorem concat3 {w : World} {X Y Z : List Nat} {ax ay az : Option Addr} {cx cy cz : Nat} (hx : BArg w ax cx X) (hy : BArg w ay cy Y) (hz : BArg w az cz Z) (hl : 0 < (X ++ Y ++ Z).length ∧ (X ++ Y ++ Z).length ≤ 50000000000) :
    Calls Tryd.prog 87 #[.slice (some ⟨w.heap.size, 0, none⟩) 3 3] (w.alloc (.cells #[.slice ax X.length cx, .slice ay Y.length cy, .slice az Z.length cz] 75)).drew fun r w' => ∃ v, r = .returned v ∧ w'.ownsRow w.drew.heap.size 5 1 v (X ++ Y ++ Z).length (octs (X ++ Y ++ Z)) ∧ Below w.drew.heap.size w.drew w' := by
  have hb0 : Below w.heap.size w (w.alloc (.cells #[.slice ax X.length cx, .slice ay Y.length cy, .slice az Z.length cz] 75)).drew := ((Below.refl w.heap.size w).alloc (Nat.le_refl _) _).trans ⟨rfl, rfl, rfl, Nat.le_refl _, fun _ _ => rfl⟩
  have hblk := heap_alloc_new w (.cells #[.slice ax X.length cx, .slice ay Y.length cy, .slice az Z.length cz] 75)
  obtain ⟨q0, ql0, _⟩ := blk hblk
  have hf : [X, Y, Z].flatten = X ++ Y ++ Z := by simp
  have cJ := concat_any [X, Y, Z] (some ⟨w.heap.size, 0, none⟩) 3 (w.alloc (.cells #[.slice ax X.length cx, .slice ay Y.length cy, .slice az Z.length cz] 75)).drew (.inr ⟨w.heap.size, 0, rfl, ql0, fun i hi => by
    have h3 : i < 3 := hi
    match i, h3 with
    | 0, _ => exact ⟨ax, cx, q0 0, hx.below hb0⟩
    | 1, _ => exact ⟨ay, cy, q0 1, hy.below hb0⟩
    | 2, _ => exact ⟨az, cz, q0 2, hz.below hb0⟩⟩) (by rw [hf]; exact hl.1) (by rw [hf]; exact hl.2) (by simp)
  rw [hf] at cJ
  refine cJ.mono ?_
  rintro r w1 ⟨v, rfl, hown, hb1⟩
  have hbd : Below w.drew.heap.size w.drew _ := ⟨hb0.os, hb0.tape, hb0.output, hb0.size, hb0.block⟩
  exact ⟨v, rfl, own_base hown hb0.size, below_two hbd hb1 (Nat.le_refl _)⟩

set_option maxRecDepth 100000 in
set_option maxHeartbeats 2000000 in
theorem append_any (l : List Nat) (a : Option Addr) (c : Nat) (s e : Int) (ps : List Part) (ra : Option Addr) (rc : Nat) (w : World) (h : BArg w a c l) (hl : l.length ≤ 140737488351232) (hop : OpAt w ra ps) (hps : ps.length ≤ 1048576) (hst : ∀ p ∈ ps, p.text.size ≤ 1048576) (hT : Tabs w) :
    Calls Tryd.prog 42 #[.agg #[.slice a l.length c, .int .i64 s], .agg #[.int .i64 e, .slice ra ps.length rc]] w fun r w' => ∃ v, r = .returned (.tuple #[.agg #[v, .int .i64 (appendT l s e ps).2.1], .int .i64 (appendT l s e ps).2.2]) ∧ w'.ownsRow w.heap.size 5 1 v (appendT l s e ps).1.length (octs (appendT l s e ps).1) ∧ Below w.heap.size w w' := by
  obtain ⟨hpar, hrec, hres, HB0, hz⟩ := tape_three w (.cells #[.slice a l.length c, .int .i64 s] 80) (.cells #[.int .i64 e, .slice ra ps.length rc] 74) (.cells #[.slice none 0 0, .int .i64 0] 80)
  have cM := mayBe_any l.length s a c (((w.alloc (.cells #[.slice a l.length c, .int .i64 s] 80)).alloc (.cells #[.int .i64 e, .slice ra ps.length rc] 74)).alloc (.cells #[.slice none 0 0, .int .i64 0] 80)) (by omega)
  have hz0 : w.heap.size < (((w.alloc (.cells #[.slice a l.length c, .int .i64 s] 80)).alloc (.cells #[.int .i64 e, .slice ra ps.length rc] 74)).alloc (.cells #[.slice none 0 0, .int .i64 0] 80)).heap.size := by omega
  have hz1 : w.heap.size + 1 < (((w.alloc (.cells #[.slice a l.length c, .int .i64 s] 80)).alloc (.cells #[.int .i64 e, .slice ra ps.length rc] 74)).alloc (.cells #[.slice none 0 0, .int .i64 0] 80)).heap.size := by omega
  have hz2 : w.heap.size + 1 + 1 < (((w.alloc (.cells #[.slice a l.length c, .int .i64 s] 80)).alloc (.cells #[.int .i64 e, .slice ra ps.length rc] 74)).alloc (.cells #[.slice none 0 0, .int .i64 0] 80)).heap.size := by omega
  have hzb : w.heap.size ≤ (((w.alloc (.cells #[.slice a l.length c, .int .i64 s] 80)).alloc (.cells #[.int .i64 e, .slice ra ps.length rc] 74)).alloc (.cells #[.slice none 0 0, .int .i64 0] 80)).heap.size := by omega
  clear hz
  by_cases hok : tapeOk l.length s
  · rw [decide_eq_true hok] at cM
    have hs1 := hok.1
    by_cases herr : recordErr e ps = 0
    · have cE := fun w1 (hb : Below w.heap.size w w1) => encodeRecord_ok e ps ra rc w1 (hop.below hb) hst (hT.below hb) herr
      obtain ⟨hr, hnn, ho⟩ := recordErr_zero herr
      obtain ⟨hpl, hpw⟩ := opErr_parts ho hst
      have hbig : (recW e.toNat ps).length ≤ 30000000000 := by
        unfold recW
        have h1 := opW_bound hpl hpw
        have h2 := sev_le (n := e.toNat) (by omega)
        rw [List.length_append]
        split
        · omega
        · simp; omega
      obtain ⟨R, hR⟩ : ∃ R, R = appendT l s e ps := ⟨_, rfl⟩
      rw [← hR]
      unfold appendT at hR
      rw [if_pos hok, if_neg (by simpa using herr)] at hR
      have HT : Hid (recT (e.toNat, ps) = head3 (recW e.toNat ps).length ++ recW e.toNat ps) := rfl
      have HR : Hid (R = if 8388608 < l.length + 3 + (recW e.toNat ps).length then ([], 0, 8) else (l ++ recT (e.toNat, ps), s, 0)) := hR
      clear hR hok herr hr hnn ho hpl hpw
      generalize recT (e.toNat, ps) = RT at *
      generalize recW e.toNat ps = L at *
      obtain ⟨q0, _, _⟩ := blk hpar
      go_enter Tryd.func42, Tryd.ntmps42
      go_wp2_with fail
      refine cM.mono ?_
      generalize (((w.alloc (.cells #[.slice a l.length c, .int .i64 s] 80)).alloc (.cells #[.int .i64 e, .slice ra ps.length rc] 74)).alloc (.cells #[.slice none 0 0, .int .i64 0] 80)) = w0 at *
      rintro r w1 ⟨rfl, hb1⟩
      have HB1 := below_two HB0 hb1 (Nat.le_refl _)
      replace hpar := (hb1.block _ hz0).trans hpar
      replace hrec := (hb1.block _ hz1).trans hrec
      replace hres := (hb1.block _ hz2).trans hres
      replace cE := cE w1 HB1
      clear cM q0 hb1
      obtain ⟨q0, ql0, _⟩ := blk hpar
      obtain ⟨q1, ql1, _⟩ := blk hrec
      obtain ⟨q2, ql2, _⟩ := blk hres
      go_wp2_with fail
      refine cE.mono ?_
      rintro r w2 ⟨v2, rfl, hown2, hb2⟩
      obtain ⟨ba, bc, rfl, hbA⟩ := bArg_own hown2
      have HB2 := below_two HB1 hb2 (Nat.le_refl _)
      replace hpar := (hb2.block _ ql0).trans hpar
      replace hres := (hb2.block _ ql2).trans hres
      have cL := encodeLength_any L.length w2 (by omega)
      obtain ⟨x0, hx0⟩ : ∃ x0, x0 = L.length / 65536 % 256 := ⟨_, rfl⟩
      obtain ⟨x1, hx1⟩ : ∃ x1, x1 = L.length / 256 % 256 := ⟨_, rfl⟩
      obtain ⟨x2, hx2⟩ : ∃ x2, x2 = L.length % 256 := ⟨_, rfl⟩
      rw [← hx0, ← hx1, ← hx2] at cL
      have HX : Hid (L.length < 16777216 → head3 L.length = [x0, x1, x2]) := by
        show _ → _
        intro hlt
        unfold head3
        rw [hx0, hx1, hx2, Nat.mod_eq_of_lt (a := L.length / 65536) (by omega)]
      clear hx0 hx1 hx2
      clear cE q0 q1 q2 ql0 ql1 ql2 hrec hb2
      obtain ⟨q0, ql0, _⟩ := blk hpar
      obtain ⟨q2, ql2, qf2⟩ := blk hres
      go_wp2_with fail
      refine cL.mono ?_
      rintro r w3 ⟨rfl, hb3⟩
      have HB3 := below_two HB2 hb3 (Nat.le_refl _)
      replace hpar := row_old ((hb3.block _ ql0).trans hpar) (.cells #[.int .u8 (x0 : Int), .int .u8 (x1 : Int), .int .u8 (x2 : Int)] 140)
      replace hres := row_old ((hb3.block _ ql2).trans hres) (.cells #[.int .u8 (x0 : Int), .int .u8 (x1 : Int), .int .u8 (x2 : Int)] 140)
      have hhd := heap_alloc_new w3 (.cells #[.int .u8 (x0 : Int), .int .u8 (x1 : Int), .int .u8 (x2 : Int)] 140)
      have hba := (Below.refl w3.heap.size w3).alloc (Nat.le_refl _) (.cells #[.int .u8 (x0 : Int), .int .u8 (x1 : Int), .int .u8 (x2 : Int)] 140)
      have HB4 := below_two HB3 hba (Nat.le_refl _)
      have hbA4 := (hbA.below hb3).below hba
      have hz4 := HB4.size
      clear cL q0 q2 qf2 ql0 ql2 hb3 hbA hown2 HB3 HB2 HB1 HB0 hba
      obtain ⟨q0, ql0, _⟩ := blk hpar
      obtain ⟨q2, ql2, qf2⟩ := blk hres
      by_cases hf : 8388608 < l.length + 3 + L.length
      · have hfz : (8388608 : Int) < (l.length : Int) + 3 + (L.length : Int) := by omega
        have HN : Hid (R = ([], 0, 8)) := by show _ = _; rw [HR.out, if_pos hf]
        obtain ⟨hfin, hch⟩ := tape_store hres (x := .slice none 0 0) (y := .int .i64 0)
        go_wp2_with fail
        generalize (((w3.alloc (.cells #[.int .u8 (x0 : Int), .int .u8 (x1 : Int), .int .u8 (x2 : Int)] 140)).setCell ⟨w.heap.size + 1 + 1, 0, none⟩ (.slice none 0 0)).setCell ⟨w.heap.size + 1 + 1, 1, none⟩ (.int .i64 0)) = w9 at *
        obtain ⟨t0, _, _⟩ := blk hfin
        refine bodyPost_ret (v := .tuple #[.agg #[.slice none 0 0, .int .i64 0], .int .i64 8]) (by simp [results, Tryd.results42, go_sem, t0]) rfl ⟨.slice none 0 0, by rw [HN.out], by rw [HN.out]; exact tape_own_zero _ _, HB4.trans (hch.below (fun i e => by omega) HB4.size)⟩
      · have hfz : ¬ (8388608 : Int) < (l.length : Int) + 3 + (L.length : Int) := by omega
        have HN : Hid (R = (l ++ [x0, x1, x2] ++ L, s, 0)) := by show _ = _; rw [HR.out, if_neg hf, HT.out, HX.out (by omega), List.append_assoc]
        have hh : Bytes (w3.alloc (.cells #[.int .u8 (x0 : Int), .int .u8 (x1 : Int), .int .u8 (x2 : Int)] 140)) (some ⟨w3.heap.size, 0, none⟩) [x0, x1, x2] := by
          obtain ⟨q9, ql9, _⟩ := blk hhd
          refine .inr ⟨w3.heap.size, 0, rfl, ql9, fun i hi => ?_⟩
          rw [q9]
          have h3 : i < 3 := hi
          match i, h3 with
          | 0, _ => rfl
          | 1, _ => rfl
          | 2, _ => rfl
        have hhA : BArg (w3.alloc (.cells #[.int .u8 (x0 : Int), .int .u8 (x1 : Int), .int .u8 (x2 : Int)] 140)) (some ⟨w3.heap.size, 0, none⟩) 3 [x0, x1, x2] := ⟨hh, Nat.le_refl _, fun e => by cases e⟩
        have hlA := h.below HB4
        clear hh hhd HR HT HX h hop hst hT
        go_wp2_with fail
        clear q2 ql2 qf2 q0 ql0
        generalize (w3.alloc (.cells #[.int .u8 (x0 : Int), .int .u8 (x1 : Int), .int .u8 (x2 : Int)] 140)) = w4 at *
        have hS0 := tp_of hpar
        have HBd := below_two HB4 (below_drew w4) (Nat.le_refl _)
        have hres0 : w4.drew.heap[w.heap.size + 1 + 1]? = some (.cells #[.slice none 0 0, .int .i64 0] 80 (0, 0)) := hres
        have cK : Calls Tryd.prog 87 #[.slice (some ⟨w4.heap.size, 0, none⟩) 3 3] (w4.alloc (.cells #[.slice a l.length c, .slice (some ⟨w3.heap.size, 0, none⟩) 3 3, .slice ba L.length bc] 75)).drew fun r w' => ∃ v, r = .returned v ∧ w'.ownsRow w4.drew.heap.size 5 1 v (l ++ [x0, x1, x2] ++ L).length (octs (l ++ [x0, x1, x2] ++ L)) ∧ Below w4.drew.heap.size w4.drew w' := concat3 hlA hhA hbA4 (by simp; omega)
        generalize l ++ [x0, x1, x2] ++ L = RR at *
        clear hpar hres hlA hhA hbA4 HB4
        go_region_held3 (fun w' => w'.cell? ⟨w.heap.size, 0, none⟩ = some (.slice a l.length c) ∧ w'.cell? ⟨w.heap.size, 1, none⟩ = some (.int .i64 s)) (with_reducible first | exact hS0 | assumption | exact tp_alloc_drew hS0 _ | exact tp_below hS0 hbz | exact tp_keep2 (by assumption) _ _) (first | (go_at_call 87; with_reducible refine Calls.mono cK ?_; rintro e wz ⟨v, rfl, hown, hbz⟩; have hof := own_form hown; obtain ⟨va, vc, rfl⟩ := hof; have hresz := (hbz.block _ (Array.getElem?_eq_some_iff.1 hres0).1).trans hres0; have hbk := blk hresz; obtain ⟨rz, rlz, rfz⟩ := hbk))
        have hresz := (hbz.block _ (Array.getElem?_eq_some_iff.1 hres0).1).trans hres0
        have HBz := below_two HBd hbz (Nat.le_refl _)
        obtain ⟨hfin, hch⟩ := tape_store hresz (x := .slice va RR.length vc) (y := .int .i64 s)
        have hown2 := own_chg hown hch (fun k hk e => row_ne hown hresz (by decide) (by rw [← e]; exact hk.symm))
        have hB1 := HBd.size
        go_wp2_with fail
        generalize ((wz.setCell ⟨w.heap.size + 1 + 1, 0, none⟩ (.slice va RR.length vc)).setCell ⟨w.heap.size + 1 + 1, 1, none⟩ (.int .i64 s)) = w9 at *
        obtain ⟨t0, _, _⟩ := blk hfin
        refine bodyPost_ret (v := .tuple #[.agg #[.slice va RR.length vc, .int .i64 s], .int .i64 0]) (by simp [results, Tryd.results42, go_sem, t0]) rfl ⟨.slice va RR.length vc, by rw [HN.out], by rw [HN.out]; exact own_base hown2 hB1, HBz.trans (hch.below (fun i e => by omega) HBz.size)⟩
    · have cE := fun w1 (hb : Below w.heap.size w w1) => encodeRecord_bad e ps ra rc w1 (hop.below hb) (by omega) (fun p hp => by have := hst p hp; omega) (hT.below hb) herr
      have hR : appendT l s e ps = ([], 0, recordErr e ps) := by unfold appendT; rw [if_pos hok, if_pos herr]
      rw [hR]
      have g : (recordErr e ps != 0) = true := by simpa using herr
      generalize recordErr e ps = er at *
      clear hR hok h
      obtain ⟨q0, _, _⟩ := blk hpar
      go_enter Tryd.func42, Tryd.ntmps42
      go_wp2_with fail
      refine cM.mono ?_
      generalize (((w.alloc (.cells #[.slice a l.length c, .int .i64 s] 80)).alloc (.cells #[.int .i64 e, .slice ra ps.length rc] 74)).alloc (.cells #[.slice none 0 0, .int .i64 0] 80)) = w0 at *
      rintro r w1 ⟨rfl, hb1⟩
      have HB1 := below_two HB0 hb1 (Nat.le_refl _)
      replace hrec := (hb1.block _ hz1).trans hrec
      replace hres := (hb1.block _ hz2).trans hres
      replace cE := cE w1 HB1
      clear cM q0 hb1 hpar
      obtain ⟨q1, ql1, _⟩ := blk hrec
      obtain ⟨q2, ql2, _⟩ := blk hres
      go_wp2_with fail
      refine cE.mono ?_
      rintro r w2 ⟨rfl, hb2⟩
      have HB2 := below_two HB1 hb2 (Nat.le_refl _)
      replace hres := (hb2.block _ ql2).trans hres
      obtain ⟨hfin, hch⟩ := tape_store hres (x := .slice none 0 0) (y := .int .i64 0)
      clear cE q1 q2 ql1 ql2 hrec hb2
      obtain ⟨q2, ql2, qf2⟩ := blk hres
      go_wp2_with fail
      generalize ((w2.setCell ⟨w.heap.size + 1 + 1, 0, none⟩ (.slice none 0 0)).setCell ⟨w.heap.size + 1 + 1, 1, none⟩ (.int .i64 0)) = w9 at *
      obtain ⟨t0, _, _⟩ := blk hfin
      refine bodyPost_ret (v := .tuple #[.agg #[.slice none 0 0, .int .i64 0], .int .i64 er]) (by simp [results, Tryd.results42, go_sem, t0]) rfl ⟨.slice none 0 0, rfl, tape_own_zero _ _, HB2.trans (hch.below (fun i e => by omega) HB2.size)⟩
  · have hR : appendT l s e ps = ([], 0, 9) := by unfold appendT; rw [if_neg hok]
    rw [hR]
    rw [decide_eq_false hok] at cM
    clear hR hok h hop hst hT
    obtain ⟨q0, _, _⟩ := blk hpar
    go_enter Tryd.func42, Tryd.ntmps42
    go_wp2_with fail
    refine cM.mono ?_
    generalize (((w.alloc (.cells #[.slice a l.length c, .int .i64 s] 80)).alloc (.cells #[.int .i64 e, .slice ra ps.length rc] 74)).alloc (.cells #[.slice none 0 0, .int .i64 0] 80)) = w0 at *
    rintro r w1 ⟨rfl, hb1⟩
    have HB1 := below_two HB0 hb1 (Nat.le_refl _)
    replace hres := (hb1.block _ hz2).trans hres
    obtain ⟨hfin, hch⟩ := tape_store hres (x := .slice none 0 0) (y := .int .i64 0)
    clear cM q0 hpar hrec
    obtain ⟨q1, ql1, qf1⟩ := blk hres
    go_wp2_with fail
    generalize ((w1.setCell ⟨w.heap.size + 1 + 1, 0, none⟩ (.slice none 0 0)).setCell ⟨w.heap.size + 1 + 1, 1, none⟩ (.int .i64 0)) = w9 at *
    obtain ⟨t0, _, _⟩ := blk hfin
    refine bodyPost_ret (v := .tuple #[.agg #[.slice none 0 0, .int .i64 0], .int .i64 9]) (by simp [results, Tryd.results42, go_sem, t0]) rfl ⟨.slice none 0 0, rfl, tape_own_zero _ _, HB1.trans (hch.below (fun i e => by omega) HB1.size)⟩

end Go.Proofs.YtknjnfknalfbdaaDoor
