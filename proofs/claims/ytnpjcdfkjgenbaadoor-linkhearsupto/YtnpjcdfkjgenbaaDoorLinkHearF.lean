/-
  Walk: link.Hear of a packet that is not bare.
-/
import Derived.Test.YtnpjcdfkjgenbaaDoorLinkHearW
import Derived.Test.YtnpjcdfkjgenbaaDoorLinkFil
namespace Go.Proofs.YtnpjcdfkjgenbaaDoor
open Go.RowKit Go.Lib

theorem hearTo_same {ep nx hd : Int} {S Q : List FrK} {p : PkI} (h : p.number ≠ hd + 1) (hb : p.bare = false) : hearTo (mkL ep nx hd S Q) p = ⟨ep, nx, (behindL (mkL ep nx hd S Q) p.ack).sent, Q.map (·.1), hd⟩ := by
  unfold hearTo toldB
  have : decide (p.number = (mkL ep nx hd S Q).heard + 1) = false := decide_eq_false h
  rw [hb, this]
  rfl
theorem hearTo_told {ep nx hd : Int} {S Q : List FrK} {p : PkI} (h : p.number = hd + 1) (hb : p.bare = false) : hearTo (mkL ep nx hd S Q) p = ⟨ep, nx, (behindL (mkL ep nx hd S Q) p.ack).sent, Q.map (·.1), hd + 1⟩ := by
  unfold hearTo toldB
  have : decide (p.number = (mkL ep nx hd S Q).heard + 1) = true := decide_eq_true h
  rw [hb, this]
  rfl

theorem own_keptF {w w' : World} {B e size : Nat} {v : Value} {n : Nat} {xs : List Value} (h : w.ownsRow B e size v n xs) (hk : KeptF w w') (he : e ≠ 28) : w'.ownsRow B e size v n xs := by
  refine ⟨h.1, ?_⟩
  rcases h.2 with h2 | ⟨g, cap, cur, rfl, hb, hg, h3⟩
  · exact .inl h2
  · exact .inr ⟨g, cap, cur, rfl, hb, hk g cur e he hg, h3⟩
theorem LinkRows.ahead {w w' : World} {B : Nat} {sv qv : Value} {S0 Q0 : List FrI} {b : Nat} (h : LinkRows w B sv qv S0 Q0) (hb : b < B) (hc : Chg (fun k => k = b) w w') : LinkRows w' B sv qv S0 Q0 := by
  obtain ⟨S, Q, m, a1, a2, a3, a4, a5, a6, a7⟩ := h.ex
  refine ⟨S, Q, m, ⟨own_chg a1.row hc (fun k hk e => by have := (a1.row.lt k hk).1; omega), fun x hx => own_chg (a1.each x hx) hc (fun k hk e => by have := ((a1.each x hx).lt k hk).1; omega)⟩, a2, a3, ⟨own_chg a4.row hc (fun k hk e => by have := (a4.row.lt k hk).1; omega), fun x hx => own_chg (a4.each x hx) hc (fun k hk e => by have := ((a4.each x hx).lt k hk).1; omega)⟩, a5, a6, Nat.le_trans a7 hc.size⟩
theorem own_grown {w w' : World} {B B2 e e2 size size2 : Nat} {v v2 : Value} {n n2 : Nat} {xs xs2 : List Value} {o : Obj} (h : w.ownsRow B e size v n xs) (h2 : w.ownsRow B2 e2 size2 v2 n2 xs2) (hg : (w.alloc o).grownBy w' v2.ownBlock) (hT : e ≠ e2) : w'.ownsRow B e size v n xs := own_chg h (((Chg.refl (fun k => v2.ownBlock = some k) w).alloc _).grown hg (fun _ _ e => e)) (own_ne (own_base h (Nat.zero_le _)) (own_base h2 (Nat.zero_le _)) hT)

set_option maxRecDepth 100000 in
set_option maxHeartbeats 8000000 in
theorem lhear_full {B : Nat} (ep nx hd : Int) (S Q : List FrK) (sv qv : Value) (pe num ack fk fh fe : Int) (ps : List Part) (tx : ByteArray) (v : Value) (w : World) (hS : InK frS w B sv S) (hQ : InK frS w B qv Q) (fS : ∀ x ∈ S, FrSmall x.1) (fQ : ∀ x ∈ Q, FrSmall x.1) (lS : S.length ≤ 1048577) (lQ : Q.length ≤ 1048576) (ho : OpVal w v ps) (hs : FrSmall ⟨fk, fh, fe, ps, tx⟩) (hT : Tabs w) (herr : lhearErr (mkL ep nx hd S Q) ⟨pe, num, false, ack, ⟨fk, fh, fe, ps, tx⟩⟩ = 0)
    (H : Int) (T : Bool) (F : FrI) (hH : (num = hd + 1 ∧ H = hd + 1 ∧ T = true ∧ F = ⟨fk, fh, fe, ps, tx⟩) ∨ (num ≠ hd + 1 ∧ H = hd ∧ T = false ∧ F = fr0)) :
    Calls Tryd.prog 5 #[.agg #[.int .i64 ep, .int .i64 nx, sv, qv, .int .i64 hd], .agg #[.int .i64 pe, .int .i64 num, .bool false, .int .i64 ack, .int .i64 fk, .int .i64 fh, .int .i64 fe, v, .string tx]] w fun r w' => ∃ sv' qv' pv fv, r = .returned (.tuple #[.agg #[.int .i64 ep, .int .i64 (nx + (goK (behindL (mkL ep nx hd S Q) ack).sent.length (Q.map (·.1)).length nx : Nat)), sv', qv', .int .i64 H], .agg #[.int .i64 F.kind, .int .i64 F.heard, .int .i64 F.epoch, fv, .string F.text], .bool T, pv, .int .i64 0]) ∧ GoOk w' w.heap.size w.heap.size sv' qv' pv ((LinkI.go ⟨ep, nx, (behindL (mkL ep nx hd S Q) ack).sent, Q.map (·.1), H⟩).1, (LinkI.go ⟨ep, nx, (behindL (mkL ep nx hd S Q) ack).sent, Q.map (·.1), H⟩).2 ++ [⟨ep, 0, true, H, fr0⟩]) ∧ w'.ownsRow w.heap.size 63 3 fv F.op.length (partCells F.op) ∧ Below w.heap.size w w' := by
  obtain ⟨cK, cB, cG, cO, hdb⟩ := hear_setup hS hQ fS fQ lS lQ ho hs hT herr
  simp only at cK cB cG cO
  obtain ⟨p0, hp0, hpz0, hpz1, hpz2⟩ := info_parts info_pk
  obtain ⟨sa, sc, rfl, -⟩ := hS.row
  obtain ⟨qa, qc, rfl, -⟩ := hQ.row
  obtain ⟨ua, uc, rfl, -⟩ := ho.form
  have hgk := goK_le (behindL (mkL ep nx hd S Q) ack).sent.length (Q.map (·.1)).length nx
  generalize (behindL (mkL ep nx hd S Q) ack).sent = S0 at *
  generalize Q.map (·.1) = Q0 at *
  have cG' := cG H
  have HRl : Hid ((LinkI.go ⟨ep, nx, S0, Q0, H⟩).2.length ≤ 8) := by
    show (packs ep H nx (Q0.take (goK S0.length Q0.length nx))).length ≤ 8
    rw [packs_length, List.length_take]
    omega
  generalize LinkI.go ⟨ep, nx, S0, Q0, H⟩ = R at *
  generalize nx + (goK S0.length Q0.length nx : Nat) = N at *
  obtain ⟨hl, hp, hr, hx, HB0, hz⟩ := four_blocks w (.cells #[.int .i64 ep, .int .i64 nx, .slice sa S.length sc, .slice qa Q.length qc, .int .i64 hd] 24) (.cells #[.int .i64 pe, .int .i64 num, .bool false, .int .i64 ack, .int .i64 fk, .int .i64 fh, .int .i64 fe, .slice ua ps.length uc, .string tx] 30) (.cells #[.int .i64 0, .int .i64 0, .slice none 0 0, .slice none 0 0, .int .i64 0] 24) (.cells #[.int .i64 0, .int .i64 0, .int .i64 0, .slice none 0 0, .string ⟨#[]⟩] 28)
  have cK1 := cK _ HB0
  have hxz : w.heap.size + 1 + 1 + 1 < ((((w.alloc (.cells #[.int .i64 ep, .int .i64 nx, .slice sa S.length sc, .slice qa Q.length qc, .int .i64 hd] 24)).alloc (.cells #[.int .i64 pe, .int .i64 num, .bool false, .int .i64 ack, .int .i64 fk, .int .i64 fh, .int .i64 fe, .slice ua ps.length uc, .string tx] 30)).alloc (.cells #[.int .i64 0, .int .i64 0, .slice none 0 0, .slice none 0 0, .int .i64 0] 24)).alloc (.cells #[.int .i64 0, .int .i64 0, .int .i64 0, .slice none 0 0, .string ⟨#[]⟩] 28)).heap.size := by omega
  obtain ⟨l0, ll0, _⟩ := blk hl
  obtain ⟨p0', pl0, _⟩ := blk hp
  have hsl := hs.op.1
  clear cK cG hS hQ fS fQ ho hs hz herr lS lQ hgk
  have HHH : Hid ((num = hd + 1 ∧ H = hd + 1 ∧ T = true ∧ F = ⟨fk, fh, fe, ps, tx⟩) ∨ (num ≠ hd + 1 ∧ H = hd ∧ T = false ∧ F = fr0)) := hH
  clear hH
  go_enter Tryd.func5, Tryd.ntmps5
  go_wp2_with fail
  refine cK1.mono ?_
  generalize ((((w.alloc (.cells #[.int .i64 ep, .int .i64 nx, .slice sa S.length sc, .slice qa Q.length qc, .int .i64 hd] 24)).alloc (.cells #[.int .i64 pe, .int .i64 num, .bool false, .int .i64 ack, .int .i64 fk, .int .i64 fh, .int .i64 fe, .slice ua ps.length uc, .string tx] 30)).alloc (.cells #[.int .i64 0, .int .i64 0, .slice none 0 0, .slice none 0 0, .int .i64 0] 24)).alloc (.cells #[.int .i64 0, .int .i64 0, .int .i64 0, .slice none 0 0, .string ⟨#[]⟩] 28)) = w0 at *
  rintro r w1 ⟨rfl, hb1⟩
  have HB1 := below_two HB0 hb1 (Nat.le_refl _)
  have hz1 := hb1.size
  replace hl := (hb1.block _ ll0).trans hl
  replace hp := (hb1.block _ pl0).trans hp
  replace hr := (hb1.block _ (by omega)).trans hr
  replace hx := (hb1.block _ hxz).trans hx
  clear l0 ll0 p0' pl0 cK1
  have cB1 := cB w1 HB1
  obtain ⟨l0, ll0, _⟩ := blk hl
  obtain ⟨p0', pl0, _⟩ := blk hp
  go_wp2_with fail
  refine cB1.mono ?_
  rintro r w2 ⟨sv1, qv1, rfl, hL, hb2⟩
  obtain ⟨ka, kn, kc, oa, on, oc, rfl, rfl⟩ := hL.forms
  have HB2 := below_two HB1 hb2 (Nat.le_refl _)
  have hz2 := hb2.size
  replace hl := (hb2.block _ ll0).trans hl
  replace hp := (hb2.block _ pl0).trans hp
  replace hr := (hb2.block _ (by omega)).trans hr
  replace hx := (hb2.block _ (by omega)).trans hx
  clear l0 ll0 p0' pl0 cB1 cB
  obtain ⟨hr3, hs3⟩ := puts_all hr [.int .i64 ep, .int .i64 nx, .slice ka kn kc, .slice oa on oc, .int .i64 hd] rfl
  simp only [puts, Nat.zero_add, Nat.reduceAdd] at hr3 hs3
  have hl3 := hs3.row hl (by omega)
  have hp3 := hs3.row hp (by omega)
  have hx3 := hs3.row hx (by omega)
  have hL3 := hL.stored hr (by decide) (by decide) hs3
  have HB3 := HB2.trans (hs3.below (B := w.heap.size) (fun i e => by omega) HB2.size)
  have hz3 := hs3.size
  obtain ⟨r2, rl2, rf2⟩ := blk hr
  obtain ⟨l3, ll3, _⟩ := blk hl3
  obtain ⟨p3, pl3, _⟩ := blk hp3
  obtain ⟨r3, rl3, rf3⟩ := blk hr3
  obtain ⟨x3, xl3, xf3⟩ := blk hx3
  have hd1 := hdb.1
  have hd2 := hdb.2
  clear hs3 hL hx hp hl hr
  rcases HHH.out with ⟨e1, e2, e3, e4⟩ | ⟨e1, e2, e3, e4⟩
  · subst e3 e1 e2
    have HF : Hid (F = ⟨fk, fh, fe, ps, tx⟩) := e4
    have g1 : (hd + 1 == hd + 1) = true := by simp
    clear e4 HHH
    go_wp2_with fail
    obtain ⟨hr4, hs4⟩ := blk_put hr3 4 (.int .i64 (hd + 1))
    have hp4 := hs4.row hp3 (by omega)
    have hx4 := hs4.row hx3 (by omega)
    have hL4 := hL3.stored hr3 (by decide) (by decide) hs4
    have HB4 := HB3.trans (hs4.below (B := w.heap.size) (fun i e => by omega) HB3.size)
    have hz4 := hs4.size
    have cO4 := cO _ HB4
    clear r2 rl2 rf2 l3 ll3 p3 pl3 r3 rl3 rf3 x3 xl3 xf3 hr3 hp3 hx3 hl3 hL3 hs4 cO HB2 HB3
    generalize ((((((w2.setCell ⟨w.heap.size + 1 + 1, 0, none⟩ (.int .i64 ep)).setCell ⟨w.heap.size + 1 + 1, 1, none⟩ (.int .i64 nx)).setCell ⟨w.heap.size + 1 + 1, 2, none⟩ (.slice ka kn kc)).setCell ⟨w.heap.size + 1 + 1, 3, none⟩ (.slice oa on oc)).setCell ⟨w.heap.size + 1 + 1, 4, none⟩ (.int .i64 hd)).setCell ⟨w.heap.size + 1 + 1, 4, none⟩ (.int .i64 (hd + 1))) = w3 at *
    refine cO4.mono ?_
    rintro r w4b ⟨u, rfl, hou, hb4⟩
    obtain ⟨xa, xc, rfl⟩ := own_form hou
    replace hr4 := (hb4.block _ (by omega)).trans hr4
    replace hp4 := (hb4.block _ (by omega)).trans hp4
    replace hx4 := (hb4.block _ (by omega)).trans hx4
    replace hL4 := hL4.below hb4
    replace HB4 := below_two HB4 hb4 (Nat.le_refl _)
    obtain ⟨hx5, hs5⟩ := puts_all hx4 [.int .i64 fk, .int .i64 fh, .int .i64 fe, .slice xa ps.length xc, .string tx] rfl
    simp only [puts, Nat.zero_add, Nat.reduceAdd] at hx5 hs5
    have hr5 := hs5.row hr4 (by omega)
    have hp5 := hs5.row hp4 (by omega)
    have hown5 := own_chg hou hs5 (fun k hk e => row_ne hou hx4 (by decide) (by rw [← e]; exact hk.symm))
    have hL5 : LinkRows ((((((w4b.setCell ⟨w.heap.size + 1 + 1 + 1, 0, none⟩ (.int .i64 fk)).setCell ⟨w.heap.size + 1 + 1 + 1, 1, none⟩ (.int .i64 fh)).setCell ⟨w.heap.size + 1 + 1 + 1, 2, none⟩ (.int .i64 fe)).setCell ⟨w.heap.size + 1 + 1 + 1, 3, none⟩ (.slice xa ps.length xc)).setCell ⟨w.heap.size + 1 + 1 + 1, 4, none⟩ (.string tx))) w1.heap.size (.slice ka kn kc) (.slice oa on oc) S0 Q0 := hL4.ahead (show w.heap.size + 1 + 1 + 1 < w1.heap.size by omega) hs5
    have HB5 := HB4.trans (hs5.below (B := w.heap.size) (fun i e => by omega) HB4.size)
    have hz5 := hs5.size
    have hz4b := hb4.size
    have hownG := own_base hown5 (show w1.heap.size ≤ w3.heap.size by omega)
    obtain ⟨r4, rl4, rf4⟩ := blk hr4
    obtain ⟨x4, xl4, xf4⟩ := blk hx4
    obtain ⟨p5, pl5, _⟩ := blk hp5
    obtain ⟨r5, rl5, rf5⟩ := blk hr5
    clear hs5 hL4 hou hown5 hb4 cO4
    go_wp2_with fail
    generalize (((((w4b.setCell ⟨w.heap.size + 1 + 1 + 1, 0, none⟩ (.int .i64 fk)).setCell ⟨w.heap.size + 1 + 1 + 1, 1, none⟩ (.int .i64 fh)).setCell ⟨w.heap.size + 1 + 1 + 1, 2, none⟩ (.int .i64 fe)).setCell ⟨w.heap.size + 1 + 1 + 1, 3, none⟩ (.slice xa ps.length xc)).setCell ⟨w.heap.size + 1 + 1 + 1, 4, none⟩ (.string tx)) = w4 at *
    have hxG : w4.heap[w.heap.size + 1 + 1 + 1]? = some (Obj.cells #[.int .i64 F.kind, .int .i64 F.heard, .int .i64 F.epoch, .slice xa F.op.length xc, .string F.text] 28 (0, 0)) := by rw [HF.out]; exact hx5
    have hownF : w4.ownsRow w1.heap.size 63 3 (.slice xa F.op.length xc) F.op.length (partCells F.op) := by rw [HF.out]; exact hownG
    have HBG := HB5
    have hpG := hp5
    have hLG := hL5
    have hrG := hr5
    have hzG : w1.heap.size ≤ w4.heap.size := by omega
    clear hr4 hp4 hx4 r4 rl4 rf4 x4 xl4 xf4 p5 pl5 r5 rl5 rf5 hx5 hownG HB4 HB5 hp5 hL5 hr5 HF hsl
    have cG4 := cG' _ _ w1.heap.size w4 hLG hzG
    generalize hHX : hd + 1 = H at *
    have HHX : Hid (hd + 1 = H) := hHX
    clear hHX
    have hzr : w.heap.size + 1 + 1 + 1 < w1.heap.size := by omega
    clear g1 hd1 hd2 hdb cG' hz1 hz2 hz3
    refine cG4.mono ?_
    rintro r w5 ⟨sv4, qv4, pv4, rfl, hG, hb5, hkf⟩
    obtain ⟨K, KQ, P, q1, q2, q3, q4, q5, q6⟩ := hG.ex
    obtain ⟨sa4, sc4, rfl, -⟩ := q1.row
    obtain ⟨qa4, qc4, rfl, -⟩ := q3.row
    obtain ⟨pa4, pc4, rfl⟩ := own_form q5.row
    have hPl : P.length ≤ 8 := by have := congrArg List.length q6; rw [List.length_map] at this; have := HRl.out; omega
    have Hq2 : Hid (K.map (·.1) = R.1.sent) := q2
    have Hq4 : Hid (KQ.map (·.1) = R.1.queue) := q4
    have Hq6 : Hid (P.map (·.1) = R.2) := q6
    have hr5 := hkf _ _ _ (by decide) hrG
    have hp5 := hkf _ _ _ (by decide) hpG
    have hx5 := (hb5.block _ hzr).trans hxG
    have hown5 := own_keptF hownF hkf (by decide)
    have HB5 := HBG.trans (hb5.mono (show w.heap.size ≤ w1.heap.size by omega))
    have hz5 := hb5.size
    obtain ⟨hr6, hs6⟩ := puts_all hr5 [.int .i64 ep, .int .i64 N, .slice sa4 K.length sc4, .slice qa4 KQ.length qc4, .int .i64 H] rfl
    simp only [puts, Nat.zero_add, Nat.reduceAdd] at hr6 hs6
    have hp6 := hs6.row hp5 (by omega)
    have hx6 := hs6.row hx5 (by omega)
    have q1' := q1.stored hr5 (by decide) (by decide) hs6
    have q3' := q3.stored hr5 (by decide) (by decide) hs6
    have q5' := q5.stored hr5 (by decide) (by decide) hs6
    have hown6 := own_chg hown5 hs6 (fun k hk e => row_ne hown5 hr5 (by decide) (by rw [← e]; exact hk.symm))
    have HB6 := HB5.trans (hs6.below (B := w.heap.size) (fun i e => by omega) HB5.size)
    have hz6 := hs6.size
    obtain ⟨r5, rl5, rf5⟩ := blk hr5
    obtain ⟨p6, pl6, _⟩ := blk hp6
    obtain ⟨r6, rl6, rf6⟩ := blk hr6
    clear hG cG4 hrG hpG hxG hownF HBG hLG hkf hb5 q1 q2 q3 q4 q5 q6 hp5 hx5 hown5 HB5 hs6
    go_wp2_with fail
    generalize (((((w5.setCell ⟨w.heap.size + 1 + 1, 0, none⟩ (.int .i64 ep)).setCell ⟨w.heap.size + 1 + 1, 1, none⟩ (.int .i64 N)).setCell ⟨w.heap.size + 1 + 1, 2, none⟩ (.slice sa4 K.length sc4)).setCell ⟨w.heap.size + 1 + 1, 3, none⟩ (.slice qa4 KQ.length qc4)).setCell ⟨w.heap.size + 1 + 1, 4, none⟩ (.int .i64 H)) = w6 at *
    have cR := bare_any ep N H sa4 qa4 K.length sc4 KQ.length qc4 w6
    refine cR.mono ?_
    rintro r wz ⟨rfl, hbz⟩
    have hr7 := (hbz.block _ rl6).trans hr6
    have hx7 := (hbz.block _ (Array.getElem?_eq_some_iff.1 hx6).1).trans hx6
    have k1 := q1'.below hbz
    have k3 := q3'.below hbz
    have k5 := q5'.below hbz
    have hown7 := own_below hown6 hbz
    have HB7 := below_two HB6 hbz (Nat.le_refl _)
    have hrz := k5.ownPk
    have hz7 := hbz.size
    clear cR r5 rl5 rf5 p6 pl6 r6 rl6 rf6 hr5 hr6 hx6 hp6 q1' q3' q5' hown6 hbz HB6
    go_wp2_with (at_builtin; refine wpList_append_lies _ rfl _ _ 32 rfl w4.heap.size 30 p0 (.agg #[.int .i64 0, .int .i64 0, .bool false, .int .i64 0, .int .i64 0, .int .i64 0, .int .i64 0, .slice none 0 0, .string .empty]) 9 96 Tryd.underlying32 hp0 hpz0 hpz1 hpz2 rfl (by decide) _ _ _ rfl (hrz.alloc _) ⟨wz.heap.size, 0, none⟩ 1 1 [.int .i64 ep, .int .i64 0, .bool true, .int .i64 H, .int .i64 0, .int .i64 0, .int .i64 0, .slice none 0 0, .string ByteArray.empty] rfl rfl (World.news_of_block (cs := #[.int .i64 ep, .int .i64 0, .bool true, .int .i64 H, .int .i64 0, .int .i64 0, .int .i64 0, .slice none 0 0, .string ByteArray.empty]) (t := 30) (fr := (0, 0)) (heap_alloc_new wz _)) (by simp [Value.oneCell']) (by decide) (by unfold maxLen; omega) (by omega) (by simp; omega) _ rfl ?_; intro g8 cap8 w8 hown8 hgr8 hat8 hlt8)
    have hr8 := row_kept (hrz.alloc _) (row_old hr7 _) (by decide) hgr8
    have hx8 := row_kept (hrz.alloc _) (row_old hx7 _) (by decide) hgr8
    have hownX := own_grown hown7 hrz hgr8 (by decide)
    have m1 := k1.other hrz hgr8 (by decide) (by decide)
    have m3 := k3.other hrz hgr8 (by decide) (by decide)
    have m5 := RowK.app (x := ((⟨ep, 0, true, H, fr0⟩, Value.slice none 0 0) : PkK)) k5 (World.ownsRow_nil _ _ _ _) hown8 hgr8
    have HB8 : Below w.heap.size w w8 := (HB7.alloc HB7.size _).grown hgr8 (by have := HB7.size; simp; omega) (fun k e => by have := (hrz.lt k e).1; omega)
    have HA : HearAt w w8 w1.heap.size w4.heap.size ep N H F.kind F.heard F.epoch sa4 qa4 xa (some ⟨g8, 0, none⟩) K.length sc4 KQ.length qc4 F.op.length xc (P.length + 1) cap8 F.text (R.1, R.2 ++ [⟨ep, 0, true, H, fr0⟩]) F.op := ⟨hr8, hx8, ⟨K, KQ, _, m1, Hq2.out, m3, Hq4.out, m5, by rw [List.map_append, Hq6.out]; rfl⟩, hownX, HB8, hzr, by omega⟩
    have hzz : w.heap.size ≤ w1.heap.size ∧ w.heap.size ≤ w4.heap.size := by omega
    clear hr7 hx7 k1 k3 k5 hown7 HB7 hrz hown8 hgr8 hat8 hlt8 hr8 hx8 hownX m1 m3 m5 HB8 Hq2 Hq4 Hq6 hPl
    obtain ⟨d1, _, df1⟩ := blk HA.r
    obtain ⟨d2, _, df2⟩ := blk HA.x
    have a0 : w8.cell? ⟨w.heap.size + 1 + 1, 0, none⟩ = some (.int .i64 ep) := d1 0
    have b0 : w8.frozen? ⟨w.heap.size + 1 + 1, 0, none⟩ = false := df1 0
    have c0 : w8.cell? ⟨w.heap.size + 1 + 1 + 1, 0, none⟩ = some (.int .i64 F.kind) := d2 0
    have e0 : w8.frozen? ⟨w.heap.size + 1 + 1 + 1, 0, none⟩ = false := df2 0
    have a1 : w8.cell? ⟨w.heap.size + 1 + 1, 1, none⟩ = some (.int .i64 N) := d1 1
    have b1 : w8.frozen? ⟨w.heap.size + 1 + 1, 1, none⟩ = false := df1 1
    have c1 : w8.cell? ⟨w.heap.size + 1 + 1 + 1, 1, none⟩ = some (.int .i64 F.heard) := d2 1
    have e1 : w8.frozen? ⟨w.heap.size + 1 + 1 + 1, 1, none⟩ = false := df2 1
    have a2 : w8.cell? ⟨w.heap.size + 1 + 1, 2, none⟩ = some (.slice sa4 K.length sc4) := d1 2
    have b2 : w8.frozen? ⟨w.heap.size + 1 + 1, 2, none⟩ = false := df1 2
    have c2 : w8.cell? ⟨w.heap.size + 1 + 1 + 1, 2, none⟩ = some (.int .i64 F.epoch) := d2 2
    have e2 : w8.frozen? ⟨w.heap.size + 1 + 1 + 1, 2, none⟩ = false := df2 2
    have a3 : w8.cell? ⟨w.heap.size + 1 + 1, 3, none⟩ = some (.slice qa4 KQ.length qc4) := d1 3
    have b3 : w8.frozen? ⟨w.heap.size + 1 + 1, 3, none⟩ = false := df1 3
    have c3 : w8.cell? ⟨w.heap.size + 1 + 1 + 1, 3, none⟩ = some (.slice xa F.op.length xc) := d2 3
    have e3 : w8.frozen? ⟨w.heap.size + 1 + 1 + 1, 3, none⟩ = false := df2 3
    have a4 : w8.cell? ⟨w.heap.size + 1 + 1, 4, none⟩ = some (.int .i64 H) := d1 4
    have b4 : w8.frozen? ⟨w.heap.size + 1 + 1, 4, none⟩ = false := df1 4
    have c4 : w8.cell? ⟨w.heap.size + 1 + 1 + 1, 4, none⟩ = some (.string F.text) := d2 4
    have e4 : w8.frozen? ⟨w.heap.size + 1 + 1 + 1, 4, none⟩ = false := df2 4
    have hne : w.heap.size + 1 + 1 ≠ w.heap.size + 1 + 1 + 1 := by omega
    have hne2 : w.heap.size + 1 + 1 + 1 ≠ w.heap.size + 1 + 1 := by omega
    clear d1 df1 d2 df2
    have HFN := HA.putR.putX.drew
    go_region
    go_wp2_with fail
    clear HA
    generalize (((((((((((w8.setCell ⟨w.heap.size + 1 + 1, 0, none⟩ (.int .i64 ep)).setCell ⟨w.heap.size + 1 + 1, 1, none⟩ (.int .i64 N)).setCell ⟨w.heap.size + 1 + 1, 2, none⟩ (.slice sa4 K.length sc4)).setCell ⟨w.heap.size + 1 + 1, 3, none⟩ (.slice qa4 KQ.length qc4)).setCell ⟨w.heap.size + 1 + 1, 4, none⟩ (.int .i64 H)).setCell ⟨w.heap.size + 1 + 1 + 1, 0, none⟩ (.int .i64 F.kind)).setCell ⟨w.heap.size + 1 + 1 + 1, 1, none⟩ (.int .i64 F.heard)).setCell ⟨w.heap.size + 1 + 1 + 1, 2, none⟩ (.int .i64 F.epoch)).setCell ⟨w.heap.size + 1 + 1 + 1, 3, none⟩ (.slice xa F.op.length xc)).setCell ⟨w.heap.size + 1 + 1 + 1, 4, none⟩ (.string F.text))).drew = w9 at *
    obtain ⟨t9, _, _⟩ := blk HFN.r
    obtain ⟨u9, _, _⟩ := blk HFN.x
    exact bodyPost_ret (v := .tuple #[.agg #[.int .i64 ep, .int .i64 N, .slice sa4 K.length sc4, .slice qa4 KQ.length qc4, .int .i64 H], .agg #[.int .i64 F.kind, .int .i64 F.heard, .int .i64 F.epoch, .slice xa F.op.length xc, .string F.text], .bool true, .slice (some ⟨g8, 0, none⟩) (P.length + 1) cap8, .int .i64 0]) (by simp [results, Tryd.results5, go_sem, t9, u9]) rfl (by rw [HHX.out]; exact ⟨_, _, _, _, rfl, HFN.go.base hzz.1 hzz.2, own_base HFN.own hzz.1, HFN.below⟩)
  · subst e3 e2
    have HF : Hid (F = fr0) := e4
    have g1 : (num == H + 1) = false := by simpa using e1
    clear e4 e1 HHH
    go_wp2_with fail
    clear r2 rl2 rf2 l3 ll3 p3 pl3 r3 rl3 rf3 x3 xl3 xf3 hl3 cO HB2
    generalize (((((w2.setCell ⟨w.heap.size + 1 + 1, 0, none⟩ (.int .i64 ep)).setCell ⟨w.heap.size + 1 + 1, 1, none⟩ (.int .i64 nx)).setCell ⟨w.heap.size + 1 + 1, 2, none⟩ (.slice ka kn kc)).setCell ⟨w.heap.size + 1 + 1, 3, none⟩ (.slice oa on oc)).setCell ⟨w.heap.size + 1 + 1, 4, none⟩ (.int .i64 H)) = w4 at *
    obtain ⟨xa, xc, hxa⟩ : ∃ xa xc, (Value.slice xa 0 xc) = .slice none 0 0 := ⟨none, 0, rfl⟩
    have hxG : w4.heap[w.heap.size + 1 + 1 + 1]? = some (Obj.cells #[.int .i64 F.kind, .int .i64 F.heard, .int .i64 F.epoch, .slice xa F.op.length xc, .string F.text] 28 (0, 0)) := by rw [HF.out]; show _ = some (Obj.cells #[.int .i64 0, .int .i64 0, .int .i64 0, .slice xa 0 xc, .string ⟨#[]⟩] 28 (0, 0)); rw [hxa]; exact hx3
    have hownF : w4.ownsRow w1.heap.size 63 3 (.slice xa F.op.length xc) F.op.length (partCells F.op) := by rw [HF.out]; show w4.ownsRow w1.heap.size 63 3 (.slice xa 0 xc) 0 []; rw [hxa]; exact World.ownsRow_nil _ _ _ _
    have HBG := HB3
    have hpG := hp3
    have hLG := hL3
    have hrG := hr3
    have hzG : w1.heap.size ≤ w4.heap.size := by omega
    clear hx3 hp3 hL3 hr3 HB3 HF hsl hxa
    have cG4 := cG' _ _ w1.heap.size w4 hLG hzG
    have hzr : w.heap.size + 1 + 1 + 1 < w1.heap.size := by omega
    clear g1 hd1 hd2 hdb cG' hz1 hz2 hz3
    refine cG4.mono ?_
    rintro r w5 ⟨sv4, qv4, pv4, rfl, hG, hb5, hkf⟩
    obtain ⟨K, KQ, P, q1, q2, q3, q4, q5, q6⟩ := hG.ex
    obtain ⟨sa4, sc4, rfl, -⟩ := q1.row
    obtain ⟨qa4, qc4, rfl, -⟩ := q3.row
    obtain ⟨pa4, pc4, rfl⟩ := own_form q5.row
    have hPl : P.length ≤ 8 := by have := congrArg List.length q6; rw [List.length_map] at this; have := HRl.out; omega
    have Hq2 : Hid (K.map (·.1) = R.1.sent) := q2
    have Hq4 : Hid (KQ.map (·.1) = R.1.queue) := q4
    have Hq6 : Hid (P.map (·.1) = R.2) := q6
    have hr5 := hkf _ _ _ (by decide) hrG
    have hp5 := hkf _ _ _ (by decide) hpG
    have hx5 := (hb5.block _ hzr).trans hxG
    have hown5 := own_keptF hownF hkf (by decide)
    have HB5 := HBG.trans (hb5.mono (show w.heap.size ≤ w1.heap.size by omega))
    have hz5 := hb5.size
    obtain ⟨hr6, hs6⟩ := puts_all hr5 [.int .i64 ep, .int .i64 N, .slice sa4 K.length sc4, .slice qa4 KQ.length qc4, .int .i64 H] rfl
    simp only [puts, Nat.zero_add, Nat.reduceAdd] at hr6 hs6
    have hp6 := hs6.row hp5 (by omega)
    have hx6 := hs6.row hx5 (by omega)
    have q1' := q1.stored hr5 (by decide) (by decide) hs6
    have q3' := q3.stored hr5 (by decide) (by decide) hs6
    have q5' := q5.stored hr5 (by decide) (by decide) hs6
    have hown6 := own_chg hown5 hs6 (fun k hk e => row_ne hown5 hr5 (by decide) (by rw [← e]; exact hk.symm))
    have HB6 := HB5.trans (hs6.below (B := w.heap.size) (fun i e => by omega) HB5.size)
    have hz6 := hs6.size
    obtain ⟨r5, rl5, rf5⟩ := blk hr5
    obtain ⟨p6, pl6, _⟩ := blk hp6
    obtain ⟨r6, rl6, rf6⟩ := blk hr6
    clear hG cG4 hrG hpG hxG hownF HBG hLG hkf hb5 q1 q2 q3 q4 q5 q6 hp5 hx5 hown5 HB5 hs6
    go_wp2_with fail
    generalize (((((w5.setCell ⟨w.heap.size + 1 + 1, 0, none⟩ (.int .i64 ep)).setCell ⟨w.heap.size + 1 + 1, 1, none⟩ (.int .i64 N)).setCell ⟨w.heap.size + 1 + 1, 2, none⟩ (.slice sa4 K.length sc4)).setCell ⟨w.heap.size + 1 + 1, 3, none⟩ (.slice qa4 KQ.length qc4)).setCell ⟨w.heap.size + 1 + 1, 4, none⟩ (.int .i64 H)) = w6 at *
    have cR := bare_any ep N H sa4 qa4 K.length sc4 KQ.length qc4 w6
    refine cR.mono ?_
    rintro r wz ⟨rfl, hbz⟩
    have hr7 := (hbz.block _ rl6).trans hr6
    have hx7 := (hbz.block _ (Array.getElem?_eq_some_iff.1 hx6).1).trans hx6
    have k1 := q1'.below hbz
    have k3 := q3'.below hbz
    have k5 := q5'.below hbz
    have hown7 := own_below hown6 hbz
    have HB7 := below_two HB6 hbz (Nat.le_refl _)
    have hrz := k5.ownPk
    have hz7 := hbz.size
    clear cR r5 rl5 rf5 p6 pl6 r6 rl6 rf6 hr5 hr6 hx6 hp6 q1' q3' q5' hown6 hbz HB6
    go_wp2_with (at_builtin; refine wpList_append_lies _ rfl _ _ 32 rfl w4.heap.size 30 p0 (.agg #[.int .i64 0, .int .i64 0, .bool false, .int .i64 0, .int .i64 0, .int .i64 0, .int .i64 0, .slice none 0 0, .string .empty]) 9 96 Tryd.underlying32 hp0 hpz0 hpz1 hpz2 rfl (by decide) _ _ _ rfl (hrz.alloc _) ⟨wz.heap.size, 0, none⟩ 1 1 [.int .i64 ep, .int .i64 0, .bool true, .int .i64 H, .int .i64 0, .int .i64 0, .int .i64 0, .slice none 0 0, .string ByteArray.empty] rfl rfl (World.news_of_block (cs := #[.int .i64 ep, .int .i64 0, .bool true, .int .i64 H, .int .i64 0, .int .i64 0, .int .i64 0, .slice none 0 0, .string ByteArray.empty]) (t := 30) (fr := (0, 0)) (heap_alloc_new wz _)) (by simp [Value.oneCell']) (by decide) (by unfold maxLen; omega) (by omega) (by simp; omega) _ rfl ?_; intro g8 cap8 w8 hown8 hgr8 hat8 hlt8)
    have hr8 := row_kept (hrz.alloc _) (row_old hr7 _) (by decide) hgr8
    have hx8 := row_kept (hrz.alloc _) (row_old hx7 _) (by decide) hgr8
    have hownX := own_grown hown7 hrz hgr8 (by decide)
    have m1 := k1.other hrz hgr8 (by decide) (by decide)
    have m3 := k3.other hrz hgr8 (by decide) (by decide)
    have m5 := RowK.app (x := ((⟨ep, 0, true, H, fr0⟩, Value.slice none 0 0) : PkK)) k5 (World.ownsRow_nil _ _ _ _) hown8 hgr8
    have HB8 : Below w.heap.size w w8 := (HB7.alloc HB7.size _).grown hgr8 (by have := HB7.size; simp; omega) (fun k e => by have := (hrz.lt k e).1; omega)
    have HA : HearAt w w8 w1.heap.size w4.heap.size ep N H F.kind F.heard F.epoch sa4 qa4 xa (some ⟨g8, 0, none⟩) K.length sc4 KQ.length qc4 F.op.length xc (P.length + 1) cap8 F.text (R.1, R.2 ++ [⟨ep, 0, true, H, fr0⟩]) F.op := ⟨hr8, hx8, ⟨K, KQ, _, m1, Hq2.out, m3, Hq4.out, m5, by rw [List.map_append, Hq6.out]; rfl⟩, hownX, HB8, hzr, by omega⟩
    have hzz : w.heap.size ≤ w1.heap.size ∧ w.heap.size ≤ w4.heap.size := by omega
    clear hr7 hx7 k1 k3 k5 hown7 HB7 hrz hown8 hgr8 hat8 hlt8 hr8 hx8 hownX m1 m3 m5 HB8 Hq2 Hq4 Hq6 hPl
    obtain ⟨d1, _, df1⟩ := blk HA.r
    obtain ⟨d2, _, df2⟩ := blk HA.x
    have a0 : w8.cell? ⟨w.heap.size + 1 + 1, 0, none⟩ = some (.int .i64 ep) := d1 0
    have b0 : w8.frozen? ⟨w.heap.size + 1 + 1, 0, none⟩ = false := df1 0
    have c0 : w8.cell? ⟨w.heap.size + 1 + 1 + 1, 0, none⟩ = some (.int .i64 F.kind) := d2 0
    have e0 : w8.frozen? ⟨w.heap.size + 1 + 1 + 1, 0, none⟩ = false := df2 0
    have a1 : w8.cell? ⟨w.heap.size + 1 + 1, 1, none⟩ = some (.int .i64 N) := d1 1
    have b1 : w8.frozen? ⟨w.heap.size + 1 + 1, 1, none⟩ = false := df1 1
    have c1 : w8.cell? ⟨w.heap.size + 1 + 1 + 1, 1, none⟩ = some (.int .i64 F.heard) := d2 1
    have e1 : w8.frozen? ⟨w.heap.size + 1 + 1 + 1, 1, none⟩ = false := df2 1
    have a2 : w8.cell? ⟨w.heap.size + 1 + 1, 2, none⟩ = some (.slice sa4 K.length sc4) := d1 2
    have b2 : w8.frozen? ⟨w.heap.size + 1 + 1, 2, none⟩ = false := df1 2
    have c2 : w8.cell? ⟨w.heap.size + 1 + 1 + 1, 2, none⟩ = some (.int .i64 F.epoch) := d2 2
    have e2 : w8.frozen? ⟨w.heap.size + 1 + 1 + 1, 2, none⟩ = false := df2 2
    have a3 : w8.cell? ⟨w.heap.size + 1 + 1, 3, none⟩ = some (.slice qa4 KQ.length qc4) := d1 3
    have b3 : w8.frozen? ⟨w.heap.size + 1 + 1, 3, none⟩ = false := df1 3
    have c3 : w8.cell? ⟨w.heap.size + 1 + 1 + 1, 3, none⟩ = some (.slice xa F.op.length xc) := d2 3
    have e3 : w8.frozen? ⟨w.heap.size + 1 + 1 + 1, 3, none⟩ = false := df2 3
    have a4 : w8.cell? ⟨w.heap.size + 1 + 1, 4, none⟩ = some (.int .i64 H) := d1 4
    have b4 : w8.frozen? ⟨w.heap.size + 1 + 1, 4, none⟩ = false := df1 4
    have c4 : w8.cell? ⟨w.heap.size + 1 + 1 + 1, 4, none⟩ = some (.string F.text) := d2 4
    have e4 : w8.frozen? ⟨w.heap.size + 1 + 1 + 1, 4, none⟩ = false := df2 4
    have hne : w.heap.size + 1 + 1 ≠ w.heap.size + 1 + 1 + 1 := by omega
    have hne2 : w.heap.size + 1 + 1 + 1 ≠ w.heap.size + 1 + 1 := by omega
    clear d1 df1 d2 df2
    have HFN := HA.putR.putX.drew
    go_region
    go_wp2_with fail
    clear HA
    generalize (((((((((((w8.setCell ⟨w.heap.size + 1 + 1, 0, none⟩ (.int .i64 ep)).setCell ⟨w.heap.size + 1 + 1, 1, none⟩ (.int .i64 N)).setCell ⟨w.heap.size + 1 + 1, 2, none⟩ (.slice sa4 K.length sc4)).setCell ⟨w.heap.size + 1 + 1, 3, none⟩ (.slice qa4 KQ.length qc4)).setCell ⟨w.heap.size + 1 + 1, 4, none⟩ (.int .i64 H)).setCell ⟨w.heap.size + 1 + 1 + 1, 0, none⟩ (.int .i64 F.kind)).setCell ⟨w.heap.size + 1 + 1 + 1, 1, none⟩ (.int .i64 F.heard)).setCell ⟨w.heap.size + 1 + 1 + 1, 2, none⟩ (.int .i64 F.epoch)).setCell ⟨w.heap.size + 1 + 1 + 1, 3, none⟩ (.slice xa F.op.length xc)).setCell ⟨w.heap.size + 1 + 1 + 1, 4, none⟩ (.string F.text))).drew = w9 at *
    obtain ⟨t9, _, _⟩ := blk HFN.r
    obtain ⟨u9, _, _⟩ := blk HFN.x
    exact bodyPost_ret (v := .tuple #[.agg #[.int .i64 ep, .int .i64 N, .slice sa4 K.length sc4, .slice qa4 KQ.length qc4, .int .i64 H], .agg #[.int .i64 F.kind, .int .i64 F.heard, .int .i64 F.epoch, .slice xa F.op.length xc, .string F.text], .bool false, .slice (some ⟨g8, 0, none⟩) (P.length + 1) cap8, .int .i64 0]) (by simp [results, Tryd.results5, go_sem, t9, u9]) rfl ⟨_, _, _, _, rfl, HFN.go.base hzz.1 hzz.2, own_base HFN.own hzz.1, HFN.below⟩

end Go.Proofs.YtnpjcdfkjgenbaaDoor
