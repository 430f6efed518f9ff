/-
  Walk: text.transform.
-/
import Derived.Test.YtbobeecagcmclaaDoorViewWalk
import Derived.Test.YtbobeecagcmclaaDoorPenWalk
import Derived.Test.YtbobeecagcmclaaDoorCheck
import Derived.Deep.LoopGhost
import Derived.Test.YtbobeecagcmclaaDoorPure

/- Walk: text.transform. -/
namespace Go.Proofs.YtbobeecagcmclaaDoor
open Go.RowKit Go.Lib

set_option maxRecDepth 100000 in
set_option maxHeartbeats 4000000 in
theorem transform_any (ps qs : List Part) (a b : Option Addr) (ca cb : Nat) (w : World) (hopa : OpAt w a ps) (hopb : OpAt w b qs) (hca : ps.length ≤ ca) (hcb : qs.length ≤ cb) (hoka : OpOk ps) (hokb : OpOk qs) (hfit : fromN ps = fromN qs)
    (hsa : ∀ p ∈ ps, p.text.size ≤ 1048576) (hsb : ∀ p ∈ qs, p.text.size ≤ 1048576) :
    Calls Tryd.prog 57 #[.slice a ps.length ca, .slice b qs.length cb] w fun e w' => ∃ u v, e = .returned (.tuple #[u, v]) ∧
      w'.ownsRow w.heap.size 75 3 u (group (xf (steps ps) (steps qs)).1).length (partCells (group (xf (steps ps) (steps qs)).1)) ∧
      w'.ownsRow w.heap.size 75 3 v (group (xf (steps ps) (steps qs)).2).length (partCells (group (xf (steps ps) (steps qs)).2)) ∧ Below w.heap.size w w' := by
  have hma := hoka.many
  have hmb := hokb.many
  have hlen := xf_length (steps ps) (steps qs)
  have hla := hoka.steps_le
  have hlb := hokb.steps_le
  have HO : Hid (olds (steps ps) = olds (steps qs)) := by show _ = _; rw [olds_steps hoka.chain.good, olds_steps hokb.chain.good, hfit]
  obtain ⟨C, hC⟩ : ∃ C, C = (xf (steps ps) (steps qs)).1 := ⟨_, rfl⟩
  obtain ⟨D, hD⟩ : ∃ D, D = (xf (steps ps) (steps qs)).2 := ⟨_, rfl⟩
  rw [← hC, ← hD] at hlen ⊢
  have HC : Hid (C = (xf (steps ps) (steps qs)).1) := hC
  have HD : Hid (D = (xf (steps ps) (steps qs)).2) := hD
  clear hC hD
  have cA := begin_any w w a ps ca (Below.refl _ _) hopa hca (by omega) hoka.chain.good hsa
  have cB := fun w1 hb1 => begin_any w w1 b qs cb hb1 hopb hcb (by omega) hokb.chain.good hsb
  generalize headOf ps = H1 at cA
  generalize headOf qs = H2 at cB
  have hCl : C.length ≤ 16000 ∧ D.length ≤ 16000 := by omega
  clear hlen
  obtain ⟨La, hLa⟩ : ∃ La, La = steps ps := ⟨_, rfl⟩
  obtain ⟨Lb, hLb⟩ : ∃ Lb, Lb = steps qs := ⟨_, rfl⟩
  rw [← hLa] at cA HO HC HD hla
  rw [← hLb] at cB HO HC HD hlb
  clear hLa hLb
  go_enter Tryd.func57, Tryd.ntmps57
  go_wp2_with fail
  refine cA.mono ?_
  rintro e w1 ⟨v1, rfl, hv1, hb1⟩
  obtain ⟨ok1, a1, r1, c1, rfl, hr1⟩ := hv1
  go_wp2_with fail
  refine (cB w1 hb1).mono ?_
  rintro e w2 ⟨v2, rfl, hv2, hb2⟩
  obtain ⟨ok2, a2, r2, c2, rfl, hr2⟩ := hv2
  clear cA cB
  have hb12 := below_two hb1 hb2 (Nat.le_refl _)
  have hs12 := hb12.size
  go_wp2
  go_loopg [] (La.length + Lb.length) (fun k wr => ∃ (hx hy : Head) (Lx Ly lp lq : List Step), WalkAt w wr w2.heap.size hx Lx ∧ WalkAt w wr (w2.heap.size + 1) hy Ly ∧ Pens wr (w2.heap.size + 2) (w2.heap.size + 2) (w2.heap.size + 3) lp lq ∧ Hid (C = lp ++ (xf Lx Ly).1) ∧ Hid (D = lq ++ (xf Lx Ly).2) ∧ Hid (olds Lx = olds Ly) ∧ Hid (k = Lx.length + Ly.length))
  case atStart =>
    refine ⟨H1, H2, La, Lb, [], [], ⟨hs12, ?_, ok1, a1, r1, c1, ?_, hr1⟩, ⟨by omega, ?_, ok2, a2, r2, c2, ?_, hr2⟩, pens_new _ _ _ _ rfl _ rfl rfl rfl _, HC, HD, HO, rfl⟩
    · exact (((hb12.alloc hs12 _).alloc (by simp; omega) _).alloc (by simp; omega) _).alloc (by simp; omega) _
    · exact row_old (row_old (row_old (heap_alloc_new w2 _) _) _) _
    · exact (((hb12.alloc hs12 _).alloc (by simp; omega) _).alloc (by simp; omega) _).alloc (by simp; omega) _
    · exact row_old (row_old (heap_two w2 _ _) _) _
  case round =>
    obtain ⟨hx, hy, Lx, Ly, lp, lq, hwx, hwy, hpens, HC, HD, HO, HK⟩ := hrel
    obtain ⟨c0, c1, c2⟩ := hwx.head
    obtain ⟨d0, d1, d2⟩ := hwy.head
    have hlp : lp.length ≤ C.length := by rw [HC.out, List.length_append]; omega
    have hlq : lq.length ≤ D.length := by rw [HD.out, List.length_append]; omega
    have hvx := hwx.view
    have hvy := hwy.view
    cases hvx with
    | ins rs S h1 h2 hc =>
      simp only at c0 c1 c2
      have gx : decide (0 < rs.length) = true := by simp; omega
      have cT := takeAll_any w wr w2.heap.size _ _ hwx h1
      go_wp2_with fail
      refine cT.mono ?_
      rintro e w3 ⟨rfl, ⟨hx', hwx'⟩, hc3⟩
      rw [drop_insS] at hwx'
      obtain ⟨dp, ip, dq, iq, hI⟩ := hpens
      have hI3 := hI.kept hc3 (fun k e => by omega)
      have hsr := encs_le hc
      rw [← str_size] at hsr
      have hwy3 := hwy.kept hc3 (by omega) (fun k e => by omega)
      have HC2 : Hid (C = (lp ++ insS rs) ++ (xf S Ly).1) := by show C = _; rw [HC.out, xf_insLs, List.append_assoc]
      have HD2 : Hid (D = (lq ++ List.replicate rs.length (1, 0)) ++ (xf S Ly).2) := by show D = _; rw [HD.out, xf_insLs, List.append_assoc]
      have HO2 : Hid (olds S = olds Ly) := by show _ = _; rw [← HO.out, olds_ins]
      have hgk : S.length + Ly.length < gk := by rw [HK.out, List.length_append, insS_length]; omega
      clear c0 c1 c2 d0 d1 d2 cT hwx hwy HC HD HO HK
      go_wp2_with fail
      have hI4 := fun A => hI3.below ((Below.refl w3.heap.size w3).alloc (Nat.le_refl _) A)
      refine (insertL _ _ _ dp ip lp rs (hI4 _).p (hI4 _).base (by omega) (by omega)).mono ?_
      rintro e w4 ⟨rfl, ip', hp4, hs4⟩
      obtain ⟨hP4, hc4⟩ := (hI4 _).stepP hp4 hs4
      have k1 : w4.cell? ⟨w3.heap.size, 1, none⟩ = some (.int .i64 (rs.length : Int)) := by
        rw [World.cell?_of_block (a := ⟨w3.heap.size, 1, none⟩) (hs4.chg.block w3.heap.size (by simp) (fun hF => by have := (PenAt.F_lt hI3.p _ hF).2; omega))]
        rw [Lib.cell_of_heap (heap_alloc_new w3 _)]
        rfl
      have hc34 : Chg (fun k => w2.heap.size + 2 ≤ k) w3 w4 := ((Chg.refl _ w3).alloc _).trans hc4 (fun _ _ e => e)
      clear hs4 hp4 hI4 hc4
      go_wp2_with fail
      refine (pens_keepQ w4 _ _ _ _ lq rs.length hP4 (by omega) h1 (by omega)).mono ?_
      rintro e w5 ⟨rfl, hP5, hc5⟩
      have hc35 := hc34.trans hc5 (fun _ _ e => e)
      go_wp2
      go_roundg (S.length + Ly.length)
      case measure => exact hgk
      case rel => exact ⟨hx', _, S, Ly, _, _, hwx'.kept hc35 (by omega) (fun k e => by omega), hwy3.kept hc35 (by omega) (fun k e => by omega), hP5, HC2, HD2, HO2, rfl⟩
    | fin =>
      cases hvy with
      | ins rs S h1 h2 hc =>
        simp only at d0 d1 d2
        have gy : decide (0 < rs.length) = true := by simp; omega
        have cT := takeAll_any w wr (w2.heap.size + 1) _ _ hwy h1
        go_wp2_with fail
        refine cT.mono ?_
        rintro e w3 ⟨rfl, ⟨hy', hwy'⟩, hc3⟩
        rw [drop_insS] at hwy'
        obtain ⟨dp, ip, dq, iq, hI⟩ := hpens
        have hI3 := hI.kept hc3 (fun k e => by omega)
        have hsr := encs_le hc
        rw [← str_size] at hsr
        have hwx3 := hwx.kept hc3 (by omega) (fun k e => by omega)
        obtain ⟨Lx, hLx⟩ : ∃ Lx, Lx = ([] : List Step) := ⟨_, rfl⟩
        have hno : NoIns Lx := by rw [hLx]; exact noIns_nil
        rw [← hLx] at HC HD HO HK hwx3
        have HC2 : Hid (C = (lp ++ List.replicate rs.length (1, 0)) ++ (xf Lx S).1) := by show C = _; rw [HC.out, xf_insRs _ _ _ hno, List.append_assoc]
        have HD2 : Hid (D = (lq ++ insS rs) ++ (xf Lx S).2) := by show D = _; rw [HD.out, xf_insRs _ _ _ hno, List.append_assoc]
        have HO2 : Hid (olds Lx = olds S) := by show _ = _; rw [HO.out, olds_ins]
        have hgk : Lx.length + S.length < gk := by rw [HK.out, List.length_append, insS_length]; omega
        clear c0 c1 c2 d0 d1 d2 cT hwx hwy HC HD HO HK hLx hno
        go_wp2_with fail
        have hI4 := fun A => hI3.below ((Below.refl w3.heap.size w3).alloc (Nat.le_refl _) A)
        refine (keepL _ _ _ dp ip lp rs.length (hI4 _).p (hI4 _).base (by omega) h1 (by omega)).mono ?_
        rintro e w4 ⟨rfl, dp', ip', hp4, hs4⟩
        obtain ⟨hP4, hc4⟩ := (hI4 _).stepP hp4 hs4
        have k2 : w4.cell? ⟨w3.heap.size, 2, none⟩ = some (.string (str rs)) := by
          rw [World.cell?_of_block (a := ⟨w3.heap.size, 2, none⟩) (hs4.chg.block w3.heap.size (by simp) (fun hF => by have := (PenAt.F_lt hI3.p _ hF).2; omega))]
          rw [Lib.cell_of_heap (heap_alloc_new w3 _)]
          rfl
        have hc34 : Chg (fun k => w2.heap.size + 2 ≤ k) w3 w4 := ((Chg.refl _ w3).alloc _).trans hc4 (fun _ _ e => e)
        clear hs4 hp4 hI4 hc4
        go_wp2_with fail
        refine (pens_insertQ w4 _ _ _ _ lq rs hP4 (by omega) (by omega)).mono ?_
        rintro e w5 ⟨rfl, hP5, hc5⟩
        have hc35 := hc34.trans hc5 (fun _ _ e => e)
        go_wp2
        go_roundg (Lx.length + S.length)
        case measure => exact hgk
        case rel => exact ⟨_, hy', Lx, S, _, _, hwx3.kept hc35 (by omega) (fun k e => by omega), hwy'.kept hc35 (by omega) (fun k e => by omega), hP5, HC2, HD2, HO2, rfl⟩
      | fin =>
        have hC1 : C = lp := by rw [HC.out, xf_nil]; simp
        have hD1 : D = lq := by rw [HD.out, xf_nil]; simp
        simp only at c0 c1 d0 d1
        clear HC HD HO HK c2 d2
        subst hC1 hD1
        have hbr := hwx.bel
        have cP := pens_opP wr _ _ _ C D hpens (by omega)
        have hbase : w2.heap.size + 2 ≤ wr.heap.size := by obtain ⟨_, _, _, _, hI⟩ := hpens; exact hI.base
        clear hwx hwy hpens
        go_wp2_with fail
        refine cP.mono ?_
        rintro e w3 ⟨v3, rfl, hown3, ⟨dq, iq, hq3, hap⟩, hc3⟩
        have hs3 := hc3.size
        have cQ := opL w3 _ _ dq iq D hq3 (by omega) (by omega)
        clear cP c0 c1 d0 d1
        go_wp2_with fail
        refine cQ.mono ?_
        rintro e w4 ⟨v4, iq4, rfl, hp4, hs4⟩
        have hown4 := hp4.own
        have hown3' := own_chg hown3 hs4.chg hap
        have hc4 := chg_base hq3 hs4
        obtain ⟨X, hX⟩ : ∃ X, X = group C := ⟨_, rfl⟩
        obtain ⟨Y, hY⟩ : ∃ Y, Y = group D := ⟨_, rfl⟩
        rw [← hX] at hown3'
        simp only at hown4
        rw [← hY] at hown4
        have HX : Hid (X = group C) := hX
        have HY : Hid (Y = group D) := hY
        clear hX hY hown3 hp4 hs4 hap cQ hq3
        obtain ⟨xa, xc, rfl⟩ := own_form hown3'
        obtain ⟨ya, yc, rfl⟩ := own_form hown4
        go_wp2
        go_ret2
        refine ⟨_, _, rfl, by rw [← HX.out]; exact own_base hown3' (by omega), by rw [← HY.out]; exact own_base hown4 (by omega), ?_⟩
        exact hbr.trans (Chg.below (hc3.trans hc4 (fun _ _ e => e)) (fun k e => by omega) (by have := hbr.size; omega))
      | cnt ky ny Sy hy1 hy2 hky =>
        exfalso
        have e := HO.out
        rw [olds_cnt _ _ _ (by omega)] at e
        simp only [olds] at e
        omega
    | cnt kx nx Sx hx1 hx2 hkx =>
      have g2x : (kx == 2) = false := by rcases hkx with rfl | rfl <;> rfl
      simp only at c0 c1
      have gx : decide (0 < nx) = true := by simp; omega
      cases hvy with
      | ins rs S h1 h2 hc =>
        simp only at d0 d1 d2
        have gy : decide (0 < rs.length) = true := by simp; omega
        have cT := takeAll_any w wr (w2.heap.size + 1) _ _ hwy h1
        go_wp2_with fail
        refine cT.mono ?_
        rintro e w3 ⟨rfl, ⟨hy', hwy'⟩, hc3⟩
        rw [drop_insS] at hwy'
        obtain ⟨dp, ip, dq, iq, hI⟩ := hpens
        have hI3 := hI.kept hc3 (fun k e => by omega)
        have hsr := encs_le hc
        rw [← str_size] at hsr
        have hwx3 := hwx.kept hc3 (by omega) (fun k e => by omega)
        obtain ⟨Lx, hLx⟩ : ∃ Lx, Lx = List.replicate nx (kx, (0 : Int)) ++ Sx := ⟨_, rfl⟩
        have hno : NoIns Lx := by rw [hLx]; exact noIns_cnt hx1 (by omega)
        rw [← hLx] at HC HD HO HK hwx3
        have HC2 : Hid (C = (lp ++ List.replicate rs.length (1, 0)) ++ (xf Lx S).1) := by show C = _; rw [HC.out, xf_insRs _ _ _ hno, List.append_assoc]
        have HD2 : Hid (D = (lq ++ insS rs) ++ (xf Lx S).2) := by show D = _; rw [HD.out, xf_insRs _ _ _ hno, List.append_assoc]
        have HO2 : Hid (olds Lx = olds S) := by show _ = _; rw [HO.out, olds_ins]
        have hgk : Lx.length + S.length < gk := by rw [HK.out, List.length_append, insS_length]; omega
        clear c0 c1 c2 d0 d1 d2 cT hwx hwy HC HD HO HK hLx hno
        go_wp2_with fail
        have hI4 := fun A => hI3.below ((Below.refl w3.heap.size w3).alloc (Nat.le_refl _) A)
        refine (keepL _ _ _ dp ip lp rs.length (hI4 _).p (hI4 _).base (by omega) h1 (by omega)).mono ?_
        rintro e w4 ⟨rfl, dp', ip', hp4, hs4⟩
        obtain ⟨hP4, hc4⟩ := (hI4 _).stepP hp4 hs4
        have k2 : w4.cell? ⟨w3.heap.size, 2, none⟩ = some (.string (str rs)) := by
          rw [World.cell?_of_block (a := ⟨w3.heap.size, 2, none⟩) (hs4.chg.block w3.heap.size (by simp) (fun hF => by have := (PenAt.F_lt hI3.p _ hF).2; omega))]
          rw [Lib.cell_of_heap (heap_alloc_new w3 _)]
          rfl
        have hc34 : Chg (fun k => w2.heap.size + 2 ≤ k) w3 w4 := ((Chg.refl _ w3).alloc _).trans hc4 (fun _ _ e => e)
        clear hs4 hp4 hI4 hc4
        go_wp2_with fail
        refine (pens_insertQ w4 _ _ _ _ lq rs hP4 (by omega) (by omega)).mono ?_
        rintro e w5 ⟨rfl, hP5, hc5⟩
        have hc35 := hc34.trans hc5 (fun _ _ e => e)
        go_wp2
        go_roundg (Lx.length + S.length)
        case measure => exact hgk
        case rel => exact ⟨_, hy', Lx, S, _, _, hwx3.kept hc35 (by omega) (fun k e => by omega), hwy'.kept hc35 (by omega) (fun k e => by omega), hP5, HC2, HD2, HO2, rfl⟩
      | fin =>
        exfalso
        have e := HO.out
        rw [olds_cnt _ _ _ (by omega)] at e
        simp only [olds] at e
        omega
      | cnt ky ny Sy hy1 hy2 hky =>
        have g2y : (ky == 2) = false := by rcases hky with rfl | rfl <;> rfl
        simp only at d0 d1
        obtain ⟨n, HN⟩ : ∃ n : Nat, Hid (min (nx : Int) (ny : Int) = (n : Int) ∧ n ≤ nx ∧ n ≤ ny ∧ 1 ≤ n) := ⟨min nx ny, by refine ⟨?_, ?_, ?_, ?_⟩ <;> omega⟩
        have hnx : n ≤ nx := HN.out.2.1
        have hny : n ≤ ny := HN.out.2.2.1
        have hn1 : 1 ≤ n := HN.out.2.2.2
        obtain ⟨Lx, hLx⟩ : ∃ Lx, Lx = List.replicate nx (kx, (0 : Int)) ++ Sx := ⟨_, rfl⟩
        obtain ⟨Ly, hLy⟩ : ∃ Ly, Ly = List.replicate ny (ky, (0 : Int)) ++ Sy := ⟨_, rfl⟩
        rw [← hLx] at HC HD HO HK hwx
        rw [← hLy] at HC HD HO HK hwy
        have hcut := xf_cut hLx hLy hnx hny (by omega) (by omega)
        have HC2 : Hid (C = (lp ++ (if ky = 1 then List.replicate n (kx, 0) else [])) ++ (xf (Lx.drop n) (Ly.drop n)).1) := by show C = _; rw [HC.out, hcut, List.append_assoc]
        have HD2 : Hid (D = (lq ++ (if kx = 1 then List.replicate n (ky, 0) else [])) ++ (xf (Lx.drop n) (Ly.drop n)).2) := by show D = _; rw [HD.out, hcut, List.append_assoc]
        have HO2 : Hid (olds (Lx.drop n) = olds (Ly.drop n)) := by
          show _ = _
          have e1 := olds_cut hLx hnx (by omega)
          have e2 := olds_cut hLy hny (by omega)
          have := HO.out
          omega
        have hgk : (Lx.drop n).length + (Ly.drop n).length < gk := by
          have e1 : nx ≤ Lx.length := by rw [hLx]; simp
          have := HK.out
          rw [List.length_drop, List.length_drop]
          omega
        have cX := take_at w wr w2.heap.size _ _ n hwx hnx hx1 _ HN.out.1
        have hwy0 := hwy
        clear HC HD HO HK hcut hLx hLy
        go_wp2_with fail
        refine cX.mono ?_
        rintro e w3 ⟨rfl, ⟨hx', hwx'⟩, hc3⟩
        have hwy3 := hwy0.kept hc3 (by omega) (fun k e => by omega)
        have hP3 := hpens.kept hc3 (fun k e => by omega)
        have cY := take_at w w3 (w2.heap.size + 1) _ _ n hwy3 hny hy1 _ HN.out.1
        clear cX c0 c1 c2 d0 d1 d2 hwx hwy hwy0 hpens hc3
        go_wp2_with fail
        refine cY.mono ?_
        rintro e w4 ⟨rfl, ⟨hy', hwy'⟩, hc4⟩
        have hwx4 := hwx'.kept hc4 (by omega) (fun k e => by omega)
        have hP4 := hP3.kept hc4 (fun k e => by omega)
        clear cY hc4 hP3 hwx' hwy3
        go_wp2_with fail
        refine (meet_any w4 _ _ _ lp lq kx ky n _ _ hP4 (by omega) (by omega) hn1 (by omega) hkx hky).mono ?_
        rintro e w5 ⟨rfl, hP5, hc5⟩
        go_wp2
        go_roundg ((Lx.drop n).length + (Ly.drop n).length)
        case measure => exact hgk
        case rel => exact ⟨hx', hy', _, _, _, _, hwx4.kept hc5 (by omega) (fun k e => by omega), hwy'.kept hc5 (by omega) (fun k e => by omega), hP5, HC2, HD2, HO2, rfl⟩

end Go.Proofs.YtbobeecagcmclaaDoor

/- Walk: text.Transform. -/
namespace Go.Proofs.YtbobeecagcmclaaDoor
open Go.RowKit Go.Lib

set_option maxRecDepth 100000 in
set_option maxHeartbeats 2000000 in
theorem transform_text (ps qs : List Part) (a b : Option Addr) (ca cb : Nat) (w : World) (hopa : OpAt w a ps) (hopb : OpAt w b qs) (hca : ps.length ≤ ca) (hcb : qs.length ≤ cb) (hna : ps.length ≤ 1048576) (hnb : qs.length ≤ 1048576) (hsa : ∀ p ∈ ps, p.text.size ≤ 1048576) (hsb : ∀ p ∈ qs, p.text.size ≤ 1048576) (hT : Tabs w) :
    Calls Tryd.prog 43 #[.slice a ps.length ca, .slice b qs.length cb] w fun e w' => ∃ u v, e = .returned (.tuple #[u, v, .int .i64 (transErr ps qs)]) ∧
      w'.ownsRow w.heap.size 75 3 u (transU ps qs).length (partCells (transU ps qs)) ∧ w'.ownsRow w.heap.size 75 3 v (transV ps qs).length (partCells (transV ps qs)) ∧ Below w.heap.size w w' := by
  have hs1 : ∀ p ∈ ps, p.text.size < 9223372036854775807 := fun p hp => by have := hsa p hp; omega
  have hs2 : ∀ p ∈ qs, p.text.size < 9223372036854775807 := fun p hp => by have := hsb p hp; omega
  have c1 := checkBoth_any ps qs a b ca cb w hopa hopb hna hnb hsa hsb hT
  by_cases h1 : bothErr ps qs = 0
  · obtain ⟨ha0, hb0⟩ := bothErr_zero h1
    have hoka := opErr_zero ha0
    have hokb := opErr_zero hb0
    rw [h1] at c1
    obtain ⟨ea, _⟩ := lens_from hoka
    obtain ⟨eb, _⟩ := lens_from hokb
    have hma := hoka.from_le
    have hmb := hokb.from_le
    have c2 := fun w1 hb1 => lengths_any ps a ca w1 (hopa.below (w' := w1) hb1) (by omega) hs1
    have c3 := fun w1 hb1 => lengths_any qs b cb w1 (hopb.below (w' := w1) hb1) (by omega) hs2
    rw [ea] at c2
    rw [eb] at c3
    by_cases h2 : fromN ps = fromN qs
    · have hE : transErr ps qs = bothErr (xU ps qs) (xV ps qs) := by unfold transErr; rw [if_neg (by omega), if_neg (by rw [ea, eb]; omega)]
      obtain ⟨⟨ul, ut⟩, vl, vt⟩ := xUV_small hoka hokb
      have cX := fun w1 hb1 => transform_any ps qs a b ca cb w1 (hopa.below (w' := w1) hb1) (hopb.below hb1) hca hcb hoka hokb h2 hsa hsb
      obtain ⟨U, hU⟩ : ∃ U, U = xU ps qs := ⟨_, rfl⟩
      obtain ⟨V, hV⟩ : ∃ V, V = xV ps qs := ⟨_, rfl⟩
      have HTU : Hid (transU ps qs = if bothErr U V ≠ 0 then [] else U) := by show _ = _; unfold transU; rw [hE, hU, hV]
      have HTV : Hid (transV ps qs = if bothErr U V ≠ 0 then [] else V) := by show _ = _; unfold transV; rw [hE, hU, hV]
      rw [hE]
      have eU : group (xf (steps ps) (steps qs)).1 = U := hU.symm
      have eV : group (xf (steps ps) (steps qs)).2 = V := hV.symm
      rw [eU, eV] at cX
      rw [← hU] at ul ut ⊢
      rw [← hV] at vl vt ⊢
      rw [HTU.out, HTV.out]
      clear HTU HTV hU hV eU eV hE ea eb h1 ha0 hb0 hs1 hs2 hoka hokb hsa hsb
      rw [← h2] at c3
      generalize fromN ps = N at *
      generalize (lens ps).2 = t1 at c2
      generalize (lens qs).2 = t2 at c3
      clear h2
      have c4 := fun w1 a1 b1 k1 k2 ho1 ho2 hT1 => checkBoth_any U V a1 b1 k1 k2 w1 ho1 ho2 (by omega) (by omega) (fun p hp => by have := ut p hp; omega) (fun p hp => by have := vt p hp; omega) hT1
      by_cases h3 : bothErr U V = 0
      · rw [h3] at c4 ⊢
        have e1 : ∀ X : List Part, (if (0 : Int) ≠ 0 then [] else X) = X := fun X => by simp
        rw [e1, e1]
        clear e1 h3 ut vt
        go_enter Tryd.func43, Tryd.ntmps43
        go_wp2_with fail
        refine c1.mono ?_
        rintro e w1 ⟨rfl, hb1⟩
        go_wp2_with fail
        refine (c2 w1 hb1).mono ?_
        rintro e w2 ⟨rfl, hb2⟩
        have hb12 := below_two hb1 hb2 (Nat.le_refl _)
        go_wp2_with fail
        refine (c3 w2 hb12).mono ?_
        rintro e w3 ⟨rfl, hb3⟩
        have hb13 := below_two hb12 hb3 (Nat.le_refl _)
        clear c1 c2 c3
        go_wp2_with fail
        refine (cX w3 hb13).mono ?_
        rintro e w4 ⟨u, v, rfl, hu, hv, hb4⟩
        have hb14 := below_two hb13 hb4 (Nat.le_refl _)
        obtain ⟨ua, uc, rfl, hou⟩ := own_opAt hu
        obtain ⟨va, vc, rfl, hov⟩ := own_opAt hv
        clear cX
        go_wp2_with fail
        refine (c4 w4 ua va uc vc hou hov (hT.below hb14)).mono ?_
        rintro e w5 ⟨rfl, hb5⟩
        clear c4
        have hb15 := below_two hb14 hb5 (Nat.le_refl _)
        go_wp2
        go_ret3
        exact ⟨_, _, rfl, own_base (own_below hu hb5) hb13.size, own_base (own_below hv hb5) hb13.size, hb15⟩
      · rw [if_pos h3, if_pos h3]
        generalize bothErr U V = E at *
        have g1 : (E != 0) = true := by simpa using h3
        clear h3 ut vt
        go_enter Tryd.func43, Tryd.ntmps43
        go_wp2_with fail
        refine c1.mono ?_
        rintro e w1 ⟨rfl, hb1⟩
        go_wp2_with fail
        refine (c2 w1 hb1).mono ?_
        rintro e w2 ⟨rfl, hb2⟩
        have hb12 := below_two hb1 hb2 (Nat.le_refl _)
        go_wp2_with fail
        refine (c3 w2 hb12).mono ?_
        rintro e w3 ⟨rfl, hb3⟩
        have hb13 := below_two hb12 hb3 (Nat.le_refl _)
        clear c1 c2 c3
        go_wp2_with fail
        refine (cX w3 hb13).mono ?_
        rintro e w4 ⟨u, v, rfl, hu, hv, hb4⟩
        have hb14 := below_two hb13 hb4 (Nat.le_refl _)
        obtain ⟨ua, uc, rfl, hou⟩ := own_opAt hu
        obtain ⟨va, vc, rfl, hov⟩ := own_opAt hv
        clear cX hu hv
        go_wp2_with fail
        refine (c4 w4 ua va uc vc hou hov (hT.below hb14)).mono ?_
        rintro e w5 ⟨rfl, hb5⟩
        clear c4
        have hb15 := below_two hb14 hb5 (Nat.le_refl _)
        go_wp2
        go_ret3
        exact ⟨_, _, rfl, World.ownsRow_nil _ _ _ _, World.ownsRow_nil _ _ _ _, hb15⟩
    · have hE : transErr ps qs = 10 := by unfold transErr; rw [if_neg (by omega), if_pos (by rw [ea, eb]; omega)]
      have hU : transU ps qs = [] := by unfold transU; rw [hE, if_pos (by omega)]
      have hV : transV ps qs = [] := by unfold transV; rw [hE, if_pos (by omega)]
      rw [hE, hU, hV]
      clear hE hU hV ea eb h1 ha0 hb0 hs1 hs2 hoka hokb hsa hsb
      generalize fromN ps = N at *
      generalize fromN qs = M at *
      generalize (lens ps).2 = t1 at c2
      generalize (lens qs).2 = t2 at c3
      have g1 : ((N : Int) != (M : Int)) = true := by simp; omega
      clear h2
      go_enter Tryd.func43, Tryd.ntmps43
      go_wp2_with fail
      refine c1.mono ?_
      rintro e w1 ⟨rfl, hb1⟩
      go_wp2_with fail
      refine (c2 w1 hb1).mono ?_
      rintro e w2 ⟨rfl, hb2⟩
      have hb12 := below_two hb1 hb2 (Nat.le_refl _)
      go_wp2_with fail
      refine (c3 w2 hb12).mono ?_
      rintro e w3 ⟨rfl, hb3⟩
      have hb13 := below_two hb12 hb3 (Nat.le_refl _)
      clear c1 c2 c3
      go_wp2
      go_ret3
      exact ⟨_, _, rfl, World.ownsRow_nil _ _ _ _, World.ownsRow_nil _ _ _ _, hb13⟩
  · have hE : transErr ps qs = bothErr ps qs := by unfold transErr; rw [if_pos h1]
    have hU : transU ps qs = [] := by unfold transU; rw [hE, if_pos h1]
    have hV : transV ps qs = [] := by unfold transV; rw [hE, if_pos h1]
    rw [hE, hU, hV]
    clear hE hU hV hs1 hs2 hsa hsb
    generalize bothErr ps qs = E at *
    have g1 : (E != 0) = true := by simpa using h1
    clear h1
    go_enter Tryd.func43, Tryd.ntmps43
    go_wp2_with fail
    refine c1.mono ?_
    rintro e w1 ⟨rfl, hb1⟩
    clear c1
    go_wp2
    go_ret3
    exact ⟨_, _, rfl, World.ownsRow_nil _ _ _ _, World.ownsRow_nil _ _ _ _, hb1⟩

end Go.Proofs.YtbobeecagcmclaaDoor
