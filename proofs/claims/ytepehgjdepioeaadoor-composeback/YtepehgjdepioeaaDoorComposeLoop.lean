/-
  Walk: text.compose.
-/
import Derived.Test.YtepehgjdepioeaaDoorComposeWalk
import Derived.Deep.LoopGhost
namespace Go.Proofs.YtepehgjdepioeaaDoor
open Go.RowKit Go.Lib

theorem field_text (k n : Int) (t : ByteArray) (w : World) : (Instr.field 99 (.agg #[.int .i64 k, .int .i64 n, .string t]) 2).run Tryd.prog w = .ok (.string t) w := by kernel_rfl
theorem field_n (k n : Int) (t : ByteArray) (w : World) : (Instr.field 99 (.agg #[.int .i64 k, .int .i64 n, .string t]) 1).run Tryd.prog w = .ok (.int .i64 n) w := by kernel_rfl
theorem pen1_new {w : World} (A A' X : Obj) (B : Nat) (hB : B = w.heap.size + 2) (nil : Value) (hn : nil = .slice none 0 0) (hX : X = .cells #[nil, nil, .int .i64 0] 81) : Pen1 (((w.alloc A).alloc A').alloc X) B (w.heap.size + 2) [] := by
  subst hB hn hX
  have e2 : ((w.alloc A).alloc A').heap.size = w.heap.size + 2 := by simp
  have k2 := heap_alloc_new ((w.alloc A).alloc A') (.cells #[.slice none 0 0, .slice none 0 0, .int .i64 0] 81)
  rw [e2] at k2
  exact ⟨.slice none 0 0, .slice none 0 0, ⟨Nat.le_refl _, k2, World.ownsRow_nil _ _ _ _, World.ownsRow_nil _ _ _ _⟩, by simp⟩

set_option maxRecDepth 100000 in
set_option maxHeartbeats 4000000 in
theorem compose_any (ps qs : List Part) (a b : Option Addr) (ca cb : Nat) (w : World) (hopa : OpAt w a ps) (hopb : OpAt w b qs) (hca : ps.length ≤ ca) (hcb : qs.length ≤ cb) (hoka : OpOk ps) (hokb : OpOk qs) (hfit : toN ps = fromN qs)
    (hsa : ∀ p ∈ ps, p.text.size ≤ 1048576) (hsb : ∀ p ∈ qs, p.text.size ≤ 1048576) :
    Calls Tryd.prog 47 #[.slice a ps.length ca, .slice b qs.length cb] w fun e w' => ∃ u, e = .returned u ∧
      w'.ownsRow w.heap.size 42 3 u (group (cf (steps ps) (steps qs))).length (partCells (group (cf (steps ps) (steps qs)))) ∧ Below w.heap.size w w' := by
  have hma := hoka.many
  have hmb := hokb.many
  have hlen := cf_length (steps ps) (steps qs)
  have hla := hoka.steps_le
  have hlb := hokb.steps_le
  have HO : Hid (news (steps ps) = olds (steps qs)) := by show _ = _; rw [news_steps hoka.chain.good, olds_steps hokb.chain.good, hfit]
  obtain ⟨C, hC⟩ : ∃ C, C = cf (steps ps) (steps qs) := ⟨_, rfl⟩
  rw [← hC] at hlen ⊢
  have HC : Hid (C = cf (steps ps) (steps qs)) := hC
  clear hC
  have cA := begin_any w w a ps ca (Below.refl _ _) hopa hca (by omega) hoka.chain.good hsa
  have cB := fun w1 hb1 => begin_any w w1 b qs cb hb1 hopb hcb (by omega) hokb.chain.good hsb
  generalize headOf ps = H1 at cA
  generalize headOf qs = H2 at cB
  have hCl : C.length ≤ 16000 := by omega
  clear hlen
  obtain ⟨La, hLa⟩ : ∃ La, La = steps ps := ⟨_, rfl⟩
  obtain ⟨Lb, hLb⟩ : ∃ Lb, Lb = steps qs := ⟨_, rfl⟩
  rw [← hLa] at cA HO HC hla
  rw [← hLb] at cB HO HC hlb
  clear hLa hLb
  go_enter Tryd.func47, Tryd.ntmps47
  go_wp2_with fail
  refine cA.mono ?_
  rintro e w1 ⟨v1, rfl, hv1, hb1⟩
  obtain ⟨ok1, a1, r1, c1, rfl, hr1⟩ := hv1
  go_wp2_with fail
  refine (cB w1 hb1).mono ?_
  rintro e w2 ⟨v2, rfl, hv2, hb2⟩
  obtain ⟨ok2, a2, r2, c2, rfl, hr2⟩ := hv2
  clear cA cB
  have hb12 := below_two hb1 hb2 (Nat.le_refl _)
  have hs12 := hb12.size
  go_wp2
  go_loopg [] (La.length + Lb.length) (fun k wr => ∃ (hx hy : Head) (Lx Ly lp : List Step), WalkAt w wr w2.heap.size hx Lx ∧ WalkAt w wr (w2.heap.size + 1) hy Ly ∧ Pen1 wr (w2.heap.size + 2) (w2.heap.size + 2) lp ∧ Hid (C = lp ++ cf Lx Ly) ∧ Hid (news Lx = olds Ly) ∧ Hid (k = Lx.length + Ly.length))
  case atStart =>
    refine ⟨H1, H2, La, Lb, [], ⟨hs12, ?_, ok1, a1, r1, c1, ?_, hr1⟩, ⟨by omega, ?_, ok2, a2, r2, c2, ?_, hr2⟩, pen1_new _ _ _ _ rfl _ rfl rfl, HC, HO, rfl⟩
    · exact ((hb12.alloc hs12 _).alloc (by simp; omega) _).alloc (by simp; omega) _
    · exact row_old (row_old (heap_alloc_new w2 _) _) _
    · exact ((hb12.alloc hs12 _).alloc (by simp; omega) _).alloc (by simp; omega) _
    · exact row_old (heap_two w2 _ _) _
  case round =>
    obtain ⟨hx, hy, Lx, Ly, lp, hwx, hwy, hpen, HC, HO, HK⟩ := hrel
    obtain ⟨c0, c1, c2⟩ := hwx.head
    obtain ⟨d0, d1, d2⟩ := hwy.head
    have hlp : lp.length ≤ C.length := by rw [HC.out, List.length_append]; omega
    have hvx := hwx.view
    have hvy := hwy.view
    cases hvx with
    | fin =>
      cases hvy with
      | ins ts S h1 h2 hc =>
        simp only at d0 d1 d2
        have gy : decide (0 < ts.length) = true := by simp; omega
        have cT := takeAll_any w wr (w2.heap.size + 1) _ _ hwy h1
        go_wp2_with fail
        refine cT.mono ?_
        rintro e w3 ⟨rfl, ⟨hy', hwy'⟩, hc3⟩
        rw [drop_insS] at hwy'
        have hP3 := hpen.kept hc3 (fun k e => by omega)
        have hsr := encs_le hc
        rw [← str_size] at hsr
        have hwx3 := hwx.kept hc3 (by omega) (fun k e => by omega)
        obtain ⟨Lx, hLx⟩ : ∃ Lx, Lx = ([] : List Step) := ⟨_, rfl⟩
        have hno : NoDel Lx := by rw [hLx]; exact noDel_nil
        rw [← hLx] at HC HO HK hwx3
        have HC2 : Hid (C = (lp ++ insS ts) ++ cf Lx S) := by show C = _; rw [HC.out, cf_insRs _ _ _ hno, List.append_assoc]
        have HO2 : Hid (news Lx = olds S) := by show _ = _; rw [HO.out, olds_ins]
        have hgk : Lx.length + S.length < gk := by rw [HK.out, List.length_append, insS_length]; omega
        clear c0 c1 c2 d0 d1 d2 cT hwx hwy HC HO HK hLx hno
        have hfd := field_text 2 (ts.length : Int) (str ts)
        go_wp2_with fail
        refine (pen1_insert _ _ _ lp ts hP3 (by omega) (by omega)).mono ?_
        rintro e w5 ⟨rfl, hP5, hc5⟩
        go_wp2
        go_roundg (Lx.length + S.length)
        case measure => exact hgk
        case rel => exact ⟨_, hy', Lx, S, _, hwx3.kept hc5 (by omega) (fun k e => by omega), hwy'.kept hc5 (by omega) (fun k e => by omega), hP5, HC2, HO2, rfl⟩
      | fin =>
        have hC1 : C = lp := by rw [HC.out, cf_nil]; simp
        simp only at c0 c1 d0 d1
        clear HC HO HK c2 d2
        subst hC1
        have hbr := hwx.bel
        obtain ⟨dv, iv, hpl, hbase⟩ := hpen
        have cP := opL wr _ _ dv iv C hpl hbase (by omega)
        clear hwx hwy
        go_wp2_with fail
        refine cP.mono ?_
        rintro e w3 ⟨v3, iv3, rfl, hp3, hs3⟩
        have hown3 := hp3.own
        have hc3 := chg_base hpl hs3
        obtain ⟨X, hX⟩ : ∃ X, X = group C := ⟨_, rfl⟩
        simp only at hown3
        rw [← hX] at hown3
        have HX : Hid (X = group C) := hX
        clear hX hp3 hs3 cP hpl
        obtain ⟨xa, xc, rfl⟩ := own_form hown3
        go_wp2
        go_ret
        refine ⟨_, rfl, by rw [← HX.out]; exact own_base hown3 (by omega), ?_⟩
        exact hbr.trans (Chg.below hc3 (fun k e => by omega) (by have := hbr.size; omega))
      | cnt ky ny Sy hy1 hy2 hky =>
        exfalso
        have e := HO.out
        rw [olds_cnt _ _ _ (by omega)] at e
        simp only [news] at e
        omega
    | ins rs Sx h1x h2x hcx =>
      simp only at c0 c1 c2
      have gx : decide (0 < rs.length) = true := by simp; omega
      cases hvy with
      | ins ts S h1 h2 hc =>
        simp only at d0 d1 d2
        have gy : decide (0 < ts.length) = true := by simp; omega
        have cT := takeAll_any w wr (w2.heap.size + 1) _ _ hwy h1
        go_wp2_with fail
        refine cT.mono ?_
        rintro e w3 ⟨rfl, ⟨hy', hwy'⟩, hc3⟩
        rw [drop_insS] at hwy'
        have hP3 := hpen.kept hc3 (fun k e => by omega)
        have hsr := encs_le hc
        rw [← str_size] at hsr
        have hwx3 := hwx.kept hc3 (by omega) (fun k e => by omega)
        obtain ⟨Lx, hLx⟩ : ∃ Lx, Lx = insS rs ++ Sx := ⟨_, rfl⟩
        have hno : NoDel Lx := by rw [hLx]; exact noDel_ins h1x
        rw [← hLx] at HC HO HK hwx3
        have HC2 : Hid (C = (lp ++ insS ts) ++ cf Lx S) := by show C = _; rw [HC.out, cf_insRs _ _ _ hno, List.append_assoc]
        have HO2 : Hid (news Lx = olds S) := by show _ = _; rw [HO.out, olds_ins]
        have hgk : Lx.length + S.length < gk := by rw [HK.out, List.length_append, insS_length]; omega
        clear c0 c1 c2 d0 d1 d2 cT hwx hwy HC HO HK hLx hno
        have hfd := field_text 2 (ts.length : Int) (str ts)
        go_wp2_with fail
        refine (pen1_insert _ _ _ lp ts hP3 (by omega) (by omega)).mono ?_
        rintro e w5 ⟨rfl, hP5, hc5⟩
        go_wp2
        go_roundg (Lx.length + S.length)
        case measure => exact hgk
        case rel => exact ⟨_, hy', Lx, S, _, hwx3.kept hc5 (by omega) (fun k e => by omega), hwy'.kept hc5 (by omega) (fun k e => by omega), hP5, HC2, HO2, rfl⟩
      | fin =>
        exfalso
        have e := HO.out
        rw [news_ins] at e
        simp only [olds] at e
        omega
      | cnt ky ny Sy hy1 hy2 hky =>
        rcases hky with hky1 | hky3
        · subst hky1
          simp only at d0 d1
          obtain ⟨n, HN⟩ : ∃ n : Nat, Hid (min (rs.length : Int) (ny : Int) = (n : Int) ∧ n ≤ rs.length ∧ n ≤ ny ∧ 1 ≤ n) := ⟨min rs.length ny, by refine ⟨?_, ?_, ?_, ?_⟩ <;> omega⟩
          have hnx : n ≤ rs.length := HN.out.2.1
          have hny : n ≤ ny := HN.out.2.2.1
          have hn1 : 1 ≤ n := HN.out.2.2.2
          obtain ⟨Lx, hLx⟩ : ∃ Lx, Lx = insS rs ++ Sx := ⟨_, rfl⟩
          obtain ⟨Ly, hLy⟩ : ∃ Ly, Ly = List.replicate ny ((1 : Int), (0 : Int)) ++ Sy := ⟨_, rfl⟩
          rw [← hLx] at HC HO HK hwx
          rw [← hLy] at HC HO HK hwy
          have hcut := cf_cutI hLx hLy hnx hny (by omega)
          have HC2 : Hid (C = (lp ++ insS (rs.take n)) ++ cf (Lx.drop n) (Ly.drop n)) := by show C = _; rw [HC.out, hcut]; simp
          have HO2 : Hid (news (Lx.drop n) = olds (Ly.drop n)) := by
            show _ = _
            have e1 := news_cutI hLx hnx
            have e2 := olds_cut hLy hny (by omega)
            have := HO.out
            omega
          have hgk : (Lx.drop n).length + (Ly.drop n).length < gk := by
            have e1 : rs.length ≤ Lx.length := by rw [hLx]; simp [insS]
            have := HK.out
            rw [List.length_drop, List.length_drop]
            omega
          have hst : (str (rs.take n)).size ≤ 10000000 := by
            have := encs_le (rs := rs.take n) (fun r hr => hcx r (List.mem_of_mem_take hr))
            rw [← str_size, List.length_take] at this
            omega
          have cX := take_at w wr w2.heap.size _ _ n hwx hnx h1x _ HN.out.1
          have hwy0 := hwy
          clear HC HO HK hcut hLx hLy
          go_wp2_with fail
          refine cX.mono ?_
          rintro e w3 ⟨rfl, ⟨hx', hwx'⟩, hc3⟩
          have hwy3 := hwy0.kept hc3 (by omega) (fun k e => by omega)
          have hP3 := hpen.kept hc3 (fun k e => by omega)
          have cY := take_at w w3 (w2.heap.size + 1) _ _ n hwy3 hny hy1 _ HN.out.1
          clear cX c0 c1 c2 d0 d1 d2 hwx hwy hwy0 hpen hc3
          go_wp2_with fail
          refine cY.mono ?_
          rintro e w4 ⟨rfl, ⟨hy', hwy'⟩, hc4⟩
          have hwx4 := hwx'.kept hc4 (by omega) (fun k e => by omega)
          have hP4 := hP3.kept hc4 (fun k e => by omega)
          clear cY hc4 hP3 hwx' hwy3
          go_wp2_with fail
          refine (join_ik w4 _ _ lp 2 (1 : Int) n (rs.take n) _ hP4 (by omega) hst rfl rfl).mono ?_
          rintro e w5 ⟨rfl, hP5, hc5⟩
          go_wp2
          go_roundg ((Lx.drop n).length + (Ly.drop n).length)
          case measure => exact hgk
          case rel => exact ⟨hx', hy', _, _, _, hwx4.kept hc5 (by omega) (fun k e => by omega), hwy'.kept hc5 (by omega) (fun k e => by omega), hP5, HC2, HO2, rfl⟩
        · subst hky3
          simp only at d0 d1
          obtain ⟨n, HN⟩ : ∃ n : Nat, Hid (min (rs.length : Int) (ny : Int) = (n : Int) ∧ n ≤ rs.length ∧ n ≤ ny ∧ 1 ≤ n) := ⟨min rs.length ny, by refine ⟨?_, ?_, ?_, ?_⟩ <;> omega⟩
          have hnx : n ≤ rs.length := HN.out.2.1
          have hny : n ≤ ny := HN.out.2.2.1
          have hn1 : 1 ≤ n := HN.out.2.2.2
          obtain ⟨Lx, hLx⟩ : ∃ Lx, Lx = insS rs ++ Sx := ⟨_, rfl⟩
          obtain ⟨Ly, hLy⟩ : ∃ Ly, Ly = List.replicate ny ((3 : Int), (0 : Int)) ++ Sy := ⟨_, rfl⟩
          rw [← hLx] at HC HO HK hwx
          rw [← hLy] at HC HO HK hwy
          have hcut := cf_cutI hLx hLy hnx hny (by omega)
          have HC2 : Hid (C = lp ++ cf (Lx.drop n) (Ly.drop n)) := by show C = _; rw [HC.out, hcut]; simp
          have HO2 : Hid (news (Lx.drop n) = olds (Ly.drop n)) := by
            show _ = _
            have e1 := news_cutI hLx hnx
            have e2 := olds_cut hLy hny (by omega)
            have := HO.out
            omega
          have hgk : (Lx.drop n).length + (Ly.drop n).length < gk := by
            have e1 : rs.length ≤ Lx.length := by rw [hLx]; simp [insS]
            have := HK.out
            rw [List.length_drop, List.length_drop]
            omega
          have cX := take_at w wr w2.heap.size _ _ n hwx hnx h1x _ HN.out.1
          have hwy0 := hwy
          clear HC HO HK hcut hLx hLy
          go_wp2_with fail
          refine cX.mono ?_
          rintro e w3 ⟨rfl, ⟨hx', hwx'⟩, hc3⟩
          have hwy3 := hwy0.kept hc3 (by omega) (fun k e => by omega)
          have hP3 := hpen.kept hc3 (fun k e => by omega)
          have cY := take_at w w3 (w2.heap.size + 1) _ _ n hwy3 hny hy1 _ HN.out.1
          clear cX c0 c1 c2 d0 d1 d2 hwx hwy hwy0 hpen hc3
          go_wp2_with fail
          refine cY.mono ?_
          rintro e w4 ⟨rfl, ⟨hy', hwy'⟩, hc4⟩
          have hwx4 := hwx'.kept hc4 (by omega) (fun k e => by omega)
          have hP4 := hP3.kept hc4 (fun k e => by omega)
          clear cY hc4 hP3 hwx' hwy3
          go_wp2_with fail
          refine (join_id w4 _ _ lp 2 (3 : Int) n (rs.take n) _ hP4 rfl rfl).mono ?_
          rintro e w5 ⟨rfl, hP5, hc5⟩
          go_wp2
          go_roundg ((Lx.drop n).length + (Ly.drop n).length)
          case measure => exact hgk
          case rel => exact ⟨hx', hy', _, _, _, hwx4.kept hc5 (by omega) (fun k e => by omega), hwy'.kept hc5 (by omega) (fun k e => by omega), hP5, HC2, HO2, rfl⟩
    | cnt kx nx Sx hx1 hx2 hkx =>
      simp only at c0 c1 c2
      have gx : decide (0 < nx) = true := by simp; omega
      by_cases hk3 : kx = 3
      · subst hk3
        have cT := takeAll_any w wr w2.heap.size _ _ hwx hx1
        go_wp2_with fail
        refine cT.mono ?_
        rintro e w3 ⟨rfl, ⟨hx', hwx'⟩, hc3⟩
        have hdr : (List.replicate nx ((3 : Int), (0 : Int)) ++ Sx).drop nx = Sx := by
          have e : nx = (List.replicate nx ((3 : Int), (0 : Int))).length := by simp
          conv => lhs; rw [e]
          simp
        simp only [hdr] at hwx'
        have hP3 := hpen.kept hc3 (fun k e => by omega)
        have hwy3 := hwy.kept hc3 (by omega) (fun k e => by omega)
        have HC2 : Hid (C = (lp ++ List.replicate nx (3, 0)) ++ cf Sx Ly) := by show C = _; rw [HC.out, cf_delLs, List.append_assoc]
        have HO2 : Hid (news Sx = olds Ly) := by show _ = _; rw [← HO.out, news_del]
        have hgk : Sx.length + Ly.length < gk := by rw [HK.out, List.length_append, List.length_replicate]; omega
        clear c0 c1 c2 d0 d1 d2 cT hwx hwy HC HO HK hvy
        have hfd := field_n 3 (nx : Int) (str [])
        go_wp2_with fail
        refine (pen1_remove _ _ _ lp nx hP3 (by omega) (by omega)).mono ?_
        rintro e w5 ⟨rfl, hP5, hc5⟩
        go_wp2
        go_roundg (Sx.length + Ly.length)
        case measure => exact hgk
        case rel => exact ⟨hx', _, Sx, Ly, _, hwx'.kept hc5 (by omega) (fun k e => by omega), hwy3.kept hc5 (by omega) (fun k e => by omega), hP5, HC2, HO2, rfl⟩
      · obtain rfl : kx = 1 := by omega
        cases hvy with
        | ins ts S h1 h2 hc =>
          simp only at d0 d1 d2
          have gy : decide (0 < ts.length) = true := by simp; omega
          have cT := takeAll_any w wr (w2.heap.size + 1) _ _ hwy h1
          go_wp2_with fail
          refine cT.mono ?_
          rintro e w3 ⟨rfl, ⟨hy', hwy'⟩, hc3⟩
          rw [drop_insS] at hwy'
          have hP3 := hpen.kept hc3 (fun k e => by omega)
          have hsr := encs_le hc
          rw [← str_size] at hsr
          have hwx3 := hwx.kept hc3 (by omega) (fun k e => by omega)
          obtain ⟨Lx, hLx⟩ : ∃ Lx, Lx = List.replicate nx ((1 : Int), (0 : Int)) ++ Sx := ⟨_, rfl⟩
          have hno : NoDel Lx := by rw [hLx]; exact noDel_cnt hx1 (by decide)
          rw [← hLx] at HC HO HK hwx3
          have HC2 : Hid (C = (lp ++ insS ts) ++ cf Lx S) := by show C = _; rw [HC.out, cf_insRs _ _ _ hno, List.append_assoc]
          have HO2 : Hid (news Lx = olds S) := by show _ = _; rw [HO.out, olds_ins]
          have hgk : Lx.length + S.length < gk := by rw [HK.out, List.length_append, insS_length]; omega
          clear c0 c1 c2 d0 d1 d2 cT hwx hwy HC HO HK hLx hno
          have hfd := field_text 2 (ts.length : Int) (str ts)
          go_wp2_with fail
          refine (pen1_insert _ _ _ lp ts hP3 (by omega) (by omega)).mono ?_
          rintro e w5 ⟨rfl, hP5, hc5⟩
          go_wp2
          go_roundg (Lx.length + S.length)
          case measure => exact hgk
          case rel => exact ⟨_, hy', Lx, S, _, hwx3.kept hc5 (by omega) (fun k e => by omega), hwy'.kept hc5 (by omega) (fun k e => by omega), hP5, HC2, HO2, rfl⟩
        | fin =>
          exfalso
          have e := HO.out
          rw [news_cnt _ _ _ (by decide)] at e
          simp only [olds] at e
          omega
        | cnt ky ny Sy hy1 hy2 hky =>
          rcases hky with hky1 | hky3
          · subst hky1
            simp only at d0 d1
            obtain ⟨n, HN⟩ : ∃ n : Nat, Hid (min (nx : Int) (ny : Int) = (n : Int) ∧ n ≤ nx ∧ n ≤ ny ∧ 1 ≤ n) := ⟨min nx ny, by refine ⟨?_, ?_, ?_, ?_⟩ <;> omega⟩
            have hnx : n ≤ nx := HN.out.2.1
            have hny : n ≤ ny := HN.out.2.2.1
            have hn1 : 1 ≤ n := HN.out.2.2.2
            obtain ⟨Lx, hLx⟩ : ∃ Lx, Lx = List.replicate nx ((1 : Int), (0 : Int)) ++ Sx := ⟨_, rfl⟩
            obtain ⟨Ly, hLy⟩ : ∃ Ly, Ly = List.replicate ny ((1 : Int), (0 : Int)) ++ Sy := ⟨_, rfl⟩
            rw [← hLx] at HC HO HK hwx
            rw [← hLy] at HC HO HK hwy
            have hcut := cf_cutK hLx hLy hnx hny (by decide) (by omega)
            have HC2 : Hid (C = (lp ++ List.replicate n (1, 0)) ++ cf (Lx.drop n) (Ly.drop n)) := by show C = _; rw [HC.out, hcut]; simp
            have HO2 : Hid (news (Lx.drop n) = olds (Ly.drop n)) := by
              show _ = _
              have e1 := news_cutK hLx hnx (by decide)
              have e2 := olds_cut hLy hny (by omega)
              have := HO.out
              omega
            have hgk : (Lx.drop n).length + (Ly.drop n).length < gk := by
              have e1 : nx ≤ Lx.length := by rw [hLx]; simp
              have := HK.out
              rw [List.length_drop, List.length_drop]
              omega
            have cX := take_at w wr w2.heap.size _ _ n hwx hnx hx1 _ HN.out.1
            have hwy0 := hwy
            clear HC HO HK hcut hLx hLy
            go_wp2_with fail
            refine cX.mono ?_
            rintro e w3 ⟨rfl, ⟨hx', hwx'⟩, hc3⟩
            have hwy3 := hwy0.kept hc3 (by omega) (fun k e => by omega)
            have hP3 := hpen.kept hc3 (fun k e => by omega)
            have cY := take_at w w3 (w2.heap.size + 1) _ _ n hwy3 hny hy1 _ HN.out.1
            clear cX c0 c1 c2 d0 d1 d2 hwx hwy hwy0 hpen hc3
            go_wp2_with fail
            refine cY.mono ?_
            rintro e w4 ⟨rfl, ⟨hy', hwy'⟩, hc4⟩
            have hwx4 := hwx'.kept hc4 (by omega) (fun k e => by omega)
            have hP4 := hP3.kept hc4 (fun k e => by omega)
            clear cY hc4 hP3 hwx' hwy3
            go_wp2_with fail
            refine (join_kk w4 _ _ lp 1 (1 : Int) n _ _ hP4 (by omega) hn1 (by omega) rfl rfl).mono ?_
            rintro e w5 ⟨rfl, hP5, hc5⟩
            go_wp2
            go_roundg ((Lx.drop n).length + (Ly.drop n).length)
            case measure => exact hgk
            case rel => exact ⟨hx', hy', _, _, _, hwx4.kept hc5 (by omega) (fun k e => by omega), hwy'.kept hc5 (by omega) (fun k e => by omega), hP5, HC2, HO2, rfl⟩
          · subst hky3
            simp only at d0 d1
            obtain ⟨n, HN⟩ : ∃ n : Nat, Hid (min (nx : Int) (ny : Int) = (n : Int) ∧ n ≤ nx ∧ n ≤ ny ∧ 1 ≤ n) := ⟨min nx ny, by refine ⟨?_, ?_, ?_, ?_⟩ <;> omega⟩
            have hnx : n ≤ nx := HN.out.2.1
            have hny : n ≤ ny := HN.out.2.2.1
            have hn1 : 1 ≤ n := HN.out.2.2.2
            obtain ⟨Lx, hLx⟩ : ∃ Lx, Lx = List.replicate nx ((1 : Int), (0 : Int)) ++ Sx := ⟨_, rfl⟩
            obtain ⟨Ly, hLy⟩ : ∃ Ly, Ly = List.replicate ny ((3 : Int), (0 : Int)) ++ Sy := ⟨_, rfl⟩
            rw [← hLx] at HC HO HK hwx
            rw [← hLy] at HC HO HK hwy
            have hcut := cf_cutK hLx hLy hnx hny (by decide) (by omega)
            have HC2 : Hid (C = (lp ++ List.replicate n (3, 0)) ++ cf (Lx.drop n) (Ly.drop n)) := by show C = _; rw [HC.out, hcut]; simp
            have HO2 : Hid (news (Lx.drop n) = olds (Ly.drop n)) := by
              show _ = _
              have e1 := news_cutK hLx hnx (by decide)
              have e2 := olds_cut hLy hny (by omega)
              have := HO.out
              omega
            have hgk : (Lx.drop n).length + (Ly.drop n).length < gk := by
              have e1 : nx ≤ Lx.length := by rw [hLx]; simp
              have := HK.out
              rw [List.length_drop, List.length_drop]
              omega
            have cX := take_at w wr w2.heap.size _ _ n hwx hnx hx1 _ HN.out.1
            have hwy0 := hwy
            clear HC HO HK hcut hLx hLy
            go_wp2_with fail
            refine cX.mono ?_
            rintro e w3 ⟨rfl, ⟨hx', hwx'⟩, hc3⟩
            have hwy3 := hwy0.kept hc3 (by omega) (fun k e => by omega)
            have hP3 := hpen.kept hc3 (fun k e => by omega)
            have cY := take_at w w3 (w2.heap.size + 1) _ _ n hwy3 hny hy1 _ HN.out.1
            clear cX c0 c1 c2 d0 d1 d2 hwx hwy hwy0 hpen hc3
            go_wp2_with fail
            refine cY.mono ?_
            rintro e w4 ⟨rfl, ⟨hy', hwy'⟩, hc4⟩
            have hwx4 := hwx'.kept hc4 (by omega) (fun k e => by omega)
            have hP4 := hP3.kept hc4 (fun k e => by omega)
            clear cY hc4 hP3 hwx' hwy3
            go_wp2_with fail
            refine (join_kd w4 _ _ lp 1 (3 : Int) n _ _ hP4 (by omega) (by omega) rfl rfl).mono ?_
            rintro e w5 ⟨rfl, hP5, hc5⟩
            go_wp2
            go_roundg ((Lx.drop n).length + (Ly.drop n).length)
            case measure => exact hgk
            case rel => exact ⟨hx', hy', _, _, _, hwx4.kept hc5 (by omega) (fun k e => by omega), hwy'.kept hc5 (by omega) (fun k e => by omega), hP5, HC2, HO2, rfl⟩

end Go.Proofs.YtepehgjdepioeaaDoor
