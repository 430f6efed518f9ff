/-
  Walk: wherryref.Transformed.
-/
import Derived.Test.YtmdehfomogfmlaaDoorGroupedWalk
import Derived.Test.YtmdehfomogfmlaaDoorViewWalk
import Derived.Test.YtmdehfomogfmlaaDoorTwoRows
import Derived.Test.YtmdehfomogfmlaaDoorOpFault
import Derived.Test.YtmdehfomogfmlaaDoorPure
namespace Go.Proofs.YtmdehfomogfmlaaDoor
open Go.RowKit

set_option maxRecDepth 100000 in
set_option maxHeartbeats 4000000 in
theorem transformed_ok (ps qs : List Part) (a b : Option Addr) (ca cb : Nat) (w : World) (hopa : OpAt w a ps) (hopb : OpAt w b qs) (hna : ps.length ≤ 1048576) (hnb : qs.length ≤ 1048576) (hsa : ∀ p ∈ ps, p.text.size ≤ 1048576) (hsb : ∀ p ∈ qs, p.text.size ≤ 1048576) (hT : Tabs w)
    (ha0 : opErr ps = 0) (hb0 : opErr qs = 0) (h2 : fromN ps = fromN qs) :
    Calls Tryd.prog 72 #[.slice a ps.length ca, .slice b qs.length cb] w fun e w' => ∃ u v, e = .returned (.tuple #[u, v, .int .i64 (bothErr (xU ps qs) (xV ps qs))]) ∧
      w'.ownsRow w.heap.size 68 3 u (if bothErr (xU ps qs) (xV ps qs) ≠ 0 then [] else xU ps qs).length (partCells (if bothErr (xU ps qs) (xV ps qs) ≠ 0 then [] else xU ps qs)) ∧
      w'.ownsRow w.heap.size 68 3 v (if bothErr (xU ps qs) (xV ps qs) ≠ 0 then [] else xV ps qs).length (partCells (if bothErr (xU ps qs) (xV ps qs) ≠ 0 then [] else xV ps qs)) ∧ Below w.heap.size w w' := by
  have hs1 : ∀ p ∈ ps, p.text.size ≤ 70368744177664 := fun p hp => by have := hsa p hp; omega
  have hs2 : ∀ p ∈ qs, p.text.size ≤ 70368744177664 := fun p hp => by have := hsb p hp; omega
  have hoka := opErr_zero ha0
  have hokb := opErr_zero hb0
  obtain ⟨⟨ul, ut⟩, vl, vt⟩ := xUV_small hoka hokb
  obtain ⟨ea, _⟩ := lens_from hoka
  obtain ⟨eb, _⟩ := lens_from hokb
  have c1 := opFault_any ps a ca w hopa (by omega) hs1 hT
  have c2 := fun w1 hb1 => opFault_any qs b cb w1 (hopb.below (w' := w1) hb1) (by omega) hs2 (hT.below hb1)
  have c3 := fun w1 hb1 => lengthsOf_any ps a ca w1 (hopa.below (w' := w1) hb1) (by omega) hs1
  have c4 := fun w1 hb1 => lengthsOf_any qs b cb w1 (hopb.below (w' := w1) hb1) (by omega) hs2
  have c5 := fun w1 hb1 => steps_any ps a ca w1 (hopa.below (w' := w1) hb1) hoka hsa
  have c6 := fun w1 hb1 => steps_any qs b cb w1 (hopb.below (w' := w1) hb1) hokb hsb
  rw [ha0] at c1
  rw [hb0] at c2
  rw [ea] at c3
  rw [eb, ← h2] at c4
  have HO : Hid (olds (steps ps) = olds (steps qs)) := by show _ = _; rw [olds_steps hoka.chain.good, olds_steps hokb.chain.good, h2]
  have hla := hoka.steps_le
  have hlb := hokb.steps_le
  have hmN := hoka.from_le
  have hlen := xf_length (steps ps) (steps qs)
  obtain ⟨nnC, nnD⟩ := xf_nonneg (steps ps) (steps qs) (steps_nonneg ps) (steps_nonneg qs)
  obtain ⟨U, hU⟩ : ∃ U, U = xU ps qs := ⟨_, rfl⟩
  obtain ⟨V, hV⟩ : ∃ V, V = xV ps qs := ⟨_, rfl⟩
  obtain ⟨C, hC⟩ : ∃ C, C = (xf (steps ps) (steps qs)).1 := ⟨_, rfl⟩
  obtain ⟨D, hD⟩ : ∃ D, D = (xf (steps ps) (steps qs)).2 := ⟨_, rfl⟩
  have HU : Hid (group C = U) := by show _ = _; rw [hU, hC]; rfl
  have HV : Hid (group D = V) := by show _ = _; rw [hV, hD]; rfl
  rw [← hU] at ul ut ⊢
  rw [← hV] at vl vt ⊢
  rw [← hC] at hlen nnC
  rw [← hD] at hlen nnD
  have HC : Hid (C = (xf (steps ps) (steps qs)).1) := hC
  have HD : Hid (D = (xf (steps ps) (steps qs)).2) := hD
  have hCl : C.length ≤ 16000 ∧ D.length ≤ 16000 := by omega
  clear hU hV hC hD hlen ea eb ha0 hb0 h2 hs1 hs2 hsa hsb hoka hokb
  obtain ⟨P, hP⟩ : ∃ P, P = steps ps := ⟨_, rfl⟩
  obtain ⟨Q, hQ⟩ : ∃ Q, Q = steps qs := ⟨_, rfl⟩
  rw [← hP] at c5 HO HC HD hla
  rw [← hQ] at c6 HO HC HD hlb
  clear hP hQ
  generalize fromN ps = N at *
  generalize (lens ps).2 = t1 at c3
  generalize (lens qs).2 = t2 at c4
  have cU := fun w1 a1 k1 ho1 hT1 => opFault_any U a1 k1 w1 ho1 (by omega) (fun p hp => by have := ut p hp; omega) hT1
  have cV := fun w1 a1 k1 ho1 hT1 => opFault_any V a1 k1 w1 ho1 (by omega) (fun p hp => by have := vt p hp; omega) hT1
  clear ut vt
  have HT : Hid (Tabs w) := hT
  clear hT
  unfold bothErr
  generalize opErr U = EU at *
  generalize opErr V = EV at *
  go_enter Tryd.func72, Tryd.ntmps72
  go_wp2_with fail
  refine c1.mono ?_
  rintro e w1 ⟨rfl, hb1⟩
  go_wp2_with fail
  refine (c2 w1 hb1).mono ?_
  rintro e w2 ⟨rfl, hb2⟩
  have hb12 := below_two hb1 hb2 (Nat.le_refl _)
  go_wp2_with fail
  refine (c3 w2 hb12).mono ?_
  rintro e w3 ⟨rfl, hb3⟩
  have hb13 := below_two hb12 hb3 (Nat.le_refl _)
  go_wp2_with fail
  refine (c4 w3 hb13).mono ?_
  rintro e w4 ⟨rfl, hb4⟩
  have hb14 := below_two hb13 hb4 (Nat.le_refl _)
  clear c1 c2 c3 c4
  go_wp2_with fail
  refine (c5 w4 hb14).mono ?_
  rintro e w5 ⟨vp, rfl, hownp, hb5⟩
  have hb15 := below_two hb14 hb5 (Nat.le_refl _)
  obtain ⟨pa, pc, rfl, hstp5⟩ := own_stepsAt hownp
  go_wp2_with fail
  refine (c6 w5 hb15).mono ?_
  rintro e w6 ⟨vq, rfl, hownq, hb6⟩
  have hb16 := below_two hb15 hb6 (Nat.le_refl _)
  obtain ⟨qa, qc, rfl, hstq⟩ := own_stepsAt hownq
  have hstp := hstp5.below hb6
  clear c5 c6 hownp hownq hstp5 hb1 hb2 hb3 hb4 hb5 hb6 hb12 hb13 hb14 hb15 hopa hopb
  obtain ⟨i0, hi, hz0, hz1, hz2⟩ := info_parts info_step
  go_wp2
  go_loopw [14, 15, 16, 17] (fun cv dv iv kv wr => ∃ (i k : Nat) (c d : List Step), i ≤ P.length ∧ k ≤ Q.length ∧ iv = .int .i64 i ∧ kv = .int .i64 k ∧ Hid (C = c ++ (xf (P.drop i) (Q.drop k)).1) ∧ Hid (D = d ++ (xf (P.drop i) (Q.drop k)).2) ∧ Hid (olds (P.drop i) = olds (Q.drop k)) ∧ TS w6 wr cv dv c d) (fun _ _ iv kv _ => (P.length - (RowKit.intOf iv).toNat) + (Q.length - (RowKit.intOf kv).toNat))
  case atStart => exact ⟨0, 0, [], [], Nat.zero_le _, Nat.zero_le _, rfl, rfl, HC, HD, HO, World.ownsRow_nil _ _ _ _, World.ownsRow_nil _ _ _ _, fun k h => by simp [Value.ownBlock] at h, Below.refl _ _⟩
  case round =>
    obtain ⟨i, k, c, d, hi', hk, rfl, rfl, HC, HD, HO, gs⟩ := hrel
    have hcl : c.length ≤ C.length := by rw [HC.out, List.length_append]; omega
    have hdl : d.length ≤ D.length := by rw [HD.out, List.length_append]; omega
    by_cases hip : i < P.length
    · obtain ⟨gp, rfl⟩ := hstp.at hip
      obtain ⟨p0, p1⟩ := step_cell hstp gs.bel hip rfl
      have hdp : P.drop i = P[i] :: P.drop (i + 1) := List.drop_eq_getElem_cons hip
      obtain ⟨s1, hs1⟩ : ∃ s1, s1 = P[i] := ⟨_, rfl⟩
      have HS1 : Hid (P[i] = s1) := hs1.symm
      rw [← hs1] at hdp p0 p1
      clear hs1
      obtain ⟨k1, z1⟩ := s1
      simp only at p0 p1
      by_cases h12 : k1 = 2
      · subst h12
        have HC2 : Hid (C = (c ++ [(2, z1)]) ++ (xf (P.drop (i + 1)) (Q.drop k)).1) := by show C = _; rw [HC.out, hdp, xf_insL _ _ _ rfl]; simp
        have HD2 : Hid (D = (d ++ [(1, 0)]) ++ (xf (P.drop (i + 1)) (Q.drop k)).2) := by show D = _; rw [HD.out, hdp, xf_insL _ _ _ rfl]; simp
        have HO2 : Hid (olds (P.drop (i + 1)) = olds (Q.drop k)) := by
          show _ = _
          rw [← HO.out, hdp]
          simp [olds]
        clear HC HD HO hdp
        go_wp2_with (first | (at_builtin; refine wpList_append_lies _ rfl _ _ 149 rfl w6.heap.size 152 i0 (.agg #[.int .i64 0, .int .i32 0]) 2 16 Tryd.underlying149 hi hz0 hz1 hz2 rfl (by decide) _ _ _ rfl (ts1.od.alloc _) ⟨w1.heap.size, 0, none⟩ 1 1 [.int .i64 1, .int .i32 0] rfl rfl (cell_two_new _ _ _ _) (by intro u hu; simp at hu; rcases hu with rfl | rfl <;> rfl) (by decide) (by unfold maxLen; omega) (by omega) (by have := ts1.bel.size; simp; omega) _ rfl ?_; intro g2 cap2 w2 hown2 hgrow2 hat2 hlt2; have ts2 := ts1.addD (1, 0) hown2 hgrow2 hat2) | (at_builtin; refine wpList_append_lies _ rfl _ _ 149 rfl w6.heap.size 152 i0 (.agg #[.int .i64 0, .int .i32 0]) 2 16 Tryd.underlying149 hi hz0 hz1 hz2 rfl (by decide) _ _ _ rfl (gs.oc.alloc _) ⟨wr.heap.size, 0, none⟩ 1 1 [.int .i64 2, .int .i32 z1] rfl rfl (cell_two_new _ _ _ _) (by intro u hu; simp at hu; rcases hu with rfl | rfl <;> rfl) (by decide) (by unfold maxLen; omega) (by omega) (by have := gs.bel.size; simp; omega) _ rfl ?_; intro g1 cap1 w1 hown1 hgrow1 hat1 hlt1; have ts1 := gs.addC (2, z1) hown1 hgrow1 hat1))
        go_roundw
        case rel => exact ⟨i + 1, k, _, _, hip, hk, by go_num, rfl, HC2, HD2, HO2, ts2⟩
        case measure => simp [RowKit.intOf]; omega
      · have g12 : (k1 == 2) = false := by simpa using h12
        have hno : NoIns (P.drop i) := by rw [hdp]; intro x r e; simp only [List.cons.injEq] at e; rw [← e.1]; exact h12
        by_cases hkq : k < Q.length
        · obtain ⟨gq, rfl⟩ := hstq.at hkq
          obtain ⟨q0, q1⟩ := step_cell hstq gs.bel hkq rfl
          have hdq : Q.drop k = Q[k] :: Q.drop (k + 1) := List.drop_eq_getElem_cons hkq
          obtain ⟨s2, hs2⟩ : ∃ s2, s2 = Q[k] := ⟨_, rfl⟩
          have HS2 : Hid (Q[k] = s2) := hs2.symm
          rw [← hs2] at hdq q0 q1
          clear hs2
          obtain ⟨k2, z2⟩ := s2
          simp only at q0 q1
          by_cases h22 : k2 = 2
          · subst h22
            have HC2 : Hid (C = (c ++ [(1, 0)]) ++ (xf (P.drop i) (Q.drop (k + 1))).1) := by show C = _; rw [HC.out, hdq, xf_insR _ _ _ hno rfl]; simp
            have HD2 : Hid (D = (d ++ [(2, z2)]) ++ (xf (P.drop i) (Q.drop (k + 1))).2) := by show D = _; rw [HD.out, hdq, xf_insR _ _ _ hno rfl]; simp
            have HO2 : Hid (olds (P.drop i) = olds (Q.drop (k + 1))) := by
              show _ = _
              rw [HO.out, hdq]
              simp [olds]
            clear HC HD HO hdq hno
            go_wp2_with (first | (at_builtin; refine wpList_append_lies _ rfl _ _ 149 rfl w6.heap.size 152 i0 (.agg #[.int .i64 0, .int .i32 0]) 2 16 Tryd.underlying149 hi hz0 hz1 hz2 rfl (by decide) _ _ _ rfl (ts1.od.alloc _) ⟨w1.heap.size, 0, none⟩ 1 1 [.int .i64 2, .int .i32 z2] rfl rfl (cell_two_new _ _ _ _) (by intro u hu; simp at hu; rcases hu with rfl | rfl <;> rfl) (by decide) (by unfold maxLen; omega) (by omega) (by have := ts1.bel.size; simp; omega) _ rfl ?_; intro g2 cap2 w2 hown2 hgrow2 hat2 hlt2; have ts2 := ts1.addD (2, z2) hown2 hgrow2 hat2) | (at_builtin; refine wpList_append_lies _ rfl _ _ 149 rfl w6.heap.size 152 i0 (.agg #[.int .i64 0, .int .i32 0]) 2 16 Tryd.underlying149 hi hz0 hz1 hz2 rfl (by decide) _ _ _ rfl (gs.oc.alloc _) ⟨wr.heap.size, 0, none⟩ 1 1 [.int .i64 1, .int .i32 0] rfl rfl (cell_two_new _ _ _ _) (by intro u hu; simp at hu; rcases hu with rfl | rfl <;> rfl) (by decide) (by unfold maxLen; omega) (by omega) (by have := gs.bel.size; simp; omega) _ rfl ?_; intro g1 cap1 w1 hown1 hgrow1 hat1 hlt1; have ts1 := gs.addC (1, 0) hown1 hgrow1 hat1; obtain ⟨q0', q1'⟩ := step_cell hstq ts1.bel hkq HS2.out; simp only at q0' q1'))
            go_roundw
            case rel => exact ⟨i, k + 1, _, _, hi', hkq, rfl, by go_num, HC2, HD2, HO2, ts2⟩
            case measure => simp [RowKit.intOf]; omega
          · have g22 : (k2 == 2) = false := by simpa using h22
            have hm := xf_meet (k1, z1) (k2, z2) (P.drop (i + 1)) (Q.drop (k + 1)) h12 h22
            rw [← hdp, ← hdq] at hm
            have HO2 : Hid (olds (P.drop (i + 1)) = olds (Q.drop (k + 1))) := by
              show _ = _
              have e := HO.out
              rw [hdp, hdq] at e
              simp only [olds, if_neg h12, if_neg h22] at e
              omega
            clear hdp hdq hno HO h12 h22
            by_cases h11 : k1 = 1
            · subst h11
              by_cases h21 : k2 = 1
              · subst h21
                have HC2 : Hid (C = (c ++ [(1, z1)]) ++ (xf (P.drop (i + 1)) (Q.drop (k + 1))).1) := by show C = _; rw [HC.out, hm]; simp
                have HD2 : Hid (D = (d ++ [(1, z2)]) ++ (xf (P.drop (i + 1)) (Q.drop (k + 1))).2) := by show D = _; rw [HD.out, hm]; simp
                clear HC HD hm
                go_wp2_with (first | (at_builtin; refine wpList_append_lies _ rfl _ _ 149 rfl w6.heap.size 152 i0 (.agg #[.int .i64 0, .int .i32 0]) 2 16 Tryd.underlying149 hi hz0 hz1 hz2 rfl (by decide) _ _ _ rfl (ts1.od.alloc _) ⟨w1.heap.size, 0, none⟩ 1 1 [.int .i64 1, .int .i32 z2] rfl rfl (cell_two_new _ _ _ _) (by intro u hu; simp at hu; rcases hu with rfl | rfl <;> rfl) (by decide) (by unfold maxLen; omega) (by omega) (by have := ts1.bel.size; simp; omega) _ rfl ?_; intro g2 cap2 w2 hown2 hgrow2 hat2 hlt2; have ts2 := ts1.addD (1, z2) hown2 hgrow2 hat2) | (at_builtin; refine wpList_append_lies _ rfl _ _ 149 rfl w6.heap.size 152 i0 (.agg #[.int .i64 0, .int .i32 0]) 2 16 Tryd.underlying149 hi hz0 hz1 hz2 rfl (by decide) _ _ _ rfl (gs.oc.alloc _) ⟨wr.heap.size, 0, none⟩ 1 1 [.int .i64 1, .int .i32 z1] rfl rfl (cell_two_new _ _ _ _) (by intro u hu; simp at hu; rcases hu with rfl | rfl <;> rfl) (by decide) (by unfold maxLen; omega) (by omega) (by have := gs.bel.size; simp; omega) _ rfl ?_; intro g1 cap1 w1 hown1 hgrow1 hat1 hlt1; have ts1 := gs.addC (1, z1) hown1 hgrow1 hat1; obtain ⟨p0', p1'⟩ := step_cell hstp ts1.bel hip HS1.out; obtain ⟨q0', q1'⟩ := step_cell hstq ts1.bel hkq HS2.out; simp only at p0' p1' q0' q1'))
                go_roundw
                case rel => exact ⟨i + 1, k + 1, _, _, hip, hkq, by go_num, by go_num, HC2, HD2, HO2, ts2⟩
                case measure => simp [RowKit.intOf]; omega
              · have g21 : (k2 == 1) = false := by simpa using h21
                have HC2 : Hid (C = (c) ++ (xf (P.drop (i + 1)) (Q.drop (k + 1))).1) := by show C = _; rw [HC.out, hm]; simp [h21]
                have HD2 : Hid (D = (d ++ [(k2, z2)]) ++ (xf (P.drop (i + 1)) (Q.drop (k + 1))).2) := by show D = _; rw [HD.out, hm]; simp
                clear HC HD hm h21
                go_wp2_with (at_builtin; refine wpList_append_lies _ rfl _ _ 149 rfl w6.heap.size 152 i0 (.agg #[.int .i64 0, .int .i32 0]) 2 16 Tryd.underlying149 hi hz0 hz1 hz2 rfl (by decide) _ _ _ rfl (gs.od.alloc _) ⟨wr.heap.size, 0, none⟩ 1 1 [.int .i64 k2, .int .i32 z2] rfl rfl (cell_two_new _ _ _ _) (by intro u hu; simp at hu; rcases hu with rfl | rfl <;> rfl) (by decide) (by unfold maxLen; omega) (by omega) (by have := gs.bel.size; simp; omega) _ rfl ?_; intro g1 cap1 w1 hown1 hgrow1 hat1 hlt1; have ts1 := gs.addD (k2, z2) hown1 hgrow1 hat1)
                go_roundw
                case rel => exact ⟨i + 1, k + 1, _, _, hip, hkq, by go_num, by go_num, HC2, HD2, HO2, ts1⟩
                case measure => simp [RowKit.intOf]; omega
            · have g11 : (k1 == 1) = false := by simpa using h11
              by_cases h21 : k2 = 1
              · subst h21
                have HC2 : Hid (C = (c ++ [(k1, z1)]) ++ (xf (P.drop (i + 1)) (Q.drop (k + 1))).1) := by show C = _; rw [HC.out, hm]; simp
                have HD2 : Hid (D = (d) ++ (xf (P.drop (i + 1)) (Q.drop (k + 1))).2) := by show D = _; rw [HD.out, hm]; simp [h11]
                clear HC HD hm h11
                go_wp2_with (at_builtin; refine wpList_append_lies _ rfl _ _ 149 rfl w6.heap.size 152 i0 (.agg #[.int .i64 0, .int .i32 0]) 2 16 Tryd.underlying149 hi hz0 hz1 hz2 rfl (by decide) _ _ _ rfl (gs.oc.alloc _) ⟨wr.heap.size, 0, none⟩ 1 1 [.int .i64 k1, .int .i32 z1] rfl rfl (cell_two_new _ _ _ _) (by intro u hu; simp at hu; rcases hu with rfl | rfl <;> rfl) (by decide) (by unfold maxLen; omega) (by omega) (by have := gs.bel.size; simp; omega) _ rfl ?_; intro g1 cap1 w1 hown1 hgrow1 hat1 hlt1; have ts1 := gs.addC (k1, z1) hown1 hgrow1 hat1; obtain ⟨p0', p1'⟩ := step_cell hstp ts1.bel hip HS1.out; obtain ⟨q0', q1'⟩ := step_cell hstq ts1.bel hkq HS2.out; simp only at p0' p1' q0' q1')
                go_roundw
                case rel => exact ⟨i + 1, k + 1, _, _, hip, hkq, by go_num, by go_num, HC2, HD2, HO2, ts1⟩
                case measure => simp [RowKit.intOf]; omega
              · have g21 : (k2 == 1) = false := by simpa using h21
                have HC2 : Hid (C = (c) ++ (xf (P.drop (i + 1)) (Q.drop (k + 1))).1) := by show C = _; rw [HC.out, hm]; simp [h21]
                have HD2 : Hid (D = (d) ++ (xf (P.drop (i + 1)) (Q.drop (k + 1))).2) := by show D = _; rw [HD.out, hm]; simp [h11]
                clear HC HD hm h11 h21
                go_wp2
                go_roundw
                case rel => exact ⟨i + 1, k + 1, _, _, hip, hkq, by go_num, by go_num, HC2, HD2, HO2, gs⟩
                case measure => simp [RowKit.intOf]; omega
        · exfalso
          have e := HO.out
          have hq0 : Q.drop k = [] := List.drop_of_length_le (by omega)
          rw [hdp, hq0] at e
          simp only [olds, if_neg h12] at e
          omega
    · obtain rfl : i = P.length := by omega
      have hdp : P.drop P.length = [] := List.drop_of_length_le (Nat.le_refl _)
      have hno : NoIns (P.drop P.length) := by rw [hdp]; exact noIns_nil
      by_cases hkq : k < Q.length
      · obtain ⟨gq, rfl⟩ := hstq.at hkq
        obtain ⟨q0, q1⟩ := step_cell hstq gs.bel hkq rfl
        have hdq : Q.drop k = Q[k] :: Q.drop (k + 1) := List.drop_eq_getElem_cons hkq
        obtain ⟨s2, hs2⟩ : ∃ s2, s2 = Q[k] := ⟨_, rfl⟩
        have HS2 : Hid (Q[k] = s2) := hs2.symm
        rw [← hs2] at hdq q0 q1
        clear hs2
        obtain ⟨k2, z2⟩ := s2
        simp only at q0 q1
        have h22 : k2 = 2 := by
          by_cases h22 : k2 = 2
          · exact h22
          · exfalso
            have e := HO.out
            rw [hdp, hdq] at e
            simp only [olds, if_neg h22] at e
            omega
        subst h22
        have HC2 : Hid (C = (c ++ [(1, 0)]) ++ (xf (P.drop P.length) (Q.drop (k + 1))).1) := by show C = _; rw [HC.out, hdq, xf_insR _ _ _ hno rfl]; simp
        have HD2 : Hid (D = (d ++ [(2, z2)]) ++ (xf (P.drop P.length) (Q.drop (k + 1))).2) := by show D = _; rw [HD.out, hdq, xf_insR _ _ _ hno rfl]; simp
        have HO2 : Hid (olds (P.drop P.length) = olds (Q.drop (k + 1))) := by
          show _ = _
          rw [HO.out, hdq]
          simp [olds]
        clear HC HD HO hdq hno hdp
        go_wp2_with (first | (at_builtin; refine wpList_append_lies _ rfl _ _ 149 rfl w6.heap.size 152 i0 (.agg #[.int .i64 0, .int .i32 0]) 2 16 Tryd.underlying149 hi hz0 hz1 hz2 rfl (by decide) _ _ _ rfl (ts1.od.alloc _) ⟨w1.heap.size, 0, none⟩ 1 1 [.int .i64 2, .int .i32 z2] rfl rfl (cell_two_new _ _ _ _) (by intro u hu; simp at hu; rcases hu with rfl | rfl <;> rfl) (by decide) (by unfold maxLen; omega) (by omega) (by have := ts1.bel.size; simp; omega) _ rfl ?_; intro g2 cap2 w2 hown2 hgrow2 hat2 hlt2; have ts2 := ts1.addD (2, z2) hown2 hgrow2 hat2) | (at_builtin; refine wpList_append_lies _ rfl _ _ 149 rfl w6.heap.size 152 i0 (.agg #[.int .i64 0, .int .i32 0]) 2 16 Tryd.underlying149 hi hz0 hz1 hz2 rfl (by decide) _ _ _ rfl (gs.oc.alloc _) ⟨wr.heap.size, 0, none⟩ 1 1 [.int .i64 1, .int .i32 0] rfl rfl (cell_two_new _ _ _ _) (by intro u hu; simp at hu; rcases hu with rfl | rfl <;> rfl) (by decide) (by unfold maxLen; omega) (by omega) (by have := gs.bel.size; simp; omega) _ rfl ?_; intro g1 cap1 w1 hown1 hgrow1 hat1 hlt1; have ts1 := gs.addC (1, 0) hown1 hgrow1 hat1; obtain ⟨q0', q1'⟩ := step_cell hstq ts1.bel hkq HS2.out; simp only at q0' q1'))
        go_roundw
        case rel => exact ⟨P.length, k + 1, _, _, hi', hkq, rfl, by go_num, HC2, HD2, HO2, ts2⟩
        case measure => simp [RowKit.intOf]; omega
      · obtain rfl : k = Q.length := by omega
        have hdq : Q.drop Q.length = [] := List.drop_of_length_le (Nat.le_refl _)
        have hC1 : C = c := by rw [HC.out, hdp, hdq, xf_nil]; simp
        have hD1 : D = d := by rw [HD.out, hdp, hdq, xf_nil]; simp
        clear HC HD HO hdp hdq hno
        subst hC1 hD1
        obtain ⟨oa, occ, rfl, hso⟩ := own_stepsAt gs.oc
        have cG := grouped_any C oa occ wr hso (by omega) nnC
        go_wp2_with fail
        refine cG.mono ?_
        rintro e w7 ⟨vu, rfl, hownu, hb7⟩
        obtain ⟨oa2, oc2, rfl, hso2⟩ := own_stepsAt (own_below gs.od hb7)
        have cG2 := grouped_any D oa2 oc2 w7 hso2 (by omega) nnD
        go_wp2_with fail
        refine cG2.mono ?_
        rintro e w8 ⟨vv, rfl, hownv, hb8⟩
        have hownu8 := own_below hownu hb8
        rw [HU.out] at hownu8
        rw [HV.out] at hownv
        have hbw : Below w.heap.size w wr := hb16.trans (gs.bel.mono hb16.size)
        have hb17 := below_two hbw hb7 (Nat.le_refl _)
        have hb18 := below_two hb17 hb8 (Nat.le_refl _)
        have hT8 : Tabs w8 := HT.out.below hb18
        have bu := hbw.size
        have bv := hb17.size
        clear cG cG2 hownu
        obtain ⟨ua, uc, rfl, hou⟩ := own_opAt hownu8
        obtain ⟨va, vc, rfl, hov⟩ := own_opAt hownv
        go_wp2_with fail
        refine (cU w8 ua uc hou hT8).mono ?_
        rintro e w9 ⟨rfl, hb9⟩
        have hb19 := below_two hb18 hb9 (Nat.le_refl _)
        clear cU
        by_cases hEU : EU = 0
        · subst hEU
          go_wp2_with fail
          refine (cV w9 va vc (hov.below hb9) (hT8.below hb9)).mono ?_
          rintro e w10 ⟨rfl, hb10⟩
          have hb20 := below_two hb19 hb10 (Nat.le_refl _)
          clear cV
          by_cases hEV : EV = 0
          · subst hEV
            go_wp2
            go_ret3
            exact ⟨.slice ua U.length uc, .slice va V.length vc, by simp, by simpa using own_base (own_below (own_below hownu8 hb9) hb10) bu, by simpa using own_base (own_below (own_below hownv hb9) hb10) bv, hb20⟩
          · have g1 : (EV != 0) = true := by simpa using hEV
            go_wp2
            go_ret3
            refine ⟨.slice none 0 0, .slice none 0 0, by simp, ?_, ?_, hb20⟩
            · simpa [hEV, partCells] using World.ownsRow_nil _ _ _ _
            · simpa [hEV, partCells] using World.ownsRow_nil _ _ _ _
        · have g1 : (EU != 0) = true := by simpa using hEU
          have g2 : (EU == 0) = false := by simpa using hEU
          clear cV
          go_wp2
          go_ret3
          refine ⟨.slice none 0 0, .slice none 0 0, by simp, ?_, ?_, hb19⟩
          · simpa [hEU, partCells] using World.ownsRow_nil _ _ _ _
          · simpa [hEU, partCells] using World.ownsRow_nil _ _ _ _

end Go.Proofs.YtmdehfomogfmlaaDoor
