/-
  Walk: wherryref.Composed.
-/
import Derived.Test.YtpiijhkohjnnhabDoorGroupedWalk
import Derived.Test.YtpiijhkohjnnhabDoorComposeWalk
import Derived.Test.YtpiijhkohjnnhabDoorTwoRows
import Derived.Test.YtpiijhkohjnnhabDoorOpFault
import Derived.Test.YtpiijhkohjnnhabDoorPureTrans
namespace Go.Proofs.YtpiijhkohjnnhabDoor
open Go.RowKit

/-- a row of steps -/
structure OS (w6 wr : World) (cv : Value) (c : List Step) : Prop where
  own : wr.ownsRow w6.heap.size 56 2 cv c.length (stepCells c)
  bel : Below w6.heap.size w6 wr
theorem OS.add {w6 wr w1 : World} {cv v : Value} {c : List Step} {o : Obj} (h : OS w6 wr cv c) (s : Step) (hown : w1.ownsRow w6.heap.size 56 2 v (c.length + 1) (stepCells c ++ [.int .i64 s.1, .int .i32 s.2])) (hg : (wr.alloc o).grownBy w1 cv.ownBlock) : OS w6 w1 v (c ++ [s]) := by
  have hsz := h.bel.size
  refine ⟨?_, (h.bel.alloc hsz _).grown hg (by simp; omega) (fun j e => (h.own.lt j e).1)⟩
  rw [stepCells_append, stepCells_one, List.length_append]
  exact hown

set_option maxRecDepth 100000 in
set_option maxHeartbeats 4000000 in
theorem composed_ok (ps qs : List Part) (a b : Option Addr) (ca cb : Nat) (w : World) (hopa : OpAt w a ps) (hopb : OpAt w b qs) (hna : ps.length ≤ 1048576) (hnb : qs.length ≤ 1048576) (hsa : ∀ p ∈ ps, p.text.size ≤ 1048576) (hsb : ∀ p ∈ qs, p.text.size ≤ 1048576) (hT : Tabs w)
    (ha0 : opErr ps = 0) (hb0 : opErr qs = 0) (h2 : toN ps = fromN qs) :
    Calls Tryd.prog 11 #[.slice a ps.length ca, .slice b qs.length cb] w fun e w' => ∃ u, e = .returned (.tuple #[u, .int .i64 (opErr (cO ps qs))]) ∧
      w'.ownsRow w.heap.size 49 3 u (if opErr (cO ps qs) ≠ 0 then [] else cO ps qs).length (partCells (if opErr (cO ps qs) ≠ 0 then [] else cO ps qs)) ∧ Below w.heap.size w w' := by
  have hs1 : ∀ p ∈ ps, p.text.size ≤ 70368744177664 := fun p hp => by have := hsa p hp; omega
  have hs2 : ∀ p ∈ qs, p.text.size ≤ 70368744177664 := fun p hp => by have := hsb p hp; omega
  have hoka := opErr_zero ha0
  have hokb := opErr_zero hb0
  obtain ⟨ul, ut⟩ := cO_small hoka hokb
  obtain ⟨_, ea⟩ := lens_from hoka
  obtain ⟨eb, _⟩ := lens_from hokb
  have c1 := opFault_any ps a ca w hopa (by omega) hs1 hT
  have c2 := fun w1 hb1 => opFault_any qs b cb w1 (hopb.below (w' := w1) hb1) (by omega) hs2 (hT.below hb1)
  have c3 := fun w1 hb1 => lengthsOf_any ps a ca w1 (hopa.below (w' := w1) hb1) (by omega) hs1
  have c4 := fun w1 hb1 => lengthsOf_any qs b cb w1 (hopb.below (w' := w1) hb1) (by omega) hs2
  have c5 := fun w1 hb1 => steps_any ps a ca w1 (hopa.below (w' := w1) hb1) hoka hsa
  have c6 := fun w1 hb1 => steps_any qs b cb w1 (hopb.below (w' := w1) hb1) hokb hsb
  rw [ha0] at c1
  rw [hb0] at c2
  rw [ea] at c3
  rw [eb, ← h2] at c4
  have HO : Hid (news (steps ps) = olds (steps qs)) := by show _ = _; rw [news_steps hoka.chain.good, olds_steps hokb.chain.good, h2]
  have hla := hoka.steps_le
  have hlb := hokb.steps_le
  have hmN := hoka.to_le
  have hlen := cf_length (steps ps) (steps qs)
  have nnC := cf_nonneg (steps ps) (steps qs) (steps_nonneg ps) (steps_nonneg qs)
  obtain ⟨U, hU⟩ : ∃ U, U = cO ps qs := ⟨_, rfl⟩
  obtain ⟨C, hC⟩ : ∃ C, C = cf (steps ps) (steps qs) := ⟨_, rfl⟩
  have HU : Hid (group C = U) := by show _ = _; rw [hU, hC]; rfl
  rw [← hU] at ul ut ⊢
  rw [← hC] at hlen nnC
  have HC : Hid (C = cf (steps ps) (steps qs)) := hC
  have hCl : C.length ≤ 16000 := by omega
  clear hU hC hlen ea eb ha0 hb0 h2 hs1 hs2 hsa hsb hoka hokb
  obtain ⟨P, hP⟩ : ∃ P, P = steps ps := ⟨_, rfl⟩
  obtain ⟨Q, hQ⟩ : ∃ Q, Q = steps qs := ⟨_, rfl⟩
  rw [← hP] at c5 HO HC hla
  rw [← hQ] at c6 HO HC hlb
  clear hP hQ
  generalize toN ps = N at *
  generalize (lens ps).1 = t1 at c3
  generalize (lens qs).2 = t2 at c4
  have cU := fun w1 a1 k1 ho1 hT1 => opFault_any U a1 k1 w1 ho1 (by omega) (fun p hp => by have := ut p hp; omega) hT1
  clear ut
  have HT : Hid (Tabs w) := hT
  clear hT
  generalize opErr U = EU at *
  go_enter Tryd.func11, Tryd.ntmps11
  go_wp2_with fail
  refine c1.mono ?_
  rintro e w1 ⟨rfl, hb1⟩
  go_wp2_with fail
  refine (c2 w1 hb1).mono ?_
  rintro e w2 ⟨rfl, hb2⟩
  have hb12 := below_two hb1 hb2 (Nat.le_refl _)
  go_wp2_with fail
  refine (c3 w2 hb12).mono ?_
  rintro e w3 ⟨rfl, hb3⟩
  have hb13 := below_two hb12 hb3 (Nat.le_refl _)
  go_wp2_with fail
  refine (c4 w3 hb13).mono ?_
  rintro e w4 ⟨rfl, hb4⟩
  have hb14 := below_two hb13 hb4 (Nat.le_refl _)
  clear c1 c2 c3 c4
  go_wp2_with fail
  refine (c5 w4 hb14).mono ?_
  rintro e w5 ⟨vp, rfl, hownp, hb5⟩
  have hb15 := below_two hb14 hb5 (Nat.le_refl _)
  obtain ⟨pa, pc, rfl, hstp5⟩ := own_stepsAt hownp
  go_wp2_with fail
  refine (c6 w5 hb15).mono ?_
  rintro e w6 ⟨vq, rfl, hownq, hb6⟩
  have hb16 := below_two hb15 hb6 (Nat.le_refl _)
  obtain ⟨qa, qc, rfl, hstq⟩ := own_stepsAt hownq
  have hstp := hstp5.below hb6
  clear c5 c6 hownp hownq hstp5 hb1 hb2 hb3 hb4 hb5 hb6 hb12 hb13 hb14 hb15 hopa hopb
  obtain ⟨i0, hi, hz0, hz1, hz2⟩ := info_parts info_step
  go_wp2
  go_loopw [13, 14, 15] (fun cv iv kv wr => ∃ (i k : Nat) (c : List Step), i ≤ P.length ∧ k ≤ Q.length ∧ iv = .int .i64 i ∧ kv = .int .i64 k ∧ Hid (C = c ++ cf (P.drop i) (Q.drop k)) ∧ Hid (news (P.drop i) = olds (Q.drop k)) ∧ OS w6 wr cv c) (fun _ iv kv _ => (P.length - (RowKit.intOf iv).toNat) + (Q.length - (RowKit.intOf kv).toNat))
  case atStart => exact ⟨0, 0, [], Nat.zero_le _, Nat.zero_le _, rfl, rfl, HC, HO, World.ownsRow_nil _ _ _ _, Below.refl _ _⟩
  case round =>
    obtain ⟨i, k, c, hi', hk, rfl, rfl, HC, HO, gs⟩ := hrel
    have hcl : c.length ≤ C.length := by rw [HC.out, List.length_append]; omega
    by_cases hip : i < P.length
    · obtain ⟨gp, rfl⟩ := hstp.at hip
      obtain ⟨p0, p1⟩ := step_cell hstp gs.bel hip rfl
      have hdp : P.drop i = P[i] :: P.drop (i + 1) := List.drop_eq_getElem_cons hip
      generalize P[i] = s1 at *
      obtain ⟨k1, z1⟩ := s1
      simp only at p0 p1
      by_cases h13 : k1 = 3
      · subst h13
        have HC2 : Hid (C = (c ++ [(3, z1)]) ++ cf (P.drop (i + 1)) (Q.drop k)) := by show C = _; rw [HC.out, hdp, cf_delL _ _ _ rfl]; simp
        have HO2 : Hid (news (P.drop (i + 1)) = olds (Q.drop k)) := by
          show _ = _
          rw [← HO.out, hdp]
          simp [news]
        clear HC HO hdp
        go_wp2_with (at_builtin; refine wpList_append_lies _ rfl _ _ 53 rfl w6.heap.size 56 i0 (.agg #[.int .i64 0, .int .i32 0]) 2 16 Tryd.underlying53 hi hz0 hz1 hz2 rfl (by decide) _ _ _ rfl (gs.own.alloc _) ⟨wr.heap.size, 0, none⟩ 1 1 [.int .i64 3, .int .i32 z1] rfl rfl (cell_two_new _ _ _ _) (by intro u hu; simp at hu; rcases hu with rfl | rfl <;> rfl) (by decide) (by unfold maxLen; omega) (by omega) (by have := gs.bel.size; simp; omega) _ rfl ?_; intro g1 cap1 w1 hown1 hgrow1 hat1 hlt1; have ts1 := gs.add (3, z1) hown1 hgrow1)
        go_roundw
        case rel => exact ⟨i + 1, k, _, hip, hk, by go_num, rfl, HC2, HO2, ts1⟩
        case measure => simp [RowKit.intOf]; omega
      · have g13 : (k1 == 3) = false := by simpa using h13
        have hno : NoDel (P.drop i) := by rw [hdp]; intro x r e; simp only [List.cons.injEq] at e; rw [← e.1]; exact h13
        by_cases hkq : k < Q.length
        · obtain ⟨gq, rfl⟩ := hstq.at hkq
          obtain ⟨q0, q1⟩ := step_cell hstq gs.bel hkq rfl
          have hdq : Q.drop k = Q[k] :: Q.drop (k + 1) := List.drop_eq_getElem_cons hkq
          generalize Q[k] = s2 at *
          obtain ⟨k2, z2⟩ := s2
          simp only at q0 q1
          by_cases h22 : k2 = 2
          · subst h22
            have HC2 : Hid (C = (c ++ [(2, z2)]) ++ cf (P.drop i) (Q.drop (k + 1))) := by show C = _; rw [HC.out, hdq, cf_insR _ _ _ hno rfl]; simp
            have HO2 : Hid (news (P.drop i) = olds (Q.drop (k + 1))) := by
              show _ = _
              rw [HO.out, hdq]
              simp [olds]
            clear HC HO hdq hno
            go_wp2_with (at_builtin; refine wpList_append_lies _ rfl _ _ 53 rfl w6.heap.size 56 i0 (.agg #[.int .i64 0, .int .i32 0]) 2 16 Tryd.underlying53 hi hz0 hz1 hz2 rfl (by decide) _ _ _ rfl (gs.own.alloc _) ⟨wr.heap.size, 0, none⟩ 1 1 [.int .i64 2, .int .i32 z2] rfl rfl (cell_two_new _ _ _ _) (by intro u hu; simp at hu; rcases hu with rfl | rfl <;> rfl) (by decide) (by unfold maxLen; omega) (by omega) (by have := gs.bel.size; simp; omega) _ rfl ?_; intro g1 cap1 w1 hown1 hgrow1 hat1 hlt1; have ts1 := gs.add (2, z2) hown1 hgrow1)
            go_roundw
            case rel => exact ⟨i, k + 1, _, hi', hkq, rfl, by go_num, HC2, HO2, ts1⟩
            case measure => simp [RowKit.intOf]; omega
          · have g22 : (k2 == 2) = false := by simpa using h22
            have hm := cf_meet (k1, z1) (k2, z2) (P.drop (i + 1)) (Q.drop (k + 1)) h13 h22
            rw [← hdp, ← hdq] at hm
            simp only at hm
            have HO2 : Hid (news (P.drop (i + 1)) = olds (Q.drop (k + 1))) := by
              show _ = _
              have e := HO.out
              rw [hdp, hdq] at e
              simp only [news, olds, if_neg h13, if_neg h22] at e
              omega
            clear hdp hdq hno HO h13 h22
            by_cases h21 : k2 = 1
            · subst h21
              have HC2 : Hid (C = (c ++ [(k1, z1)]) ++ cf (P.drop (i + 1)) (Q.drop (k + 1))) := by show C = _; rw [HC.out, hm]; simp
              clear HC hm
              go_wp2_with (at_builtin; refine wpList_append_lies _ rfl _ _ 53 rfl w6.heap.size 56 i0 (.agg #[.int .i64 0, .int .i32 0]) 2 16 Tryd.underlying53 hi hz0 hz1 hz2 rfl (by decide) _ _ _ rfl (gs.own.alloc _) ⟨wr.heap.size, 0, none⟩ 1 1 [.int .i64 k1, .int .i32 z1] rfl rfl (cell_two_new _ _ _ _) (by intro u hu; simp at hu; rcases hu with rfl | rfl <;> rfl) (by decide) (by unfold maxLen; omega) (by omega) (by have := gs.bel.size; simp; omega) _ rfl ?_; intro g1 cap1 w1 hown1 hgrow1 hat1 hlt1; have ts1 := gs.add (k1, z1) hown1 hgrow1)
              go_roundw
              case rel => exact ⟨i + 1, k + 1, _, hip, hkq, by go_num, by go_num, HC2, HO2, ts1⟩
              case measure => simp [RowKit.intOf]; omega
            · have g21 : (k2 == 1) = false := by simpa using h21
              by_cases h11 : k1 = 1
              · subst h11
                have HC2 : Hid (C = (c ++ [(k2, z2)]) ++ cf (P.drop (i + 1)) (Q.drop (k + 1))) := by show C = _; rw [HC.out, hm]; simp [h21]
                clear HC hm h21
                go_wp2_with (at_builtin; refine wpList_append_lies _ rfl _ _ 53 rfl w6.heap.size 56 i0 (.agg #[.int .i64 0, .int .i32 0]) 2 16 Tryd.underlying53 hi hz0 hz1 hz2 rfl (by decide) _ _ _ rfl (gs.own.alloc _) ⟨wr.heap.size, 0, none⟩ 1 1 [.int .i64 k2, .int .i32 z2] rfl rfl (cell_two_new _ _ _ _) (by intro u hu; simp at hu; rcases hu with rfl | rfl <;> rfl) (by decide) (by unfold maxLen; omega) (by omega) (by have := gs.bel.size; simp; omega) _ rfl ?_; intro g1 cap1 w1 hown1 hgrow1 hat1 hlt1; have ts1 := gs.add (k2, z2) hown1 hgrow1)
                go_roundw
                case rel => exact ⟨i + 1, k + 1, _, hip, hkq, by go_num, by go_num, HC2, HO2, ts1⟩
                case measure => simp [RowKit.intOf]; omega
              · have g11 : (k1 == 1) = false := by simpa using h11
                have HC2 : Hid (C = (c) ++ cf (P.drop (i + 1)) (Q.drop (k + 1))) := by show C = _; rw [HC.out, hm]; simp [h11, h21]
                clear HC hm h11 h21
                go_wp2
                go_roundw
                case rel => exact ⟨i + 1, k + 1, _, hip, hkq, by go_num, by go_num, HC2, HO2, gs⟩
                case measure => simp [RowKit.intOf]; omega
        · exfalso
          have e := HO.out
          have hq0 : Q.drop k = [] := List.drop_of_length_le (by omega)
          rw [hdp, hq0] at e
          simp only [news, olds, if_neg h13] at e
          omega
    · obtain rfl : i = P.length := by omega
      have hdp : P.drop P.length = [] := List.drop_of_length_le (Nat.le_refl _)
      have hno : NoDel (P.drop P.length) := by rw [hdp]; exact noDel_nil
      by_cases hkq : k < Q.length
      · obtain ⟨gq, rfl⟩ := hstq.at hkq
        obtain ⟨q0, q1⟩ := step_cell hstq gs.bel hkq rfl
        have hdq : Q.drop k = Q[k] :: Q.drop (k + 1) := List.drop_eq_getElem_cons hkq
        generalize Q[k] = s2 at *
        obtain ⟨k2, z2⟩ := s2
        simp only at q0 q1
        have h22 : k2 = 2 := by
          by_cases h22 : k2 = 2
          · exact h22
          · exfalso
            have e := HO.out
            rw [hdp, hdq] at e
            simp only [news, olds, if_neg h22] at e
            omega
        subst h22
        have HC2 : Hid (C = (c ++ [(2, z2)]) ++ cf (P.drop P.length) (Q.drop (k + 1))) := by show C = _; rw [HC.out, hdq, cf_insR _ _ _ hno rfl]; simp
        have HO2 : Hid (news (P.drop P.length) = olds (Q.drop (k + 1))) := by
          show _ = _
          rw [HO.out, hdq]
          simp [olds]
        clear HC HO hdq hno hdp
        go_wp2_with (at_builtin; refine wpList_append_lies _ rfl _ _ 53 rfl w6.heap.size 56 i0 (.agg #[.int .i64 0, .int .i32 0]) 2 16 Tryd.underlying53 hi hz0 hz1 hz2 rfl (by decide) _ _ _ rfl (gs.own.alloc _) ⟨wr.heap.size, 0, none⟩ 1 1 [.int .i64 2, .int .i32 z2] rfl rfl (cell_two_new _ _ _ _) (by intro u hu; simp at hu; rcases hu with rfl | rfl <;> rfl) (by decide) (by unfold maxLen; omega) (by omega) (by have := gs.bel.size; simp; omega) _ rfl ?_; intro g1 cap1 w1 hown1 hgrow1 hat1 hlt1; have ts1 := gs.add (2, z2) hown1 hgrow1)
        go_roundw
        case rel => exact ⟨P.length, k + 1, _, hi', hkq, rfl, by go_num, HC2, HO2, ts1⟩
        case measure => simp [RowKit.intOf]; omega
      · obtain rfl : k = Q.length := by omega
        have hdq : Q.drop Q.length = [] := List.drop_of_length_le (Nat.le_refl _)
        have hC1 : C = c := by rw [HC.out, hdp, hdq, cf_nil]; simp
        clear HC HO hdp hdq hno
        subst hC1
        obtain ⟨oa, occ, rfl, hso⟩ := own_stepsAt gs.own
        have cG := grouped_any C oa occ wr hso (by omega) nnC
        go_wp2_with fail
        refine cG.mono ?_
        rintro e w8 ⟨vu, rfl, hownu8, hb8⟩
        rw [HU.out] at hownu8
        have hbw : Below w.heap.size w wr := hb16.trans (gs.bel.mono hb16.size)
        have hb18 := below_two hbw hb8 (Nat.le_refl _)
        have hT8 : Tabs w8 := HT.out.below hb18
        have bu := hbw.size
        clear cG
        obtain ⟨ua, uc, rfl, hou⟩ := own_opAt hownu8
        go_wp2_with fail
        refine (cU w8 ua uc hou hT8).mono ?_
        rintro e w9 ⟨rfl, hb9⟩
        have hb19 := below_two hb18 hb9 (Nat.le_refl _)
        clear cU
        by_cases hEU : EU = 0
        · subst hEU
          go_wp2
          go_ret2
          exact ⟨.slice ua U.length uc, by simp, by simpa using own_base (own_below hownu8 hb9) bu, hb19⟩
        · have g1 : (EU != 0) = true := by simpa using hEU
          go_wp2
          go_ret2
          refine ⟨.slice none 0 0, by simp, ?_, hb19⟩
          simpa [hEU, partCells] using World.ownsRow_nil _ _ _ _

end Go.Proofs.YtpiijhkohjnnhabDoor
