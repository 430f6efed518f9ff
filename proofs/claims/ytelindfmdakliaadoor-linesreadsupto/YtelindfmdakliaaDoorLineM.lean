/-
  Walks: wherryref.ActsOf; wherrylaw.sameActs, LinesReads.
-/
import Derived.Test.YtelindfmdakliaaDoorLineK
import Derived.Test.YtelindfmdakliaaDoorSameOp
namespace Go.Proofs.YtelindfmdakliaaDoor
open Go.RowKit Go.Lib

theorem cut_at (c : UInt8) : ∀ (a b : List UInt8), (∀ x ∈ a, x ≠ c) → cutB c (a ++ c :: b) = (a, b, true)
  | [], b, _ => by unfold cutB; simp
  | x :: a, b, h => by
    have ih := cut_at c a b (fun y hy => h y (List.mem_cons_of_mem _ hy))
    have hx : (x != c) = true := by simpa using h x List.mem_cons_self
    unfold cutB at ih ⊢
    simp only [Prod.mk.injEq] at ih
    rw [List.cons_append, List.takeWhile_cons, if_pos hx, List.dropWhile_cons, if_pos hx, List.any_cons, ih.1, ih.2.1, ih.2.2, Bool.or_true]
theorem cut_none (c : UInt8) (a : List UInt8) (h : ∀ x ∈ a, x ≠ c) : cutB c a = (a, [], false) := by
  have hf : a.any (· == c) = false := by
    rw [List.any_eq_false]
    intro x hx
    simpa using h x hx
  obtain ⟨h1, h2⟩ := none_tw a c hf
  unfold cutB
  rw [h1, h2, hf]
  rfl
theorem cut_scan (l : List UInt8) (f e : Nat) (hfe : f ≤ e) (hel : e ≤ l.length) (hb : ∀ j (h : j < l.length), f ≤ j → j < e → l[j] ≠ 10) (he : ∀ h : e < l.length, l[e] = 10) :
    cutB 10 (l.drop f) = ((l.drop f).take (e - f), l.drop (e + 1), decide (e < l.length)) := by
  have ha : ∀ x ∈ (l.drop f).take (e - f), x ≠ 10 := fun x hx => by
    obtain ⟨j, hj, rfl⟩ := List.getElem_of_mem hx
    rw [List.length_take, List.length_drop] at hj
    rw [List.getElem_take, List.getElem_drop]
    exact hb (f + j) (by omega) (by omega) (by omega)
  have hd : l.drop f = (l.drop f).take (e - f) ++ l.drop e := by
    conv => lhs; rw [← List.take_append_drop (e - f) (l.drop f)]
    rw [List.drop_drop, show f + (e - f) = e by omega]
  by_cases h : e < l.length
  · rw [decide_eq_true h]
    conv => lhs; rw [hd, List.drop_eq_getElem_cons h, he h]
    exact cut_at 10 _ _ ha
  · rw [decide_eq_false h]
    have e1 : l.drop e = [] := List.drop_of_length_le (by omega)
    have e2 : l.drop (e + 1) = [] := List.drop_of_length_le (by omega)
    rw [e2]
    conv => lhs; rw [hd, e1, List.append_nil]
    exact cut_none 10 _ ha
theorem partsR_len : ∀ (ws : List (List UInt8)) (ps : List Part), partsR ws = some ps → ps.length = ws.length
  | [], ps, h => by cases h; rfl
  | x :: ws, ps, h => by
    rw [parts_read] at h
    obtain ⟨p, _, h⟩ := Option.bind_eq_some_iff.1 h
    obtain ⟨qs, hq, rfl⟩ := Option.map_eq_some_iff.1 h
    rw [List.length_cons, List.length_cons, partsR_len ws qs hq]
theorem refA_op {l : List UInt8} {a : ActI} (h : refA l = some a) (hl : l.length ≤ 1048576) : a.op.length ≤ 1048577 ∧ ∀ p ∈ a.op, p.text.size ≤ 1048576 := by
  have hw := wordsL_le l
  have hc := wordsL_count l
  unfold refA at h
  split at h
  · cases h
  · rename_i x ws he
    rw [he] at hw hc
    simp only [List.length_cons] at hc
    unfold refK at h
    split at h
    · cases h
    · split at h
      · split at h
        · cases h; exact ⟨Nat.zero_le _, fun p hp => by cases hp⟩
        · cases h
      · split at h
        · cases h
        · rename_i y r
          obtain ⟨v, _, h⟩ := Option.bind_eq_some_iff.1 h
          split at h
          · obtain ⟨ps, hp, rfl⟩ := Option.map_eq_some_iff.1 h
            have h1 := partsR_len r ps hp
            have h2 := partsR_ok r ps 1048576 hp (fun z hz => by have := hw z (List.mem_cons_of_mem _ (List.mem_cons_of_mem _ hz)); omega)
            simp only [List.length_cons] at hc
            exact ⟨by show ps.length ≤ _; omega, fun p hp => (h2 p hp).2.2⟩
          · obtain ⟨vs, _, h⟩ := Option.bind_eq_some_iff.1 h
            split at h
            · cases h; exact ⟨Nat.zero_le _, fun p hp => by cases hp⟩
            · cases h

set_option maxRecDepth 100000 in
set_option maxHeartbeats 4000000 in
theorem actsOf_any (T : List Int) (ta : Option Addr) (tc : Nat) (l : List UInt8) (w : World) (hin : Ints w ta T) (hlT : T.length ≤ 9223372036854775807) (hl : l.length ≤ 1048576) (hT : Tabs w) (R : List ActI × Nat × Int) (hR : R = readX T l) :
    Calls Tryd.prog 13 #[.slice ta T.length tc, .string (txt l)] w (fun e w' => (∃ (K : List ActK) (v : Value), e = .returned (.tuple #[v, .int .i64 (R.2.1 : Int), .int .i64 R.2.2]) ∧ RowK actS w' w.heap.size v K ∧ K.map (·.1) = R.1 ∧ K.length ≤ 3000 ∧ ∀ x ∈ K, ActSmall x.1) ∧ Below w.heap.size w w') := by
  have cT := treeFault_any T ta tc w hin hlT
  by_cases ht : treeErr T = 0
  rotate_left
  · have e : R = ([], 0, treeErr T) := by rw [hR]; unfold readX; rw [if_pos ht]
    rw [e]
    clear e hin hT hR
    have g : (treeErr T != 0) = true := by simpa using ht
    generalize treeErr T = E at *
    go_enter Tryd.func13, Tryd.ntmps13
    go_wp2_with fail
    refine cT.mono ?_
    rintro r w1 ⟨rfl, hw⟩
    rw [hw]
    clear hw w1 cT
    go_wp2_with fail
    go_ret3
    exact ⟨⟨[], _, rfl, rowK_nil _ _ _, rfl, Nat.zero_le _, fun x hx => by simp at hx⟩, Below.refl _ _⟩
  have HR : Hid (R = readA T.length (l.length + 1) [] l) := by
    show R = _
    rw [hR]; unfold readX; rw [if_neg (fun k => k ht)]
  have HTE : Hid (∀ (kd nd tw pk kp an hd : Int) (op : List Part) (oa : Option Addr) (oc : Nat), linesErr T ⟨kd, nd, tw, pk, kp, op, oa, oc, an, hd⟩ = actErr T.length (ActI.v ⟨kd, nd, tw, pk, kp, op, an, hd⟩)) := fun kd nd tw pk kp an hd op oa oc => by unfold linesErr; rw [if_neg (fun k => k ht)]; rfl
  rw [ht] at cT
  have hS : (txt l).size = l.length := rfl
  have HX : Hid (∀ a b, (txt l).extract a b = txt ((l.drop a).take (b - a))) := txt_cut l
  have HI0 : ∀ i (h : i < l.length), ∀ wx, (Instr.index 9 (.string (txt l)) (.int .i64 (i : Int))).run Tryd.prog wx = .ok (.int .u8 ((l[i].toNat : Nat) : Int)) wx := fun i h wx => str_index (txt l) i (i : Int) rfl h wx
  have HI : Hid _ := HI0
  clear hR ht HI0
  generalize txt l = S at *
  go_enter Tryd.func13, Tryd.ntmps13
  go_wp2_with fail
  refine cT.mono ?_
  rintro r w1 ⟨rfl, hw⟩
  rw [hw]
  clear hw w1 cT
  go_wp2_with fail
  go_loopg [8, 9, 10] (l.length + 1) (fun g ov fv iv wr => ∃ (f : Nat) (K : List ActK), fv = .int .i64 (f : Int) ∧ iv = .int .i64 (K.length : Int) ∧ l.length - f < g ∧ f ≤ l.length ∧ RowK actS wr w.heap.size ov K ∧ K.length ≤ 3000 ∧ (∀ x ∈ K, ActSmall x.1) ∧ Hid (R = readA T.length g (K.map (·.1)) (l.drop f)) ∧ Below w.heap.size w wr)
  case atStart => exact ⟨0, [], rfl, rfl, by omega, Nat.zero_le _, rowK_nil _ _ _, Nat.zero_le _, fun x hx => by simp at hx, HR, Below.refl _ _⟩
  case round =>
    obtain ⟨f, K, rfl, rfl, hlg, hfl, hK, hK3, hsm, HA, HB⟩ := hrel
    obtain ⟨g', hg'⟩ : ∃ g', gk = g' + 1 := ⟨gk - 1, by omega⟩
    obtain ⟨la, lc, rfl⟩ := own_form hK.row
    have HA1 := HA.out
    rw [hg', readA_succ] at HA1
    have hml : (K.map (·.1)).length = K.length := List.length_map _
    rw [hml] at HA1
    have HG : Hid (gk = g' + 1) := hg'
    have HKm0 : ∀ x : ActK, (K ++ [x]).map (·.1) = K.map (·.1) ++ [x.1] := fun x => by rw [List.map_append]; rfl
    have HKm : Hid _ := HKm0
    clear HKm0
    clear HA hg' hml HR
    by_cases h0 : f < l.length
    rotate_left
    · have hz : ¬ (f : Int) < (l.length : Int) := by omega
      have hfin : Hid (R = (K.map (·.1), 0, 0)) := by show R = _; rw [HA1, if_pos (List.drop_of_length_le (by omega))]
      clear HA1 h0 HKm hT HX HI HTE
      go_wp2_with fail
      go_ret3
      exact ⟨⟨K, _, by rw [hfin.out]; rfl, hK, by rw [hfin.out], hK3, fun a b h => hsm (a, b) h⟩, HB⟩
    have hz : (f : Int) < (l.length : Int) := by omega
    rw [if_neg (by intro h; have := congrArg List.length h; rw [List.length_drop, List.length_nil] at this; omega)] at HA1
    have HA2 : Hid (R = _) := HA1
    clear HA1
    go_wp2_with fail
    go_loopg [11] (l.length - f) (fun g ev wq => ∃ e : Nat, e + g = l.length ∧ f ≤ e ∧ ev = .int .i64 (e : Int) ∧ Hid (∀ j (h : j < l.length), f ≤ j → j < e → l[j] ≠ 10) ∧ wr = wq)
    case atStart => exact ⟨f, by omega, Nat.le_refl _, rfl, fun j _ h1 h2 => by omega, rfl⟩
    case round =>
      obtain ⟨e, he, hfe, rfl, HS, rfl⟩ := hrel
      have he0 : (0 : Int) ≤ (e : Int) := by omega
      have hf0 : (0 : Int) ≤ (f : Int) := by omega
      have hfez : (f : Int) ≤ (e : Int) := by omega
      by_cases hq : ∃ h : e < l.length, l[e] ≠ 10
      · obtain ⟨hel, hn10⟩ := hq
        have hez : (e : Int) < (l.length : Int) := by omega
        have hx := fun wx => HI.out e hel wx
        have hx10 : (((l[e].toNat : Nat) : Int) != 10) = true := by simp; intro h; exact hn10 (UInt8.toNat_inj.1 (by show l[e].toNat = 10; omega))
        have HS2 : Hid (∀ j (h : j < l.length), f ≤ j → j < e + 1 → l[j] ≠ 10) := fun j h h1 h2 => by
          by_cases hje : j = e
          · subst hje; exact hn10
          · exact HS.out j h h1 (by omega)
        have HE : Hid (e + gk = l.length) := he
        clear HS HA2 HX HI HTE hn10 hT hK hsm he
        generalize l[e].toNat = q at *
        go_wp2_with fail
        go_roundg (gk - 1)
        case measure => have := HE.out; omega
        case rel => exact ⟨e + 1, by have := HE.out; omega, by omega, by go_num, HS2, rfl⟩
      · have hel : e ≤ l.length := by omega
        have hcs := cut_scan l f e hfe hel HS.out (fun h => by
          by_cases h10 : l[e] = 10
          · exact h10
          · exact absurd ⟨h, h10⟩ hq)
        have HA3 : Hid (R = if K.length = 3000 then (([] : List ActI), K.length, (1 : Int)) else match (motive := Option ActI → List ActI × Nat × Int) readL ((l.drop f).take (e - f)) with
          | none => ([], K.length, 4)
          | some a => if decide (e < l.length) = false then ([], K.length, 4) else if actErr (T.length : Int) a.v ≠ 0 then ([], K.length, actErr (T.length : Int) a.v) else readA T.length g' (K.map (·.1) ++ [a]) (l.drop (e + 1))) := by
          have := HA2.out
          rw [hcs] at this
          exact this
        have HQ : Hid (¬ ∃ h : e < l.length, l[e] ≠ 10) := hq
        clear HA2 hcs hq HS he
        by_cases hlt : e < l.length
        rotate_left
        · have hez : ¬ (e : Int) < (l.length : Int) := by omega
          have hez2 : ((e : Int) == (l.length : Int)) = true := by simp; omega
          by_cases h3 : K.length = 3000
          · have h3z : ((K.length : Int) == 3000) = true := by rw [h3]; rfl
            have hfin : Hid (R = ([], K.length, 1)) := by show R = _; rw [HA3.out, if_pos h3]
            clear HA3 h3 HKm hT HX HI HTE
            go_wp2_with fail
            go_ret3
            exact ⟨⟨[], _, by rw [hfin.out]; rfl, rowK_nil _ _ _, by rw [hfin.out]; rfl, Nat.zero_le _, by first | (intro x hx; simp at hx; done) | (intro x y hx; simp at hx; done) | simp⟩, HB⟩
          · have h3z : ((K.length : Int) == 3000) = false := by simp; omega
            have hfin : Hid (R = ([], K.length, 4)) := by
              show R = _
              rw [HA3.out, if_neg h3, decide_eq_false hlt]
              cases readL ((l.drop f).take (e - f)) <;> rfl
            clear HA3 h3 HKm hT HX HI HTE
            go_wp2_with fail
            go_ret3
            exact ⟨⟨[], _, by rw [hfin.out]; rfl, rowK_nil _ _ _, by rw [hfin.out]; rfl, Nat.zero_le _, by first | (intro x hx; simp at hx; done) | (intro x y hx; simp at hx; done) | simp⟩, HB⟩
        have h10 : l[e].toNat = 10 := by
          by_cases h : l[e] = 10
          · rw [h]; rfl
          · exact absurd ⟨hlt, h⟩ HQ.out
        have hx := fun wx => HI.out e hlt wx
        rw [h10] at hx
        have hez : (e : Int) < (l.length : Int) := by omega
        have hez2 : ((e : Int) == (l.length : Int)) = false := by simp; omega
        clear h10 HQ
        by_cases h3 : K.length = 3000
        · have h3z : ((K.length : Int) == 3000) = true := by rw [h3]; rfl
          have hfin : Hid (R = ([], K.length, 1)) := by show R = _; rw [HA3.out, if_pos h3]
          clear HA3 h3 HKm hT HX HI HTE
          go_wp2_with fail
          go_ret3
          exact ⟨⟨[], _, by rw [hfin.out]; rfl, rowK_nil _ _ _, by rw [hfin.out]; rfl, Nat.zero_le _, fun x hx => by simp at hx⟩, HB⟩
        have h3z : ((K.length : Int) == 3000) = false := by simp; omega
        have hsl := HX.out f e
        have hcl : ((l.drop f).take (e - f)).length ≤ 1048576 := by rw [List.length_take, List.length_drop]; omega
        have hrl := readL_ref ((l.drop f).take (e - f))
        have hso := fun a h => @refA_op ((l.drop f).take (e - f)) a h hcl
        have hsa := fun a h => @readL_small ((l.drop f).take (e - f)) a h hcl
        have cL := fun wx => lineAct_any ((l.drop f).take (e - f)) wx hcl _ rfl
        have HA4 : Hid (R = match (motive := Option ActI → List ActI × Nat × Int) readL ((l.drop f).take (e - f)) with
          | none => ([], K.length, 4)
          | some a => if actErr (T.length : Int) a.v ≠ 0 then ([], K.length, actErr (T.length : Int) a.v) else readA T.length g' (K.map (·.1) ++ [a]) (l.drop (e + 1))) := by
          show R = _
          rw [HA3.out, if_neg h3, decide_eq_true hlt]
          cases readL ((l.drop f).take (e - f)) <;> rfl
        rw [hrl] at HA4 hsa
        clear HA3 h3 hrl HX HI
        generalize txt ((l.drop f).take (e - f)) = C at *
        generalize refA ((l.drop f).take (e - f)) = Q at *
        clear hcl
        go_wp2_with fail
        refine (cL _).mono ?_
        clear cL hsl
        rintro r w2 ⟨⟨x, va, vn, vc, rfl, hxv⟩, hb2⟩
        have HB2 := below_two HB hb2 (Nat.le_refl _)
        have hK2 := hK.below hb2
        have hBr := HB.size
        clear hK hx
        obtain ⟨kd, nd, tw, pk, kp, op, an, hd⟩ := x
        rw [show (actVals ⟨kd, nd, tw, pk, kp, op, an, hd⟩ (.slice va vn vc)).toArray = #[.int .i64 kd, .int .i64 nd, .int .i64 tw, .int .i64 pk, .int .i64 kp, .slice va vn vc, .int .i64 an, .int .i64 hd] from rfl]
        cases Q with
        | none =>
          have hfin : Hid (R = ([], K.length, 4)) := HA4
          have HB4 := HB2.alloc HB2.size (.cells #[.int .i64 kd, .int .i64 nd, .int .i64 tw, .int .i64 pk, .int .i64 kp, .slice va vn vc, .int .i64 an, .int .i64 hd] 29)
          clear HA4 hT hxv HKm hso hsa HTE
          go_wp2_with fail
          go_ret3
          exact ⟨⟨[], _, by rw [hfin.out]; rfl, rowK_nil _ _ _, by rw [hfin.out]; rfl, Nat.zero_le _, fun x hx => by simp at hx⟩, HB4⟩
        | some q =>
          obtain ⟨rfl, hov⟩ := hxv q rfl
          obtain ⟨_, _, ev, hop2⟩ := own_opAt hov
          cases ev
          obtain ⟨ho1, ho2⟩ := hso _ rfl
          have hsx : takeOp ⟨kd, nd, tw, pk, kp, op, an, hd⟩ = ⟨kd, nd, tw, pk, kp, op, an, hd⟩ → ActSmall ⟨kd, nd, tw, pk, kp, op, an, hd⟩ := fun h => hsa _ (by show some (takeOp _) = _; rw [h])
          obtain ⟨hte1, hte2⟩ := takeOp_err (T.length : Int) ⟨kd, nd, tw, pk, kp, op, an, hd⟩
          have hz4 := heap_alloc_new w2 (.cells #[.int .i64 kd, .int .i64 nd, .int .i64 tw, .int .i64 pk, .int .i64 kp, .slice va op.length vc, .int .i64 an, .int .i64 hd] 29)
          have hb24 := (Below.refl w2.heap.size w2).alloc (Nat.le_refl _) (.cells #[.int .i64 kd, .int .i64 nd, .int .i64 tw, .int .i64 pk, .int .i64 kp, .slice va op.length vc, .int .i64 an, .int .i64 hd] 29)
          have HB4 := HB2.alloc HB2.size (.cells #[.int .i64 kd, .int .i64 nd, .int .i64 tw, .int .i64 pk, .int .i64 kp, .slice va op.length vc, .int .i64 an, .int .i64 hd] 29)
          have hK4 := hK2.below hb24
          have hov4 := own_base (own_below hov hb24) hBr
          obtain ⟨q0, ql, qf⟩ := blk hz4
          have cA := actFault_any T ta tc kd nd tw pk kp an hd op va vc (w2.alloc (.cells #[.int .i64 kd, .int .i64 nd, .int .i64 tw, .int .i64 pk, .int .i64 kp, .slice va op.length vc, .int .i64 an, .int .i64 hd] 29)) (hin.below HB4) hlT (hop2.below hb24) (by have : op.length ≤ 1048577 := ho1; omega) (fun p hp => by have := ho2 p hp; omega) (hT.below HB4)
          rw [HTE.out] at cA
          have HA5 : Hid (R = if actErr (T.length : Int) (takeOp ⟨kd, nd, tw, pk, kp, op, an, hd⟩).v ≠ 0 then ([], K.length, actErr (T.length : Int) (takeOp ⟨kd, nd, tw, pk, kp, op, an, hd⟩).v) else readA T.length g' (K.map (·.1) ++ [takeOp ⟨kd, nd, tw, pk, kp, op, an, hd⟩]) (l.drop (e + 1))) := HA4
          rw [hte1] at HA5
          have HT2 : Hid (actErr (T.length : Int) (ActI.v ⟨kd, nd, tw, pk, kp, op, an, hd⟩) = 0 → takeOp ⟨kd, nd, tw, pk, kp, op, an, hd⟩ = ⟨kd, nd, tw, pk, kp, op, an, hd⟩) := hte2
          have HSX : Hid (takeOp ⟨kd, nd, tw, pk, kp, op, an, hd⟩ = ⟨kd, nd, tw, pk, kp, op, an, hd⟩ → ActSmall ⟨kd, nd, tw, pk, kp, op, an, hd⟩) := hsx
          clear HA4 hxv hso hsa hop2 hov hK2 HB2 hb24 hte1 hte2 hsx HTE ho1 ho2
          generalize actErr (T.length : Int) (ActI.v ⟨kd, nd, tw, pk, kp, op, an, hd⟩) = E at *
          go_wp2_with fail
          refine cA.mono ?_
          clear cA
          rintro r w5 ⟨rfl, hb5⟩
          have hK5 := hK4.below hb5
          have hov5 := own_below hov4 hb5
          have HB5 := below_two HB4 hb5 (Nat.le_refl _)
          have hq5 := (hb5.block _ ql).trans hz4
          clear hK4 hov4 hb5 q0 qf ql hz4 HB4
          obtain ⟨s0, sl, sf⟩ := blk hq5
          by_cases hE : E = 0
          · have hta := HT2.out hE
            have hsx := HSX.out hta
            have HA6 : Hid (R = readA T.length g' ((K ++ [((⟨kd, nd, tw, pk, kp, op, an, hd⟩ : ActI), Value.slice va op.length vc)]).map (·.1)) (l.drop (e + 1))) := by
              show R = _
              rw [HA5.out, if_neg (fun h => h hE), HKm.out, hta]
            subst hE
            have hnew := heap_alloc_new w5 (.cells #[.int .i64 kd, .int .i64 nd, .int .i64 tw, .int .i64 pk, .int .i64 kp, .slice va op.length vc, .int .i64 an, .int .i64 hd] 29)
            have hBs5 := HB5.size
            have hsA : (w5.alloc (.cells #[.int .i64 kd, .int .i64 nd, .int .i64 tw, .int .i64 pk, .int .i64 kp, .slice va op.length vc, .int .i64 an, .int .i64 hd] 29)).heap.size = w5.heap.size + 1 := by simp
            obtain ⟨i0, hi, hz0, hz1, hz2⟩ := info_parts info_act
            clear HA5 HKm hT HT2 HSX hta
            go_wp2_with (at_builtin; refine wpList_append_lies _ rfl _ _ 33 rfl w.heap.size 29 i0 _ 8 80 Tryd.underlying33 hi hz0 hz1 hz2 rfl (by decide) (.slice la K.length lc) K.length (actS.all K) rfl (hK5.row.alloc _) ⟨w5.heap.size, 0, none⟩ 1 1 [.int .i64 kd, .int .i64 nd, .int .i64 tw, .int .i64 pk, .int .i64 kp, .slice va op.length vc, .int .i64 an, .int .i64 hd] rfl rfl (World.news_of_block hnew) (by simp [Value.oneCell']) (by omega) (by unfold maxLen; omega) (by omega) (by omega) _ rfl ?_; intro g1 cap1 w6 hown6 hgr6 hat6 hlt6)
            have HB6 := (HB5.alloc hBs5 _).grown hgr6 (by rw [hsA]; omega) (fun k e => (hK5.row.lt k e).1)
            have hK6 : RowK actS w6 w.heap.size (.slice (some ⟨g1, 0, none⟩) (K.length + 1) cap1) (K ++ [((⟨kd, nd, tw, pk, kp, op, an, hd⟩ : ActI), Value.slice va op.length vc)]) := RowK.app hK5 hov5 hown6 hgr6
            go_roundg g'
            case measure => have := HG.out; omega
            case rel =>
              have hl1 : (K ++ [((⟨kd, nd, tw, pk, kp, op, an, hd⟩ : ActI), Value.slice va op.length vc)]).length = K.length + 1 := by rw [List.length_append]; rfl
              refine ⟨e + 1, _, by go_num, by rw [hl1]; go_num, by have := HG.out; omega, by omega, hK6, ?_, fun y hy => ?_, HA6, HB6⟩
              · have : K.length ≠ 3000 := fun h => by rw [h] at h3z; cases h3z
                omega
              · rcases List.mem_append.1 hy with hy | hy
                · exact hsm y hy
                · rw [List.mem_singleton.1 hy]; exact hsx
          · have hEz : (E != 0) = true := by simpa using hE
            have hfin : Hid (R = ([], K.length, E)) := by show R = _; rw [HA5.out, if_pos hE]
            clear HA5 HKm hT hE HT2 HSX
            go_wp2_with fail
            go_ret3
            exact ⟨⟨[], _, by rw [hfin.out]; rfl, rowK_nil _ _ _, by rw [hfin.out]; rfl, Nat.zero_le _, fun x hx => by simp at hx⟩, HB5⟩

end Go.Proofs.YtelindfmdakliaaDoor
