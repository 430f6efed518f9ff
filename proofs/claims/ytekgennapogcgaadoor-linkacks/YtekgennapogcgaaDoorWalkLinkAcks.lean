/-
  Walk: wherrykeep.LinkAcks.
-/
import Derived.Test.YtekgennapogcgaaDoorLinkTick
import Derived.Test.YtekgennapogcgaaDoorLinkHearW
import Derived.Test.YtekgennapogcgaaDoorKRaws
namespace Go.Proofs.YtekgennapogcgaaDoor
open Go.RowKit Go.Lib

/-- a join -/
def join1 : FrI := ⟨2, 0, 1, [], ⟨#[]⟩⟩
theorem join_err : join1.err = 0 := by decide +kernel
theorem join_small : FrSmall join1 := ⟨⟨Nat.zero_le _, fun p hp => by simp [join1] at hp⟩, by decide⟩
/-- a side that has sent so many joins -/
theorem acks_ok {K : List FrK} {i : Nat} {nx : Int} (hK : K.map (·.1) = List.replicate i join1) (hi : i ≤ 8) (hn : (i : Int) < nx ∧ nx ≤ 9) : linkErr (mkL 2 nx 0 K []) = 0 := by
  have hl : K.length = i := by have := congrArg List.length hK; simpa using this
  rw [linkErr_eq, hK, hl]
  have h1 : inN 2 = true := by decide
  have h2 : inN 0 = true := by decide
  have h3 : inN nx = true := decide_eq_true (by omega)
  have h4 : framesB (List.replicate i join1) = true := by
    unfold framesB
    rw [List.all_eq_true]
    intro f hf
    rw [List.eq_of_mem_replicate hf]
    exact decide_eq_true join_err
  have h5 : framesB (([] : List FrK).map (·.1)) = true := rfl
  rw [h1, h2, h3, h4, h5]
  rw [if_neg (by decide), if_neg (by decide), if_neg (by decide), if_neg (by omega), if_neg (by omega), if_neg (by omega), if_neg (by simp), if_neg (by omega), if_neg (by decide), if_neg (by decide)]
theorem acks_send {K : List FrK} {i : Nat} (hK : K.map (·.1) = List.replicate i join1) (hi : i < 8) : sendR (mkL 2 (1 + i) 0 K []) join1 = ((⟨2, 1 + ((i + 1 : Nat) : Int), List.replicate (i + 1) join1, [], 0⟩, [⟨2, 1 + i, false, 0, join1⟩]), 0) := by
  have he : lsendErr (mkL 2 (1 + i) 0 K []) join1 = 0 := by
    unfold lsendErr
    rw [acks_ok hK (by omega) ⟨by omega, by omega⟩, join_err, if_neg (by decide), if_neg (show ¬ (mkL 2 (1 + i) 0 K []).epoch = 0 by show ¬ (2 : Int) = 0; decide), if_neg (by decide), if_neg (show ¬ (mkL 2 (1 + i) 0 K []).next = 1048576 by show ¬ (1 + (i : Int)) = 1048576; omega)]
  unfold sendR
  rw [if_pos he]
  have hl : (K.map (·.1)).length = i := by rw [hK]; simp
  unfold sendL LinkI.go mkL
  simp only [hl]
  have hg : goK i (([] : List FrK).map (·.1) ++ [join1]).length (1 + (i : Int)) = 1 := by unfold goK; simp; omega
  rw [hg, hK]
  refine congrArg (fun x => (x, (0 : Int))) ?_
  refine Prod.ext ?_ rfl
  simp [List.replicate_succ']
  omega
theorem join_mem {K : List FrK} {i : Nat} (hK : K.map (·.1) = List.replicate i join1) : ∀ x ∈ K, FrSmall x.1 := fun x hx => by
  have : x.1 ∈ List.replicate i join1 := by rw [← hK]; exact List.mem_map_of_mem hx
  rw [List.eq_of_mem_replicate this]
  exact join_small
theorem acks_hear {K : List FrK} {k n : Nat} (hK : K.map (·.1) = List.replicate k join1) (hk : k ≤ 8) (hn : n ≤ k) : lhearErr (mkL 2 (1 + k) 0 K []) ⟨2, 0, true, n, ⟨0, 0, 0, [], ⟨#[]⟩⟩⟩ = 0 ∧ LinkI.go (behindL (mkL 2 (1 + k) 0 K []) n) = (⟨2, 1 + k, List.replicate (k - n) join1, [], 0⟩, []) := by
  have hl : (K.map (·.1)).length = k := by rw [hK]; simp
  constructor
  · unfold lhearErr
    have hp : (⟨2, 0, true, n, ⟨0, 0, 0, [], ⟨#[]⟩⟩⟩ : PkI).err = 0 := by
      unfold PkI.err packetErr
      have h3 : inN (n : Int) = true := decide_eq_true (by omega)
      simp only [h3]
      decide +kernel
    rw [acks_ok hK hk ⟨by omega, by omega⟩, hp, if_neg (by decide), if_neg (by decide), if_neg]
    rintro (h | h)
    · exact absurd (show (2 : Int) = 0 from h) (by decide)
    · exact h rfl
  · have hc : cameN (mkL 2 (1 + k) 0 K []) n = n := by
      unfold cameN mkL
      simp only [hl]
      split <;> omega
    unfold behindL
    rw [hc]
    unfold LinkI.go mkL
    simp [hK, goK, packs]

set_option maxRecDepth 100000 in
set_option maxHeartbeats 4000000 in
theorem linkAcks_walk (many came : Int) (w : World) (h1 : I64 many) (h2 : I64 came) (hT : Tabs w) :
    Calls Tryd.prog 18 #[.int .i64 many, .int .i64 came] w fun e w' => e = .returned (.bool true) ∧ Below w.heap.size w w' := by
  have cO := fun w => linkOpen_any 2 w
  rw [if_pos (by decide)] at cO
  have cM := fun wx => picked_same many 8 wx h1 (by omega) (by omega)
  have hpm := pick_lt many 8 (by omega)
  generalize pick many 8 = kp at *
  go_enter Tryd.func18, Tryd.ntmps18
  go_wp2_with fail
  refine (cO _).mono ?_
  rintro e w1 ⟨rfl, hb1⟩
  have ha := heap_alloc_new w1 (.cells #[.int .i64 2, .int .i64 1, .slice none 0 0, .slice none 0 0, .int .i64 0] 74)
  have HB := hb1.alloc hb1.size (.cells #[.int .i64 2, .int .i64 1, .slice none 0 0, .slice none 0 0, .int .i64 0] 74)
  have hzA : w.heap.size ≤ w1.heap.size := hb1.size
  go_wp2_with fail
  refine (cM _).mono ?_
  generalize (w1.alloc (.cells #[.int .i64 2, .int .i64 1, .slice none 0 0, .slice none 0 0, .int .i64 0] 74)) = w2 at *
  rintro e w3 ⟨rfl, hw3⟩
  rw [hw3]
  clear hw3 w3 cO cM
  go_wp2_with fail
  go_loopg [8] (kp + 1) (fun g iv wr => ∃ (i : Nat) (K : List FrK) (ka qa : Option Addr) (kc qc : Nat), i + g = kp + 1 ∧ iv = .int .i64 (i : Int) ∧ wr.heap[w1.heap.size]? = some (.cells #[.int .i64 2, .int .i64 (1 + (i : Int)), .slice ka K.length kc, .slice qa 0 qc, .int .i64 0] 74 (0, 0)) ∧ InT frS wr 0 (.slice ka K.length kc) K ∧ Hid (K.map (·.1) = List.replicate i join1) ∧ InT frS wr 0 (.slice qa 0 qc) [] ∧ Below w.heap.size w wr)
  case atStart => exact ⟨0, [], none, none, 0, 0, by omega, rfl, by simpa using ha, inT_nil _ _ _, rfl, inT_nil _ _ _, HB⟩
  case round =>
    clear ha HB
    obtain ⟨i, K, ka, qa, kc, qc, hi, rfl, hA, hK, HK, hQ, HB⟩ := hrel
    have hKl : K.length ≤ i ∧ i ≤ K.length := by have := congrArg List.length HK.out; rw [List.length_map, List.length_replicate] at this; omega
    by_cases hlt : i < kp + 1
    · have hiz : (i : Int) < 1 + (kp : Int) := by omega
      have cS := lsend_any 2 (1 + (i : Int)) 0 K [] (.slice ka K.length kc) (.slice qa 0 qc) join1 (.slice none 0 0) wr hK.inK hQ.inK (join_mem HK.out) (by simp) (by omega) (by simp) (opVal_own (B := 0) (World.ownsRow_nil _ _ _ _)) join_small (hT.below HB)
      rw [acks_send HK.out (by omega)] at cS
      have cS' : Calls Tryd.prog 37 #[.agg #[.int .i64 2, .int .i64 (1 + (i : Int)), .slice ka K.length kc, .slice qa 0 qc, .int .i64 0], .agg #[.int .i64 2, .int .i64 0, .int .i64 1, .slice none 0 0, .string ⟨#[]⟩]] wr fun r w' => ∃ sv' qv' pv, r = .returned (.tuple #[.agg #[.int .i64 2, .int .i64 (1 + ((i + 1 : Nat) : Int)), sv', qv', .int .i64 0], pv, .int .i64 0]) ∧ GoOk w' wr.heap.size wr.heap.size sv' qv' pv (⟨2, 1 + ((i + 1 : Nat) : Int), List.replicate (i + 1) join1, [], 0⟩, [⟨2, 1 + i, false, 0, join1⟩]) ∧ Below wr.heap.size wr w' := cS
      obtain ⟨a0, al0, af0⟩ := blk hA
      clear cS hK hQ HK hKl
      go_wp2_with fail
      refine cS'.mono ?_
      rintro r w4 ⟨sv4, qv4, pv4, rfl, hG, hb4⟩
      obtain ⟨K4, Q4, P4, q1, q2, q3, q4, q5, _⟩ := hG.ex
      obtain rfl : Q4 = [] := List.map_eq_nil_iff.1 q4
      obtain ⟨sa4, sc4, rfl, _⟩ := q1.row
      obtain ⟨qa4, qc4, rfl, _⟩ := q3.row
      obtain ⟨pa4, pc4, rfl⟩ := own_form q5.row
      simp only [List.length_nil] at q3
      have HK4 : Hid (K4.map (·.1) = List.replicate (i + 1) join1) := q2
      obtain ⟨N1, hN1⟩ : ∃ N1 : Int, N1 = 1 + ((i + 1 : Nat) : Int) := ⟨_, rfl⟩
      rw [← hN1]
      have HN1 : Hid (N1 = 1 + ((i + 1 : Nat) : Int)) := hN1
      have HB4 := below_two HB hb4 (Nat.le_refl _)
      have hA4 := (hb4.block _ al0).trans hA
      have hx5 := heap_alloc_new w4 (.cells #[.int .i64 2, .int .i64 N1, .slice sa4 K4.length sc4, .slice qa4 0 qc4, .int .i64 0] 74)
      have hA5 := row_old hA4 (.cells #[.int .i64 2, .int .i64 N1, .slice sa4 K4.length sc4, .slice qa4 0 qc4, .int .i64 0] 74)
      have hbx := (Below.refl w4.heap.size w4).alloc (Nat.le_refl _) (.cells #[.int .i64 2, .int .i64 N1, .slice sa4 K4.length sc4, .slice qa4 0 qc4, .int .i64 0] 74)
      have y1 := (q1.below hbx).base (Nat.zero_le _)
      have y3 := (q3.below hbx).base (Nat.zero_le _)
      have HB5 := below_two HB4 hbx (Nat.le_refl _)
      clear hG q1 q2 q3 q4 q5 hN1 a0 al0 af0 cS' hb4 hbx hA hA4
      simp only [List.length_nil]
      obtain ⟨x5, xl5, xf5⟩ := blk hx5
      obtain ⟨a5, al5, af5⟩ := blk hA5
      obtain ⟨hA6, hs6⟩ := puts_all hA5 [.int .i64 2, .int .i64 N1, .slice sa4 K4.length sc4, .slice qa4 0 qc4, .int .i64 0] rfl
      simp only [puts, Nat.zero_add, Nat.reduceAdd] at hA6 hs6
      have z1 := y1.stored hA5 (by decide) (by decide) hs6
      have z3 := y3.stored hA5 (by decide) (by decide) hs6
      have HB6 := HB5.trans (hs6.below (B := w.heap.size) (fun k e => by omega) HB5.size)
      clear y1 y3 hs6 hA5 hx5 HB4
      go_wp2_with fail
      generalize (w4.alloc (.cells #[.int .i64 2, .int .i64 N1, .slice sa4 K4.length sc4, .slice qa4 0 qc4, .int .i64 0] 74)) = w5 at *
      generalize (((((w5.setCell ⟨w1.heap.size, 0, none⟩ (.int .i64 2)).setCell ⟨w1.heap.size, 1, none⟩ (.int .i64 N1)).setCell ⟨w1.heap.size, 2, none⟩ (.slice sa4 K4.length sc4)).setCell ⟨w1.heap.size, 3, none⟩ (.slice qa4 0 qc4)).setCell ⟨w1.heap.size, 4, none⟩ (.int .i64 0)) = w6 at *
      go_roundg (kp - i)
      case measure => omega
      case rel => exact ⟨i + 1, K4, sa4, qa4, sc4, qc4, by omega, by go_num, by rw [← HN1.out]; exact hA6, z1, HK4, z3, HB6⟩
    · obtain rfl : i = kp + 1 := by omega
      have hiz : ¬ ((kp + 1 : Nat) : Int) < 1 + (kp : Int) := by omega
      have cP := picked_same came (1 + (kp : Int) + 1) wr h2 (by omega) (by omega)
      have hpn := pick_lt came (1 + (kp : Int) + 1) (by omega)
      generalize pick came (1 + (kp : Int) + 1) = n at *
      obtain ⟨e1, e2⟩ := acks_hear (n := n) HK.out (by omega) (by omega)
      have cH := lhear_bare 2 (1 + ((kp + 1 : Nat) : Int)) 0 K [] (.slice ka K.length kc) (.slice qa 0 qc) 2 0 (n : Int) 0 0 0 [] ⟨#[]⟩ (.slice none 0 0) wr hK.inK hQ.inK (join_mem HK.out) (by simp) (by omega) (by simp) (opVal_own (B := 0) (World.ownsRow_nil _ _ _ _)) ⟨⟨Nat.zero_le _, fun p hp => by simp at hp⟩, by decide⟩ (hT.below HB) e1
      rw [e2] at cH
      obtain ⟨N1, hN1⟩ : ∃ N1 : Int, N1 = 1 + ((kp + 1 : Nat) : Int) := ⟨_, rfl⟩
      have cH' : Calls Tryd.prog 42 #[.agg #[.int .i64 2, .int .i64 N1, .slice ka K.length kc, .slice qa 0 qc, .int .i64 0], .agg #[.int .i64 2, .int .i64 0, .bool true, .int .i64 (n : Int), .int .i64 0, .int .i64 0, .int .i64 0, .slice none 0 0, .string ⟨#[]⟩]] wr fun r w' => ∃ sv' qv' pv, r = .returned (.tuple #[.agg #[.int .i64 2, .int .i64 N1, sv', qv', .int .i64 0], .agg #[.int .i64 0, .int .i64 0, .int .i64 0, .slice none 0 0, .string ⟨#[]⟩], .bool false, pv, .int .i64 0]) ∧ GoOk w' wr.heap.size wr.heap.size sv' qv' pv (⟨2, N1, List.replicate (kp + 1 - n) join1, [], 0⟩, []) ∧ Below wr.heap.size wr w' := by rw [hN1]; exact cH
      rw [← hN1] at hA
      have HN1 : Hid (N1 = 1 + ((kp + 1 : Nat) : Int)) := hN1
      obtain ⟨a0, al0, af0⟩ := blk hA
      clear cH e1 e2 hK hQ HK hKl hN1
      go_wp2_with fail
      refine cP.mono ?_
      rintro e w3 ⟨rfl, hw3⟩
      rw [hw3]
      clear hw3 w3 cP
      go_wp2_with fail
      refine cH'.mono ?_
      rintro r w4 ⟨sv4, qv4, pv4, rfl, hG, hb4⟩
      obtain ⟨K4, Q4, P4, q1, q2, q3, q4, q5, _⟩ := hG.ex
      obtain rfl : Q4 = [] := List.map_eq_nil_iff.1 q4
      obtain ⟨sa4, sc4, rfl, _⟩ := q1.row
      obtain ⟨qa4, qc4, rfl, _⟩ := q3.row
      obtain ⟨pa4, pc4, rfl⟩ := own_form q5.row
      simp only [List.length_nil] at q3
      have q2' : K4.map (·.1) = List.replicate (kp + 1 - n) join1 := q2
      have hK4 : K4.length ≤ kp + 1 - n ∧ kp + 1 - n ≤ K4.length := by have := congrArg List.length q2'; rw [List.length_map, List.length_replicate] at this; omega
      have HB4 := below_two HB hb4 (Nat.le_refl _)
      have hbx := (Below.refl w4.heap.size w4).alloc (Nat.le_refl _) (.cells #[.int .i64 2, .int .i64 N1, .slice sa4 K4.length sc4, .slice qa4 0 qc4, .int .i64 0] 74)
      have hby := hbx.alloc hbx.size (.cells #[.int .i64 0, .int .i64 0, .int .i64 0, .slice none 0 0, .string ⟨#[]⟩] 78)
      have hB5 := row_old (heap_alloc_new w4 (.cells #[.int .i64 2, .int .i64 N1, .slice sa4 K4.length sc4, .slice qa4 0 qc4, .int .i64 0] 74)) (.cells #[.int .i64 0, .int .i64 0, .int .i64 0, .slice none 0 0, .string ⟨#[]⟩] 78)
      have HB5 := below_two HB4 hby (Nat.le_refl _)
      have cT := tick_ok 2 N1 0 K4 [] (.slice sa4 K4.length sc4) (.slice qa4 0 qc4) _ (q1.below hby).inK (q3.below hby).inK (join_mem q2') (by simp) (by omega) (by simp) (hT.below HB5) (acks_ok q2' (by omega) (by rw [HN1.out]; omega)) (by decide)
      have HTK : Hid (tickL (mkL 2 N1 0 K4 []) = if kp + 1 - n = 0 then [bareL (mkL 2 N1 0 K4 [])] else packs 2 0 (n + 1) (List.replicate (kp + 1 - n) join1)) := by
        show _ = _
        have hl : (mkL 2 N1 0 K4 []).sent = List.replicate (kp + 1 - n) join1 := q2'
        unfold tickL
        rw [if_neg (show ¬ (mkL 2 N1 0 K4 []).epoch = 0 by show ¬ (2 : Int) = 0; decide), hl, List.length_replicate]
        by_cases h0 : kp + 1 - n = 0
        · rw [if_pos h0, if_pos h0]
        · rw [if_neg h0, if_neg h0]
          have : (mkL 2 N1 0 K4 []).next - ((kp + 1 - n : Nat) : Int) = n + 1 := by show N1 - _ = _; rw [HN1.out]; omega
          rw [this]
          rfl
      simp only [List.length_nil]
      have g1 : ((K4.length : Int) == 1 + (kp : Int) - (n : Int)) = true := by simp; omega
      generalize tickL (mkL 2 N1 0 K4 []) = RT at *
      clear hG q1 q2 q2' q3 q4 q5 a0 al0 af0 cH' hb4 hbx hby hA HB4
      obtain ⟨b5, bl5, _⟩ := blk hB5
      generalize K4.length = kl at *
      go_wp2_with fail
      refine cT.mono ?_
      generalize ((w4.alloc (.cells #[.int .i64 2, .int .i64 N1, .slice sa4 kl sc4, .slice qa4 0 qc4, .int .i64 0] 74)).alloc (.cells #[.int .i64 0, .int .i64 0, .int .i64 0, .slice none 0 0, .string ⟨#[]⟩] 78)) = w5 at *
      rintro r w6 ⟨pv6, rfl, hTk, hb6⟩
      obtain ⟨P, hP, eP⟩ := hTk.ex
      obtain ⟨pa, pc, rfl⟩ := own_form hP.row
      have HB6 := below_two HB5 hb6 (Nat.le_refl _)
      have hB6 := (hb6.block _ bl5).trans hB5
      clear b5 bl5 cT hB5
      obtain ⟨b6, bl6, _⟩ := blk hB6
      by_cases hkn : kp + 1 = n
      · rw [HTK.out, if_pos (by omega)] at eP
        have hpl : P.length = 1 := by have := congrArg List.length eP; simpa using this
        have g2 : ((P.length : Int) == max (1 + (kp : Int) - (n : Int)) 1) = true := by simp; omega
        have g3 : (1 + (kp : Int) == (n : Int)) = true := by simp; omega
        have p1 : P.length ≤ 1 ∧ 1 ≤ P.length := by omega
        have w1' : 1 + (kp : Int) - (n : Int) ≤ 0 ∧ 0 ≤ 1 + (kp : Int) - (n : Int) := by omega
        clear eP hpl hTk hP HTK hkn
        generalize P.length = pl at *
        go_wp2_with fail
        all_goals first | (exfalso; omega) | (go_ret; exact ⟨by first | rfl | (simp; done) | (simp; omega), HB6⟩)
      · rw [HTK.out, if_neg (by omega)] at eP
        have hpl : P.length = kp + 1 - n := by have := congrArg List.length eP; rw [List.length_map, packs_length, List.length_replicate] at this; exact this
        have hp0 : 0 < P.length := by omega
        obtain ⟨bb, off, c', ea, hbl, _, hc⟩ := pk_get hP.inK hp0
        have hnum : P[0].1.number = n + 1 := by
          have h0 : (P.map (·.1))[0]? = some P[0].1 := by rw [List.getElem?_map, List.getElem?_eq_getElem hp0]; rfl
          rw [eP, List.getElem?_eq_getElem (by rw [packs_length, List.length_replicate]; omega), packs_get _ _ _ _ 0 (by rw [List.length_replicate]; omega)] at h0
          rw [← Option.some.inj h0]
          simp
        have c1 := hc 1 (.int .i64 P[0].1.number) (by omega) rfl
        rw [hnum] at c1
        simp only [Nat.zero_mul, Nat.add_zero] at c1
        simp only [Value.slice.injEq, true_and] at ea
        obtain ⟨rfl, rfl⟩ := ea
        have g2 : ((P.length : Int) == max (1 + (kp : Int) - (n : Int)) 1) = true := by simp; omega
        have g3 : (1 + (kp : Int) == (n : Int)) = false := beq_false_of_ne (by omega)
        have g4 : (0 : Int) < (P.length : Int) := by omega
        have p1 : P.length ≤ kp + 1 - n ∧ kp + 1 - n ≤ P.length := by omega
        have w1' : 1 ≤ 1 + (kp : Int) - (n : Int) ∧ 1 + (kp : Int) - (n : Int) ≤ 9 := by omega
        have w2' : (n : Int) + 1 ≤ 10 := by omega
        clear eP hpl hTk hP HTK hkn hnum hc hp0
        generalize P.length = pl at *
        go_wp2_with fail
        all_goals first | (exfalso; omega) | (go_ret; exact ⟨by first | rfl | (simp; done) | (simp; omega), HB6⟩)

end Go.Proofs.YtekgennapogcgaaDoor
