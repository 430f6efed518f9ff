/-
  Walks: wherryref.hexDigit, sixteenth, unhexed, partOf.
-/
import Derived.Test.YtelindfmdakliaaDoorLineH
import Derived.Deep.RegionLaw
namespace Go.Proofs.YtelindfmdakliaaDoor
open Go.RowKit Go.Lib

theorem hexDig_any (n : Nat) (w : World) (h : n < 16) :
    Calls Tryd.prog 58 #[.int .i64 (n : Int)] w fun r w' => r = .returned (.int .u8 (hexD n : Int)) ∧ w' = w := by
  have h0 : (0 : Int) ≤ (n : Int) := by omega
  by_cases h1 : n < 10
  · have h1z : (n : Int) < 10 := by omega
    have e : hexD n = 48 + n := by unfold hexD; rw [if_pos h1]
    rw [e]
    go_enter Tryd.func58, Tryd.ntmps58
    go_wp2_with fail
    go_ret
    exact ⟨by push_cast; rfl, rfl⟩
  · have h1z : ¬ (n : Int) < 10 := by omega
    have e : hexD n = 87 + n := by unfold hexD; rw [if_neg h1]
    rw [e]
    go_enter Tryd.func58, Tryd.ntmps58
    go_wp2_with fail
    go_ret
    refine ⟨?_, rfl⟩
    show Ending.returned (Value.int .u8 (97 + (n : Int) - 10)) = Ending.returned (Value.int .u8 ((87 + n : Nat) : Int))
    rw [show (97 + (n : Int) - 10) = ((87 + n : Nat) : Int) by omega]

theorem hexI_hit (c : UInt8) (n : Nat) (hn : n < 16) (h : hexD n = c.toNat) : hexI c = (n : Int) := by
  have : ∀ m : Fin 256, ∀ n : Fin 16, hexD n.1 = m.1 → hexI (UInt8.ofNat m.1) = (n.1 : Int) := by decide +kernel
  have h2 := this ⟨c.toNat, c.toNat_lt⟩ ⟨n, hn⟩ h
  simpa using h2
theorem hexI_miss (c : UInt8) (h : ∀ n, n < 16 → hexD n ≠ c.toNat) : hexI c = -1 := by
  have : ∀ m : Fin 256, (∀ n : Fin 16, hexD n.1 ≠ m.1) → hexI (UInt8.ofNat m.1) = -1 := by decide +kernel
  have h2 := this ⟨c.toNat, c.toNat_lt⟩ (fun n => h n.1 n.2)
  simpa using h2

set_option maxRecDepth 100000 in
set_option maxHeartbeats 1000000 in
theorem sixteenth_any (c : UInt8) (w : World) :
    Calls Tryd.prog 76 #[.int .u8 (c.toNat : Int)] w fun e w' => e = .returned (.int .i64 (hexI c)) ∧ w' = w := by
  have hit := hexI_hit c
  have miss := hexI_miss c
  generalize hexI c = R at *
  generalize c.toNat = k at *
  have HT : Hid (∀ n, n < 16 → hexD n = k → R = (n : Int)) := hit
  have HM : Hid ((∀ n, n < 16 → hexD n ≠ k) → R = -1) := miss
  clear hit miss
  go_enter Tryd.func76, Tryd.ntmps76
  go_wp2_with fail
  go_loopg [3] 16 (fun g iv wr => ∃ i : Nat, i + g = 16 ∧ iv = .int .i64 (i : Int) ∧ w = wr ∧ Hid (∀ j, j < i → hexD j ≠ k))
  case atStart => exact ⟨0, rfl, rfl, rfl, fun j hj => absurd hj (Nat.not_lt_zero j)⟩
  case round =>
    obtain ⟨i, hi, rfl, rfl, HA⟩ := hrel
    by_cases hlt : i < 16
    · have cD := fun wx => hexDig_any i wx hlt
      have hiz : (i : Int) < 16 := by omega
      have hi0 : (0 : Int) ≤ (i : Int) := by omega
      have HTi := fun h => HT.out i hlt h
      have HAi : hexD i ≠ k → Hid (∀ j, j < i + 1 → hexD j ≠ k) := fun h j hj => by
        by_cases e : j = i
        · subst e; exact h
        · exact HA.out j (by omega)
      clear HA HT HM
      generalize hexD i = d at *
      have HG : Hid (i + gk = 16) := hi
      clear hi
      by_cases he : d = k
      · have hR : Hid (R = (i : Int)) := HTi he
        have hez : ((d : Int) == (k : Int)) = true := by simp; omega
        clear HTi HAi he
        go_wp2_with fail
        refine (cD _).mono ?_
        rintro e w1 ⟨rfl, hw⟩
        rw [hw]
        clear hw w1 cD
        go_wp2_with fail
        go_ret
        exact ⟨by rw [hR.out]; rfl, rfl⟩
      · have hB := HAi he
        have hez : ((d : Int) == (k : Int)) = false := by simp; omega
        clear HTi HAi he
        go_wp2_with fail
        refine (cD _).mono ?_
        rintro e w1 ⟨rfl, hw⟩
        rw [hw]
        clear hw w1 cD
        go_wp2_with fail
        go_roundg (gk - 1)
        case measure => have := HG.out; omega
        case rel => exact ⟨i + 1, by have := HG.out; omega, by go_num, rfl, hB⟩
    · obtain rfl : i = 16 := by omega
      have hR : Hid (R = -1) := HM.out HA.out
      clear HA HT HM
      go_wp2_with fail
      go_ret
      exact ⟨by rw [hR.out]; rfl, rfl⟩

set_option maxRecDepth 100000 in
set_option maxHeartbeats 2000000 in
theorem unhexed_any (s : ByteArray) (w : World) (hs : s.size ≤ 1048576) :
    Calls Tryd.prog 62 #[.string s] w fun e w' => (∃ t, e = .returned (.tuple #[.string t, .bool (unhexL s.data.toList).isSome]) ∧ ∀ l, unhexL s.data.toList = some l → t = bstr l) ∧ Below w.heap.size w w' := by
  have hsl : s.data.toList.length = s.size := by rw [Array.length_toList]; rfl
  obtain ⟨i0, hi', hz0, hz1, hz2⟩ := info_parts info_byte
  by_cases hp : s.size % 2 = 0
  rotate_left
  · have hpz : ((s.size : Int).tmod 2 == 1) = true := by rw [Int.tmod_eq_emod_of_nonneg (by omega)]; simp; omega
    have hpz2 : ((s.size : Int) % 2 == 1) = true := by simp; omega
    have hn : unhexL s.data.toList = none := unhexL_odd _ (by omega)
    rw [hn]
    clear hn
    go_enter Tryd.func62, Tryd.ntmps62
    go_wp2_with fail
    go_ret2
    exact ⟨⟨_, rfl, fun l h => by cases h⟩, Below.refl _ _⟩
  have hpz : ((s.size : Int).tmod 2 == 1) = false := by rw [Int.tmod_eq_emod_of_nonneg (by omega)]; simp; omega
  have hpz2 : ((s.size : Int) % 2 == 1) = false := by simp; omega
  obtain ⟨n, hn⟩ : ∃ n, s.size = 2 * n := ⟨s.size / 2, by omega⟩
  obtain ⟨R, hR⟩ : ∃ R, R = unhexL s.data.toList := ⟨_, rfl⟩
  have HR : Hid (R = unhexL s.data.toList) := hR
  rw [← hR]
  clear hR
  have HN : Hid (s.size = 2 * n) := hn
  clear hn hp
  go_enter Tryd.func62, Tryd.ntmps62
  go_wp2_with fail
  clear hpz hpz2
  go_loopg [4, 5] n (fun g bv iv wr => ∃ (i : Nat) (D : List Nat), i + 2 * g = s.size ∧ iv = .int .i64 (i : Int) ∧ Hid (2 * D.length = i) ∧ wr.ownsRow w.heap.size 5 1 bv D.length (octs D) ∧ Hid (R = (unhexL (s.data.toList.drop i)).map (D ++ ·)) ∧ Below w.heap.size w wr)
  case atStart => exact ⟨0, [], by have := HN.out; omega, rfl, rfl, World.ownsRow_nil _ _ _ _, by show _ = _; rw [HR.out]; simp, Below.refl _ _⟩
  case round =>
    obtain ⟨i, D, hj, rfl, hD, ho, HA, HB⟩ := hrel
    by_cases hlt : i < s.size
    · have hiz : (i : Int) < (s.size : Int) := by omega
      have hi0 : (0 : Int) ≤ (i : Int) := by omega
      have h1 : i + 1 < s.size := by omega
      have hi1 : (i : Int) + 1 < (s.size : Int) := by omega
      have hdrop : s.data.toList.drop i = (s[i]'hlt) :: (s[i + 1]'h1) :: s.data.toList.drop (i + 2) := by
        have l0 : i < s.data.toList.length := by omega
        have l1 : i + 1 < s.data.toList.length := by omega
        rw [List.drop_eq_getElem_cons l0, List.drop_eq_getElem_cons l1]
        rfl
      have HA1 := HA.out
      rw [hdrop, unhexL_two] at HA1
      have HA2 : Hid (R = Option.map (D ++ ·) (match hexV (s[i]'hlt), hexV (s[i + 1]'h1), unhexL (s.data.toList.drop (i + 2)) with | some x, some y, some l => some ((16 * x + y) :: l) | _, _, _ => none)) := HA1
      have ca := sixteenth_any (s[i]'hlt)
      have cb := sixteenth_any (s[i + 1]'h1)
      have va := @hexI_some (s[i]'hlt)
      have vb := @hexI_some (s[i + 1]'h1)
      have na := @hexI_none (s[i]'hlt)
      have nb := @hexI_none (s[i + 1]'h1)
      have la := fun v => @hexV_lt (s[i]'hlt) v
      have lb := fun v => @hexV_lt (s[i + 1]'h1) v
      have hx0 := fun wx => str_index s i (i : Int) rfl hlt wx
      have hx1 := fun wx => str_index s (i + 1) ((i : Int) + 1) (by omega) h1 wx
      clear hdrop HA HA1
      go_wp2_with fail
      refine (ca _).mono ?_
      clear ca
      rintro e w1 ⟨rfl, hw⟩
      rw [hw]
      clear hw w1
      go_wp2_with fail
      refine (cb _).mono ?_
      clear cb
      rintro e w1 ⟨rfl, hw⟩
      rw [hw]
      clear hw w1 hx0 hx1
      cases ha : hexV (s[i]'hlt) with
      | none =>
        rw [na ha]
        have hR0 : Hid (R = none) := by show R = none; rw [HA2.out, ha]; rfl
        clear HA2 va vb na nb la lb ha ho
        go_wp2_with fail
        go_ret2
        exact ⟨⟨_, by rw [hR0.out]; rfl, fun l h => by rw [hR0.out] at h; cases h⟩, HB⟩
      | some x =>
        rw [va ha]
        have hx16 := la x ha
        have hx0 : ¬ (x : Int) < 0 := by omega
        cases hb : hexV (s[i + 1]'h1) with
        | none =>
          rw [nb hb]
          have hR0 : Hid (R = none) := by show R = none; rw [HA2.out, ha, hb]; rfl
          clear HA2 va vb na nb la lb ha hb ho
          go_wp2_with fail
          go_ret2
          exact ⟨⟨_, by rw [hR0.out]; rfl, fun l h => by rw [hR0.out] at h; cases h⟩, HB⟩
        | some y =>
          rw [vb hb]
          have hy16 := lb y hb
          have HA3 : Hid (R = (unhexL (s.data.toList.drop (i + 2))).map (D ++ [16 * x + y] ++ ·)) := by
            show R = _
            rw [HA2.out, ha, hb]
            cases unhexL (s.data.toList.drop (i + 2)) <;> simp
          have hy0 : ¬ (y : Int) < 0 := by omega
          clear HA2 va vb na nb la lb ha hb
          obtain ⟨ba, bc, rfl⟩ := own_form ho
          have hDl : D.length ≤ 1048576 := by have := hD.out; omega
          have hown := ho.alloc (.cells #[.int .u8 (16 * (x : Int) + (y : Int))] 5)
          have hnw : (wr.alloc (.cells #[.int .u8 (16 * (x : Int) + (y : Int))] 5)).heap[wr.heap.size]? = some (.cells #[.int .u8 (16 * (x : Int) + (y : Int))] 5 (0, 0)) := heap_alloc_new wr _
          have hSa := HB.alloc HB.size (.cells #[.int .u8 (16 * (x : Int) + (y : Int))] 5)
          have hBs := hSa.size
          clear ho
          go_wp2_with (at_builtin; refine wpList_append_lies _ rfl _ _ 44 rfl w.heap.size 5 i0 _ 1 1 Tryd.underlying44 hi' hz0 hz1 hz2 rfl (by decide) (.slice ba D.length bc) D.length (octs D) rfl hown ⟨wr.heap.size, 0, none⟩ 1 1 [.int .u8 (16 * (x : Int) + (y : Int))] rfl rfl (World.news_of_block hnw) (by simp [Value.oneCell']) (by omega) (by unfold maxLen; omega) (by omega) hBs _ rfl ?_; intro g1 cap1 w7 hown7 hgr7 hat7 hlt7)
          have hb8 := hSa.grown hgr7 hBs (fun k e => (hown.lt k e).1)
          go_roundg (gk - 1)
          case measure => omega
          case rel =>
            refine ⟨i + 2, D ++ [16 * x + y], by omega, by go_num, by show _ = _; rw [List.length_append]; simp only [List.length_cons, List.length_nil]; have := hD.out; omega, ?_, HA3, hb8⟩
            rw [octs_append, List.length_append]
            exact hown7
    · have he : i = s.size := by omega
      have hiz : ¬ (i : Int) < (s.size : Int) := by omega
      have hfin : Hid (R = some D) := by
        show R = some D
        rw [HA.out, List.drop_of_length_le (by omega)]
        simp [unhexL]
      obtain ⟨a, c, hv, _, hby, _⟩ := srcB_own ho
      subst hv
      have hcv := conv_bytes hby c
      clear HA ho hby he
      go_wp2_with fail
      go_ret2
      refine ⟨⟨_, by rw [hfin.out]; rfl, fun l h => ?_⟩, HB⟩
      rw [hfin.out] at h
      cases h
      rfl

set_option maxRecDepth 100000 in
set_option maxHeartbeats 2000000 in
theorem partOf_any (l : List UInt8) (w : World) (hl : l.length ≤ 1048576) :
    Calls Tryd.prog 48 #[.string (txt l)] w fun e w' => (∃ (p : Part), e = .returned (.tuple #[.agg #[.int .i64 p.kind, .int .i64 p.n, .string p.text], .bool (partOfL l).isSome]) ∧ ∀ q, partOfL l = some q → q = p) ∧ Below w.heap.size w w' := by
  cases l with
  | nil =>
    have hg : (txt []).toList.isEmpty = true := by rw [Lib.toList_data]; rfl
    have h0 : (txt []).size = 0 := rfl
    rw [show partOfL [] = none from rfl]
    generalize txt [] = S at *
    go_enter Tryd.func48, Tryd.ntmps48
    go_wp2_with fail
    obtain ⟨m0, _, _⟩ := blk (heap_alloc_new w (.cells #[.int .i64 0, .int .i64 0, .string ⟨#[]⟩] 63))
    refine bodyPost_ret (by simp [results, Tryd.results48, go_sem, m0]; rfl) rfl ?_
    exact ⟨⟨⟨0, 0, ⟨#[]⟩⟩, rfl, fun q h => by cases h⟩, (Below.refl _ _).alloc (Nat.le_refl _) _⟩
  | cons c r =>
    have hr : r.length ≤ 1048576 := by simp only [List.length_cons] at hl; omega
    have hg : (txt (c :: r)).toList.isEmpty = false := by rw [Lib.toList_data]; rfl
    have h0 : (txt (c :: r)).size = r.length + 1 := rfl
    have hx0 : ∀ wx, (Instr.index 9 (.string (txt (c :: r))) (.int .i64 0)).run Tryd.prog wx = .ok (.int .u8 (c.toNat : Int)) wx := fun wx => str_head c r wx
    have hsl : (txt (c :: r)).extract 1 (r.length + 1) = txt r := by
      have e : (txt (c :: r)).size = r.length + 1 := rfl
      rw [← e, ← txt_same ((txt (c :: r)).extract 1 (txt (c :: r)).size), Lib.extract_to_end]; rfl
    have cW := fun wx => whole_any r wx hr
    have cU := fun wx => unhexed_any (txt r) wx (by rw [show (txt r).size = r.length from rfl]; omega)
    simp only [txt_list] at cU
    have HP : Hid (partOfL (c :: r) = if c = 107 then (numW r).map (fun v => ⟨1, v, ByteArray.empty⟩) else if c = 100 then (numW r).map (fun v => ⟨3, v, ByteArray.empty⟩) else if c = 105 then (unhexL r).map (fun t => ⟨2, 0, bstr t⟩) else none) := rfl
    generalize partOfL (c :: r) = R at *
    generalize txt (c :: r) = S at *
    generalize txt r = D at *
    generalize numW r = N at *
    generalize unhexL r = U at *
    have hm := heap_alloc_new w (.cells #[.int .i64 0, .int .i64 0, .string ⟨#[]⟩] 63)
    have HB0 := (Below.refl w.heap.size w).alloc (Nat.le_refl _) (.cells #[.int .i64 0, .int .i64 0, .string ⟨#[]⟩] 63)
    have hml : w.heap.size < (w.alloc (.cells #[.int .i64 0, .int .i64 0, .string ⟨#[]⟩] 63)).heap.size := by simp
    by_cases h105 : c = 105
    · have hR : Hid (R = U.map (fun t => ⟨2, 0, bstr t⟩)) := by show R = _; rw [HP.out, h105]; rfl
      have g3 : ((c.toNat : Int) == 105) = true := by rw [h105]; rfl
      clear HP cW h105
      go_enter Tryd.func48, Tryd.ntmps48
      go_wp2_with fail
      refine (cU _).mono ?_
      clear cU
      rintro e w1 ⟨⟨t, rfl, ht⟩, hb⟩
      have hm1 := (hb.block _ hml).trans hm
      have HB1 := below_two HB0 hb (Nat.le_refl _)
      obtain ⟨b0, bl, bf⟩ := blk hm1
      obtain ⟨z1, z2⟩ := puts_all hm1 [.int .i64 2, .int .i64 0, .string t] rfl
      simp only [puts, Nat.zero_add, Nat.reduceAdd] at z1 z2
      have HB2 := HB1.trans (z2.below (B := w.heap.size) (fun k e => Nat.le_of_eq e.symm) HB1.size)
      obtain ⟨z0, _, _⟩ := blk z1
      clear hm HB0 hml hb HB1
      go_wp2_with fail
      refine bodyPost_ret (by simp [results, Tryd.results48, go_sem, z0]; rfl) rfl ?_
      refine ⟨⟨⟨2, 0, t⟩, by rw [hR.out]; cases U <;> rfl, fun q h => ?_⟩, HB2⟩
      rw [hR.out] at h
      cases U with
      | none => cases h
      | some u => cases h; rw [ht u rfl]
    have g3 : ((c.toNat : Int) == 105) = false := by simp; intro h; exact h105 (UInt8.toNat_inj.1 (by show c.toNat = 105; omega))
    clear cU hm HB0 hml
    by_cases h107 : c = 107
    · have hR : Hid (R = N.map (fun v => ⟨1, v, ByteArray.empty⟩)) := by show R = _; rw [HP.out, h107]; rfl
      have g1 : ((c.toNat : Int) == 107) = true := by rw [h107]; rfl
      clear HP h107 h105
      go_enter Tryd.func48, Tryd.ntmps48
      go_wp2_with fail
      refine (cW _).mono ?_
      clear cW
      rintro e w1 ⟨⟨n, rfl, hn⟩, hw⟩
      rw [hw]
      clear hw w1
      have hm := heap_alloc_new w (.cells #[.int .i64 1, .int .i64 n, .string ⟨#[]⟩] 63)
      have HB0 := (Below.refl w.heap.size w).alloc (Nat.le_refl _) (.cells #[.int .i64 1, .int .i64 n, .string ⟨#[]⟩] 63)
      obtain ⟨m0, _, _⟩ := blk hm
      go_wp2_with fail
      refine bodyPost_ret (by simp [results, Tryd.results48, go_sem, m0]; rfl) rfl ?_
      refine ⟨⟨⟨1, n, ⟨#[]⟩⟩, by rw [hR.out]; cases N <;> rfl, fun q h => ?_⟩, HB0⟩
      rw [hR.out] at h
      cases N with
      | none => cases h
      | some u => cases h; rw [hn u rfl]; rfl
    have g1 : ((c.toNat : Int) == 107) = false := by simp; intro h; exact h107 (UInt8.toNat_inj.1 (by show c.toNat = 107; omega))
    by_cases h100 : c = 100
    · have hR : Hid (R = N.map (fun v => ⟨3, v, ByteArray.empty⟩)) := by show R = _; rw [HP.out, h100]; rfl
      have g2 : ((c.toNat : Int) == 100) = true := by rw [h100]; rfl
      clear HP h107 h105 h100
      go_enter Tryd.func48, Tryd.ntmps48
      go_wp2_with fail
      refine (cW _).mono ?_
      clear cW
      rintro e w1 ⟨⟨n, rfl, hn⟩, hw⟩
      rw [hw]
      clear hw w1
      have hm := heap_alloc_new w (.cells #[.int .i64 3, .int .i64 n, .string ⟨#[]⟩] 63)
      have HB0 := (Below.refl w.heap.size w).alloc (Nat.le_refl _) (.cells #[.int .i64 3, .int .i64 n, .string ⟨#[]⟩] 63)
      have hmd : (w.alloc (.cells #[.int .i64 3, .int .i64 n, .string ⟨#[]⟩] 63)).drew.heap[w.heap.size]? = some (.cells #[.int .i64 3, .int .i64 n, .string ⟨#[]⟩] 63 (0, 0)) := hm
      obtain ⟨d0, _, _⟩ := blk hmd
      have HN : Hid (∀ v, N = some v → n = v) := hn
      clear hn
      cases N
      all_goals
        go_wp2_with fail
        first | go_region | go_region_law (first | fail)
        all_goals
         go_wp2_with fail
         refine bodyPost_ret (by simp [results, Tryd.results48, go_sem, d0]; rfl) rfl ?_
         refine ⟨⟨⟨3, n, ⟨#[]⟩⟩, by rw [hR.out]; rfl, fun q h => ?_⟩, by first | exact HB0.drew | exact HB0⟩
         rw [hR.out] at h
         first | (cases h; done) | (cases h; rw [HN.out _ rfl]; rfl)
    · have g2 : ((c.toNat : Int) == 100) = false := by simp; intro h; exact h100 (UInt8.toNat_inj.1 (by show c.toNat = 100; omega))
      have hR : Hid (R = none) := by show R = _; rw [HP.out, if_neg h107, if_neg h100, if_neg h105]
      clear HP h107 h105 h100
      go_enter Tryd.func48, Tryd.ntmps48
      go_wp2_with fail
      refine (cW _).mono ?_
      clear cW
      rintro e w1 ⟨⟨n, rfl, hn⟩, hw⟩
      rw [hw]
      clear hw w1
      have hm := heap_alloc_new w (.cells #[.int .i64 3, .int .i64 n, .string ⟨#[]⟩] 63)
      have HB0 := (Below.refl w.heap.size w).alloc (Nat.le_refl _) (.cells #[.int .i64 3, .int .i64 n, .string ⟨#[]⟩] 63)
      have hmd : (w.alloc (.cells #[.int .i64 3, .int .i64 n, .string ⟨#[]⟩] 63)).drew.heap[w.heap.size]? = some (.cells #[.int .i64 3, .int .i64 n, .string ⟨#[]⟩] 63 (0, 0)) := hm
      obtain ⟨d0, _, _⟩ := blk hmd
      have HN : Hid (∀ v, N = some v → n = v) := hn
      clear hn
      cases N
      all_goals
        go_wp2_with fail
        first | go_region | go_region_law (first | fail)
        all_goals
         go_wp2_with fail
         refine bodyPost_ret (by simp [results, Tryd.results48, go_sem, d0]; rfl) rfl ?_
         exact ⟨⟨⟨3, n, ⟨#[]⟩⟩, by rw [hR.out]; rfl, fun q h => by rw [hR.out] at h; cases h⟩, by first | exact HB0.drew | exact HB0⟩

end Go.Proofs.YtelindfmdakliaaDoor
