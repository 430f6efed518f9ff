/-
  Walk: wherrykeep.EdgeKnown.
-/
import Derived.Test.YtbobeecagcmclaaDoorEdgeRun
import Derived.Test.YtbobeecagcmclaaDoorKHere
import Derived.Test.YtbobeecagcmclaaDoorEdgeHearBad
import Derived.Deep.RegionHeld3
namespace Go.Proofs.YtbobeecagcmclaaDoor
open Go.RowKit Go.Lib

set_option maxRecDepth 100000 in
set_option maxHeartbeats 2000000 in
theorem edgeKnown_walk (s : ByteArray) (n h : Int) (w : World) (hs : s.size ≤ 9223372036854775807) (hn : I64 n) (hh : I64 h) (hT : Tabs w) :
    Calls Tryd.prog 3 #[.string s, .int .i64 n, .int .i64 h] w fun e w' => e = .returned (.bool true) ∧ Below w.heap.size w w' := by
  go_enter Tryd.func3, Tryd.ntmps3
  go_wp2_with fail
  refine (letters_any s 10 _ hs (by omega)).mono ?_
  rintro e w1 ⟨t, cpt, lht, rfl, hb1⟩
  go_wp2_with fail
  refine (picked_same n 8 _ hn (by omega) (by omega)).mono ?_
  rintro e w2 ⟨rfl, hw⟩
  rw [hw]
  clear hw w2
  have hk8 := pick_lt n 8 (by omega)
  generalize pick n 8 = k at *
  have hk8 : k < 8 := by omega
  have he := heap_alloc_new w1 (.cells #[.int .i64 0, .int .i64 0, .slice none 0 0] 26)
  have hb2 := hb1.alloc hb1.size (.cells #[.int .i64 0, .int .i64 0, .slice none 0 0] 26)
  have hbw := hb1.size
  go_wp2_with fail
  generalize (w1.alloc (.cells #[.int .i64 0, .int .i64 0, .slice none 0 0] 26)) = w2 at *
  generalize w1.heap.size = b at *
  clear hb1
  go_loopg [7, 10] k (fun g tv iv wr => ∃ (E : List (List Part)) (a : Option Addr) (c : Nat) (us : List Value) (tt : List Nat), E.length + g = k ∧ iv = .int .i64 (E.length : Int) ∧ tv = .string (str tt) ∧ (∀ r ∈ tt, CP r) ∧ Hid (tt.length = t.length + E.length) ∧ wr.heap[b]? = some (.cells #[.int .i64 (E.length : Int), .int .i64 0, .slice a E.length c] 26 (0, 0)) ∧ RowOps wr w.heap.size (.slice a E.length c) E us ∧ ChainG E t.length (t.length + E.length) ∧ Hid (∀ j (h : j < E.length), Gr E[j] (t.length + j) (t.length + j + 1)) ∧ Below w.heap.size w wr)
  case atStart => exact ⟨[], none, 0, [], t, by simp, rfl, rfl, cpt, rfl, he, rowOps_nil _ _, rfl, fun j h => by simp at h, hb2⟩
  case round =>
    obtain ⟨E, a, c, us, tt, hi, rfl, rfl, cptt, hl, hE, hR, hC, HG, HB⟩ := hrel
    have hP := hR.pend
    obtain ⟨x0, xl, xf⟩ := blk hE
    have HK : Hid (E.length + gk = k) := hi
    have hl10 : tt.length ≤ 20 := by have := hl.out; omega
    by_cases hlt : E.length < k
    · have hiz : (E.length : Int) < (k : Int) := by omega
      have hi0 : (0 : Int) ≤ (E.length : Int) := by omega
      clear hi
      obtain ⟨x0, x1, x2⟩ := edge_cells hE
      obtain ⟨A, hA⟩ : ∃ A, A = List.replicate 0 ((1 : Int), (0 : Int)) ++ insS [97] ++ List.replicate (tt.length - 0) ((1 : Int), (0 : Int)) := ⟨_, rfl⟩
      have cN := fun wx => runesCall tt wx cptt (by omega)
      have cH : ∀ wx, Calls Tryd.prog 9 #[.int .i64 (tt.length : Int), .int .i64 0, .string ⟨#[97]⟩] wx fun e w' => ∃ v, e = .returned v ∧ OpS w' wx.heap.size v A ∧ Below wx.heap.size wx w' := fun wx => by rw [hA]; exact hereCall tt.length 0 [97] wx (by omega) (by omega) (fun r hr => by rw [List.mem_singleton.1 hr]; exact .inl (by decide)) (by decide)
      have hgA : Hid (oldN A = t.length + E.length ∧ newN A = t.length + E.length + 1 ∧ noDel A ∧ A.length ≤ 30) := by
        have := hl.out
        rw [hA]
        exact here_facts tt.length 0 97 (t.length + E.length) this (by omega) (by omega)
      have hD := hT.below HB
      have cS : ∀ wx z B, Below wr.heap.size wr wx → OpS wx B z A → Calls Tryd.prog 8 #[.agg #[.int .i64 (E.length : Int), .int .i64 0, .slice a E.length c], z] wx fun e w' => ∃ a' c' us', e = .returned (.tuple #[.agg #[.int .i64 ((E.length : Int) + 1), .int .i64 0, .slice a' (E.length + 1) c'], .int .i64 0]) ∧ (RowOps w' w.heap.size (.slice a' (E.length + 1) c') (E ++ [group A]) us' ∧ Gr (group A) (t.length + E.length) (t.length + E.length + 1)) ∧ Below wx.heap.size wx w' := fun wx z B hx oA => by
        obtain ⟨g1, g2, g3, g4⟩ := hgA.out
        have hgr : Gr (group A) (t.length + E.length) (t.length + E.length + 1) := by
          rw [← g2, ← g1]
          exact gr_group oA.ok g3 (by omega)
        refine (send_own (E.length : Int) 0 E us a c (group A) z wx (hP.below hx) (hC.small (by omega)) (by omega) (by omega) oA.val (hgr.small (by omega)) (hD.below hx) (send_gr hC hgr (by omega) (by omega))).mono ?_
        rintro e w' ⟨a', c', he, ⟨us', hp'⟩, hb'⟩
        exact ⟨a', c', us', he, ⟨hp'.base (by have := HB.size; have := hx.size; omega), hgr⟩, hb'⟩
      clear hA
      have hst := str_fits cptt (by omega)
      go_wp2_with fail
      have toB : ∀ w', (w'.cell? ⟨b, 0, none⟩ = some (.int .i64 (E.length : Int)) ∧ w'.cell? ⟨b, 1, none⟩ = some (.int .i64 0) ∧ w'.cell? ⟨b, 2, none⟩ = some (.slice a E.length c) ∧ Below wr.heap.size wr w') → Below wr.heap.size wr w' := fun _ h => h.2.2.2
      have hS0 : (fun w' => (w'.cell? ⟨b, 0, none⟩ = some (.int .i64 (E.length : Int)) ∧ w'.cell? ⟨b, 1, none⟩ = some (.int .i64 0) ∧ w'.cell? ⟨b, 2, none⟩ = some (.slice a E.length c) ∧ Below wr.heap.size wr w')) wr.drew := ⟨x0, x1, x2, ⟨rfl, rfl, rfl, Nat.le_refl _, fun _ _ => rfl⟩⟩
      have keepB : ∀ w' w'', (w'.cell? ⟨b, 0, none⟩ = some (.int .i64 (E.length : Int)) ∧ w'.cell? ⟨b, 1, none⟩ = some (.int .i64 0) ∧ w'.cell? ⟨b, 2, none⟩ = some (.slice a E.length c) ∧ Below wr.heap.size wr w') → Below wr.heap.size w' w'' → (fun w' => (w'.cell? ⟨b, 0, none⟩ = some (.int .i64 (E.length : Int)) ∧ w'.cell? ⟨b, 1, none⟩ = some (.int .i64 0) ∧ w'.cell? ⟨b, 2, none⟩ = some (.slice a E.length c) ∧ Below wr.heap.size wr w')) w'' := fun w' w'' h hb => ⟨(hb.cell (p := ⟨b, 0, none⟩) (xl)).trans h.1, (hb.cell (p := ⟨b, 1, none⟩) (xl)).trans h.2.1, (hb.cell (p := ⟨b, 2, none⟩) (xl)).trans h.2.2.1, h.2.2.2.trans hb⟩
      have keepS : ∀ w' w'', (w'.cell? ⟨b, 0, none⟩ = some (.int .i64 (E.length : Int)) ∧ w'.cell? ⟨b, 1, none⟩ = some (.int .i64 0) ∧ w'.cell? ⟨b, 2, none⟩ = some (.slice a E.length c) ∧ Below wr.heap.size wr w') → Below w'.heap.size w' w'' → (fun w' => (w'.cell? ⟨b, 0, none⟩ = some (.int .i64 (E.length : Int)) ∧ w'.cell? ⟨b, 1, none⟩ = some (.int .i64 0) ∧ w'.cell? ⟨b, 2, none⟩ = some (.slice a E.length c) ∧ Below wr.heap.size wr w')) w'' := fun w' w'' h hb => keepB w' w'' h (hb.mono h.2.2.2.size)
      have keepA : ∀ (w' : World) (o : Obj), (w'.cell? ⟨b, 0, none⟩ = some (.int .i64 (E.length : Int)) ∧ w'.cell? ⟨b, 1, none⟩ = some (.int .i64 0) ∧ w'.cell? ⟨b, 2, none⟩ = some (.slice a E.length c) ∧ Below wr.heap.size wr w') → (fun w' => (w'.cell? ⟨b, 0, none⟩ = some (.int .i64 (E.length : Int)) ∧ w'.cell? ⟨b, 1, none⟩ = some (.int .i64 0) ∧ w'.cell? ⟨b, 2, none⟩ = some (.slice a E.length c) ∧ Below wr.heap.size wr w')) (w'.alloc o) := fun w' o h => keepS w' _ h ((Below.refl _ _).alloc (Nat.le_refl _) _)
      have hS1 : ∀ o, (fun w' => (w'.cell? ⟨b, 0, none⟩ = some (.int .i64 (E.length : Int)) ∧ w'.cell? ⟨b, 1, none⟩ = some (.int .i64 0) ∧ w'.cell? ⟨b, 2, none⟩ = some (.slice a E.length c) ∧ Below wr.heap.size wr w')) (wr.alloc o).drew := fun o => keepB wr.drew _ hS0 ⟨rfl, rfl, rfl, by show wr.heap.size ≤ (wr.alloc o).heap.size; simp, fun k hk => Below.heap_alloc wr o k hk⟩
      have szd : wr.heap.size ≤ wr.drew.heap.size := Nat.le_refl _
      have szd2 : wr.heap.size ≤ wr.heap.size := Nat.le_refl _
      go_region_held3 (fun w' => (w'.cell? ⟨b, 0, none⟩ = some (.int .i64 (E.length : Int)) ∧ w'.cell? ⟨b, 1, none⟩ = some (.int .i64 0) ∧ w'.cell? ⟨b, 2, none⟩ = some (.slice a E.length c) ∧ Below wr.heap.size wr w')) (with_reducible first | exact hS0 | exact hS1 _ | assumption | exact keepS _ _ (by assumption) hbz | exact keepS _ _ (by assumption) hby | exact keepS _ _ (by assumption) hbx | exact keepA _ _ (by assumption) | exact keepA _ _ hSv | exact keepB _ _ (by assumption) ((((Below.refl _ _).setCell (by first | exact szz | exact szy | exact szv | exact szd | exact szd2) _).setCell (by first | exact szz | exact szy | exact szv | exact szd | exact szd2) _).setCell (by first | exact szz | exact szy | exact szv | exact szd | exact szd2) _)) (first | (go_at_call 10; with_reducible refine Calls.mono (cN _) ?_; rintro e wz ⟨rfl, hbz⟩; have szz := Nat.le_trans (toB _ (by assumption)).size hbz.size; (first | have nz := kept_drewG hbz | skip)) | (go_at_call 9; with_reducible refine Calls.mono (cH _) ?_; rintro e wy ⟨z, rfl, oA, hby⟩; have szy := Nat.le_trans (toB _ (by assumption)).size hby.size; (first | have ny := kept_newG hby | have ny := kept_drewG hby | have ny := kept_moreG nz hby | skip)) | (go_at_call 8; with_reducible refine Calls.mono (cS _ _ _ (toB _ (by assumption)) (by first | exact oA | exact oA.below ((Below.refl _ _).alloc (Nat.le_refl _) _))) ?_; rintro e wv ⟨a', c', us', rfl, hP', hbx⟩; have hSv := keepS _ _ (by assumption) hbx; have szv := Nat.le_trans (toB _ (by assumption)).size hbx.size; (first | have nv := kept_newG hbx | have nv := kept_moreG ny hbx | skip); (first | (have hnf := new_factsG nv; obtain ⟨⟨r0, r1, r2⟩, f0, f1, f2⟩ := hnf) | skip)))
      all_goals
        have HFv := toB _ hSv
        have hbE := (HFv.block _ xl).trans hE
        have hBv := HB.trans (HFv.mono HB.size)
        have hBw := HB.size
        obtain ⟨hR', hgr'⟩ := hP'
        first
          | obtain ⟨p1, p2⟩ := puts_all nv [.int .i64 ((E.length : Int) + 1), .int .i64 0, .slice a' (E.length + 1) c'] rfl
            simp only [puts, Nat.zero_add, Nat.reduceAdd] at p1 p2
            have hR2 := hR'.stored nv (by decide) (by decide) p2
            have hbE2 := p2.row hbE (fun e => by omega)
            have HB2 := hBv.trans (p2.below (B := w.heap.size) (fun k e => by omega) hBv.size)
          | have p1 := heap_alloc_new wv (.cells #[.int .i64 ((E.length : Int) + 1), .int .i64 0, .slice a' (E.length + 1) c'] 26)
            have hb9 := (Below.refl wv.heap.size wv).alloc (Nat.le_refl _) (.cells #[.int .i64 ((E.length : Int) + 1), .int .i64 0, .slice a' (E.length + 1) c'] 26)
            have hR2 := hR'.below hb9
            have hbE2 := (hb9.block _ (Array.getElem?_eq_some_iff.1 hbE).1).trans hbE
            have HB2 := hBv.alloc hBv.size (.cells #[.int .i64 ((E.length : Int) + 1), .int .i64 0, .slice a' (E.length + 1) c'] 26)
        obtain ⟨q0, q1, q2⟩ := edge_cells p1
        obtain ⟨m0, ml, mf⟩ := blk hbE2
        obtain ⟨p3, p4⟩ := puts_all hbE2 [.int .i64 ((E.length : Int) + 1), .int .i64 0, .slice a' (E.length + 1) c'] rfl
        simp only [puts, Nat.zero_add, Nat.reduceAdd] at p3 p4
        have hR3 := hR2.stored hbE2 (by decide) (by decide) p4
        have HB3 := HB2.trans (p4.below (B := w.heap.size) (fun k e => by rw [e]; exact hbw) HB2.size)
        clear hR' hR2 hbE hbE2 HFv hBv toB hS0 keepB keepS keepA hS1 hSv hbz hby hbx szz szy szv szd szd2 cN cH cS oA hR hP hE
        go_wp2_with fail
        go_roundg (gk - 1)
        case measure => have := HK.out; omega
        case rel =>
          have hl1 : (E ++ [group A]).length = E.length + 1 := by simp
          refine ⟨E ++ [group A], a', c', us', 97 :: tt, by have := HK.out; omega, by rw [hl1]; go_num, ?_, fun r hr => ?_, ?_, ?_, ?_, ?_, fun j hj => ?_, HB3⟩
          · rw [show (97 :: tt : List Nat) = [97] ++ tt from rfl, str_append]; rfl
          · rcases List.mem_cons.1 hr with rfl | hr
            · exact .inl (by decide)
            · exact cptt r hr
          · show (97 :: tt).length = _; rw [List.length_cons, hl.out, hl1]; omega
          · rw [hl1]; exact p3
          · rw [hl1]; exact hR3
          · rw [hl1]; exact hC.app hgr'
          · rw [hl1] at hj
            by_cases hjl : j < E.length
            · rw [List.getElem_append_left hjl]; exact HG.out j hjl
            · have hje : j = E.length := by omega
              subst hje
              rw [List.getElem_append_right (Nat.le_refl _)]
              simp only [Nat.sub_self, List.getElem_cons_zero]
              exact hgr'
    · have hiz : ¬ (E.length : Int) < (k : Int) := by omega
      obtain rfl : k = E.length := by omega
      obtain rfl : gk = 0 := by omega
      have hE7 : E.length ≤ 7 := by omega
      have cN := fun wx => runesCall tt wx cptt (by omega)
      have hpk := pick_lt h ((E.length : Int) + 1) (by omega)
      have cP := picked_same h ((E.length : Int) + 1) wr hh (by omega) (by omega)
      generalize pick h ((E.length : Int) + 1) = m at *
      have hmE : m ≤ E.length := by omega
      clear hi HK hn hiz
      have hiz : ¬ (E.length : Int) < (E.length : Int) := by omega
      go_wp2_with fail
      refine cP.mono ?_
      clear cP
      rintro e w3 ⟨rfl, hw⟩
      rw [hw]
      clear hw w3
      go_wp2_with fail
      refine (cN _).mono ?_
      clear cN
      rintro e w3 ⟨rfl, hb3⟩
      have HB3 := below_two HB hb3 (Nat.le_refl _)
      have hE3 := (hb3.block _ xl).trans hE
      have hR3 := hR.below hb3
      clear hR hP hE x0 xf hb3
      have hfrom : Hid ((tt.length : Int) - (E.length : Int) + (m : Int) = ((t.length + m : Nat) : Int)) := by show _ = _; have := hl.out; omega
      have hD := hT.below HB3
      obtain ⟨C, hCe⟩ : ∃ C, C = List.replicate (t.length + m) ((1 : Int), (0 : Int)) ++ insS [98] ++ List.replicate (t.length + m - (t.length + m)) ((1 : Int), (0 : Int)) := ⟨_, rfl⟩
      have cH : ∀ wx, Calls Tryd.prog 9 #[.int .i64 ((tt.length : Int) - (E.length : Int) + (m : Int)), .int .i64 ((tt.length : Int) - (E.length : Int) + (m : Int)), .string ⟨#[98]⟩] wx fun e w' => ∃ v, e = .returned v ∧ OpS w' wx.heap.size v C ∧ Below wx.heap.size wx w' := fun wx => by rw [hCe, hfrom.out]; exact hereCall (t.length + m) (t.length + m) [98] wx (by omega) (by omega) (fun r hr => by rw [List.mem_singleton.1 hr]; exact .inl (by decide)) (by decide)
      have hgC : Hid (oldN C = t.length + m ∧ newN C = t.length + m + 1 ∧ noDel C ∧ C.length ≤ 30) := by
        rw [hCe]
        exact here_facts (t.length + m) (t.length + m) 98 (t.length + m) rfl (by omega) (by omega)
      have hP := hR3.pend
      have hdrop : ChainG (E.drop m) (t.length + m) (t.length + E.length) := hC.drop m (fun i => t.length + i) HG.out rfl hmE
      have cS : ∀ wx z B, Below w3.heap.size w3 wx → OpS wx B z C → Calls Tryd.prog 11 #[.agg #[.int .i64 (E.length : Int), .int .i64 0, .slice a E.length c], z, .int .i64 (m : Int), .bool true] wx fun e w' => ∃ a' c' tv D, e = .returned (.tuple #[.agg #[.int .i64 (E.length : Int), .int .i64 1, .slice a' (E.length - m) c'], tv, .int .i64 0]) ∧ (OpS w' w.heap.size tv D ∧ Hid (newN D = t.length + E.length + 1 ∧ D.length ≤ 4000)) ∧ Below wx.heap.size wx w' := fun wx z B hx oC => by
        obtain ⟨g1, g2, g3, g4⟩ := hgC.out
        have hgr : Gr (group C) (t.length + m) (t.length + m + 1) := by
          rw [← g2, ← g1]
          exact gr_group oC.ok g3 (by omega)
        obtain ⟨r1, r2, r3⟩ := run_gr true (E.drop m) (group C) _ _ _ hdrop hgr (by omega) (by omega) (by omega)
        have hx2 := hear_own true (E.length : Int) 0 E us a c (group C) z (m : Int) wx (hP.below hx) (hC.small (by omega)) (by omega) oC.val (hgr.small (by omega)) (hD.below hx) (hear_gr hC (by omega) (by omega) hgr (by omega) m hmE)
        have hn : ((m : Int) - ((E.length : Int) - (E.length : Int))).toNat = m := by omega
        rw [hn] at hx2
        refine hx2.mono ?_
        rintro e w' ⟨hb', ⟨_, a', c', tv, he, _, ht⟩ | ⟨h0, _⟩⟩
        · rw [r2, List.length_drop] at he
          refine ⟨a', c', tv, steps (hearRun true (E.drop m) (group C)).2.2, he, ⟨⟨?_, r3.ok, by rw [r3.grp]⟩, ?_⟩, hb'⟩
          · rw [r3.grp]; exact own_base ht (by have := HB3.size; have := hx.size; omega)
          · exact ⟨by rw [r3.new]; omega, by rw [r3.len]; omega⟩
        · exact absurd r1 h0
      have cS2 : ∀ wx, Below w3.heap.size w3 wx → Calls Tryd.prog 11 #[.agg #[.int .i64 (E.length : Int), .int .i64 0, .slice a E.length c], .slice none 0 0, .int .i64 ((E.length : Int) + 1), .bool true] wx fun e w' => e = .returned (.tuple #[.agg #[.int .i64 0, .int .i64 0, .slice none 0 0], .slice none 0 0, .int .i64 2]) ∧ Below wx.heap.size wx w' := fun wx hx => by
        have he : hearErr (E.length : Int) 0 E [] ((E.length : Int) + 1) = 2 := by
          unfold hearErr edgeBoth
          rw [edge_gr hC (by omega) (by omega) 0 (by decide), show opErr [] = 0 from rfl]
          simp
          omega
        have := hear_bad true (E.length : Int) 0 E us a c [] (.slice none 0 0) ((E.length : Int) + 1) wx (hP.below hx) (hC.small (by omega)) (by omega) (by omega) (opVal_own (World.ownsRow_nil wx 0 _ _)) ⟨Nat.zero_le _, fun p hp => by cases hp⟩ (hD.below hx) (by rw [he]; decide)
        rw [he] at this
        exact this
      obtain ⟨x0, x1, x2⟩ := edge_cells hE3
      have xl := (Array.getElem?_eq_some_iff.1 hE3).1
      clear hCe hfrom hgC hdrop hR3 hC HG hT hD hP
      go_wp2_with fail
      have toB : ∀ w', (w'.cell? ⟨b, 0, none⟩ = some (.int .i64 (E.length : Int)) ∧ w'.cell? ⟨b, 1, none⟩ = some (.int .i64 0) ∧ w'.cell? ⟨b, 2, none⟩ = some (.slice a E.length c) ∧ Below w3.heap.size w3 w') → Below w3.heap.size w3 w' := fun _ h => h.2.2.2
      have hS0 : (fun w' => (w'.cell? ⟨b, 0, none⟩ = some (.int .i64 (E.length : Int)) ∧ w'.cell? ⟨b, 1, none⟩ = some (.int .i64 0) ∧ w'.cell? ⟨b, 2, none⟩ = some (.slice a E.length c) ∧ Below w3.heap.size w3 w')) w3.drew := ⟨x0, x1, x2, ⟨rfl, rfl, rfl, Nat.le_refl _, fun _ _ => rfl⟩⟩
      have keepB : ∀ w' w'', (w'.cell? ⟨b, 0, none⟩ = some (.int .i64 (E.length : Int)) ∧ w'.cell? ⟨b, 1, none⟩ = some (.int .i64 0) ∧ w'.cell? ⟨b, 2, none⟩ = some (.slice a E.length c) ∧ Below w3.heap.size w3 w') → Below w3.heap.size w' w'' → (fun w' => (w'.cell? ⟨b, 0, none⟩ = some (.int .i64 (E.length : Int)) ∧ w'.cell? ⟨b, 1, none⟩ = some (.int .i64 0) ∧ w'.cell? ⟨b, 2, none⟩ = some (.slice a E.length c) ∧ Below w3.heap.size w3 w')) w'' := fun w' w'' h hb => ⟨(hb.cell (p := ⟨b, 0, none⟩) (xl)).trans h.1, (hb.cell (p := ⟨b, 1, none⟩) (xl)).trans h.2.1, (hb.cell (p := ⟨b, 2, none⟩) (xl)).trans h.2.2.1, h.2.2.2.trans hb⟩
      have keepS : ∀ w' w'', (w'.cell? ⟨b, 0, none⟩ = some (.int .i64 (E.length : Int)) ∧ w'.cell? ⟨b, 1, none⟩ = some (.int .i64 0) ∧ w'.cell? ⟨b, 2, none⟩ = some (.slice a E.length c) ∧ Below w3.heap.size w3 w') → Below w'.heap.size w' w'' → (fun w' => (w'.cell? ⟨b, 0, none⟩ = some (.int .i64 (E.length : Int)) ∧ w'.cell? ⟨b, 1, none⟩ = some (.int .i64 0) ∧ w'.cell? ⟨b, 2, none⟩ = some (.slice a E.length c) ∧ Below w3.heap.size w3 w')) w'' := fun w' w'' h hb => keepB w' w'' h (hb.mono h.2.2.2.size)
      have keepA : ∀ (w' : World) (o : Obj), (w'.cell? ⟨b, 0, none⟩ = some (.int .i64 (E.length : Int)) ∧ w'.cell? ⟨b, 1, none⟩ = some (.int .i64 0) ∧ w'.cell? ⟨b, 2, none⟩ = some (.slice a E.length c) ∧ Below w3.heap.size w3 w') → (fun w' => (w'.cell? ⟨b, 0, none⟩ = some (.int .i64 (E.length : Int)) ∧ w'.cell? ⟨b, 1, none⟩ = some (.int .i64 0) ∧ w'.cell? ⟨b, 2, none⟩ = some (.slice a E.length c) ∧ Below w3.heap.size w3 w')) (w'.alloc o) := fun w' o h => keepS w' _ h ((Below.refl _ _).alloc (Nat.le_refl _) _)
      have hS1 : ∀ o, (fun w' => (w'.cell? ⟨b, 0, none⟩ = some (.int .i64 (E.length : Int)) ∧ w'.cell? ⟨b, 1, none⟩ = some (.int .i64 0) ∧ w'.cell? ⟨b, 2, none⟩ = some (.slice a E.length c) ∧ Below w3.heap.size w3 w')) (w3.alloc o).drew := fun o => keepB w3.drew _ hS0 ⟨rfl, rfl, rfl, by show w3.heap.size ≤ (w3.alloc o).heap.size; simp, fun k hk => Below.heap_alloc w3 o k hk⟩
      have szd : w3.heap.size ≤ w3.drew.heap.size := Nat.le_refl _
      have szd2 : w3.heap.size ≤ w3.heap.size := Nat.le_refl _
      go_region_held3 (fun w' => (w'.cell? ⟨b, 0, none⟩ = some (.int .i64 (E.length : Int)) ∧ w'.cell? ⟨b, 1, none⟩ = some (.int .i64 0) ∧ w'.cell? ⟨b, 2, none⟩ = some (.slice a E.length c) ∧ Below w3.heap.size w3 w')) (with_reducible first | exact hS0 | exact hS1 _ | assumption | exact keepS _ _ (by assumption) hbz | exact keepS _ _ (by assumption) hby | exact keepS _ _ (by assumption) hbx | exact keepA _ _ (by assumption) | exact keepA _ _ hSv | exact keepB _ _ (by assumption) ((((Below.refl _ _).setCell (by first | exact szz | exact szy | exact szv | exact szd | exact szd2) _).setCell (by first | exact szz | exact szy | exact szv | exact szd | exact szd2) _).setCell (by first | exact szz | exact szy | exact szv | exact szd | exact szd2) _)) (first | (go_at_call 9; with_reducible refine Calls.mono (cH _) ?_; rintro e wy ⟨z, rfl, oA, hby⟩; have szy := Nat.le_trans (toB _ (by assumption)).size hby.size; (first | have ny := kept_newG hby | have ny := kept_drewG hby | skip)) | (go_at_call 11; with_reducible refine Calls.mono (cS _ _ _ (toB _ (by assumption)) (by first | exact oA | exact oA.below ((Below.refl _ _).alloc (Nat.le_refl _) _))) ?_; rintro e wv ⟨a', c', tv, D, rfl, hP', hbx⟩; have hSv := keepS _ _ (by assumption) hbx; have szv := Nat.le_trans (toB _ (by assumption)).size hbx.size; (first | have nv := kept_newG hbx | have nv := kept_moreG ny hbx | skip); (first | (have hnf := new_factsG nv; obtain ⟨⟨r0, r1, r2⟩, f0, f1, f2⟩ := hnf) | skip)))
      · have HFv := toB _ hSv
        have hbE := (HFv.block _ xl).trans hE3
        have hBw := HB3.size
        obtain ⟨oD, HN⟩ := hP'
        have p1 := heap_alloc_new wv (.cells #[.int .i64 (E.length : Int), .int .i64 1, .slice a' (E.length - m) c'] 26)
        have hb9 := (Below.refl wv.heap.size wv).alloc (Nat.le_refl _) (.cells #[.int .i64 (E.length : Int), .int .i64 1, .slice a' (E.length - m) c'] 26)
        have hbE2 := (hb9.block _ (Array.getElem?_eq_some_iff.1 hbE).1).trans hbE
        have HF2 := HFv.alloc HFv.size (.cells #[.int .i64 (E.length : Int), .int .i64 1, .slice a' (E.length - m) c'] 26)
        have oD2 := oD.below hb9
        clear hb9
        clear hbE HFv toB hS0 keepB keepS keepA hS1 hSv hby hbx szy szv szd szd2 cH cS oA oD
        generalize (wv.alloc (.cells #[.int .i64 (E.length : Int), .int .i64 1, .slice a' (E.length - m) c'] 26)) = w4 at *
        generalize wv.heap.size = xb at p1 ⊢
        have HB4 := HB3.trans (HF2.mono HB3.size)
        have cL := fun wx (hx : Below w4.heap.size w4 wx) => lengthsCall D tv w.heap.size wx (oD2.below hx) HN.out.2
        rw [HN.out.1] at cL
        obtain ⟨x0, x1, x2⟩ := edge_cells hbE2
        have xl := (Array.getElem?_eq_some_iff.1 hbE2).1
        have cS2' := fun wx (hx : Below w4.heap.size w4 wx) => cS2 wx (HF2.trans (hx.mono HF2.size))
        clear cS2
        go_wp2_with fail
        refine (cS2' w4 (Below.refl _ _)).mono ?_
        clear cS2'
        rintro e w5 ⟨rfl, hb5⟩
        have p5 := (hb5.block _ (Array.getElem?_eq_some_iff.1 p1).1).trans p1
        replace p5 := row_old p5 (.cells #[.int .i64 0, .int .i64 0, .slice none 0 0] 26)
        replace hb5 := hb5.alloc hb5.size (.cells #[.int .i64 0, .int .i64 0, .slice none 0 0] 26)
        have HB5 := below_two HB4 hb5 (Nat.le_refl _)
        go_wp2_with fail
        refine (cL _ hb5).mono ?_
        clear cL
        rintro e w6 ⟨rfl, hb6⟩
        have p6 := (hb6.block _ (Array.getElem?_eq_some_iff.1 p5).1).trans p5
        have HB6 := below_two HB5 hb6 (Nat.le_refl _)
        obtain ⟨y0, y1, y2⟩ := edge_cells p6
        have cN2 := fun wx => runesCall tt wx cptt (by omega)
        have hsub : ((((E.length - m : Nat)) : Int) == (E.length : Int) - (m : Int)) = true := by rw [beq_iff_eq]; omega
        have hfin : ((t.length : Int) + (E.length : Int) + 1 == (tt.length : Int) + 1) = true := by rw [beq_iff_eq]; have := hl.out; omega
        clear x0 x1 x2 p5 p1 oD2 hbE2 hE3
        go_wp2_with fail
        refine (cN2 _).mono ?_
        clear cN2
        rintro e w7 ⟨rfl, hb7⟩
        have HB7 := below_two HB6 hb7 (Nat.le_refl _)
        clear y0 y1 y2 p6
        go_wp2_with fail
        go_ret
        exact ⟨rfl, HB7⟩
      · have HFv := toB _ hSv
        have hbE := (HFv.block _ xl).trans hE3
        have hBw := HB3.size
        obtain ⟨oD, HN⟩ := hP'
        obtain ⟨p1, p2⟩ := puts_all nv [.int .i64 (E.length : Int), .int .i64 1, .slice a' (E.length - m) c'] rfl
        simp only [puts, Nat.zero_add, Nat.reduceAdd] at p1 p2
        have hbE2 := p2.row hbE (fun e => by omega)
        have HF2 := HFv.trans (p2.below (B := w3.heap.size) (fun k e => by omega) HFv.size)
        have oD2 : OpS (((wv.setCell ⟨wy.heap.size, 0, none⟩ (.int .i64 (E.length : Int))).setCell ⟨wy.heap.size, 1, none⟩ (.int .i64 1)).setCell ⟨wy.heap.size, 2, none⟩ (.slice a' (E.length - m) c')) w.heap.size tv D := ⟨own_chg oD.own p2 (fun j hj e => row_ne oD.own nv (by decide) (by rw [hj, e])), oD.ok, oD.canon⟩
        clear p2
        clear hbE HFv toB hS0 keepB keepS keepA hS1 hSv hby hbx szy szv szd szd2 cH cS oA oD nv r0 r1 r2 f0 f1 f2
        generalize (((wv.setCell ⟨wy.heap.size, 0, none⟩ (.int .i64 (E.length : Int))).setCell ⟨wy.heap.size, 1, none⟩ (.int .i64 1)).setCell ⟨wy.heap.size, 2, none⟩ (.slice a' (E.length - m) c')) = w4 at *
        generalize wy.heap.size = xb at p1 ⊢
        have HB4 := HB3.trans (HF2.mono HB3.size)
        have cL := fun wx (hx : Below w4.heap.size w4 wx) => lengthsCall D tv w.heap.size wx (oD2.below hx) HN.out.2
        rw [HN.out.1] at cL
        obtain ⟨x0, x1, x2⟩ := edge_cells hbE2
        have xl := (Array.getElem?_eq_some_iff.1 hbE2).1
        have cS2' := fun wx (hx : Below w4.heap.size w4 wx) => cS2 wx (HF2.trans (hx.mono HF2.size))
        clear cS2
        go_wp2_with fail
        refine (cS2' w4 (Below.refl _ _)).mono ?_
        clear cS2'
        rintro e w5 ⟨rfl, hb5⟩
        have p5 := (hb5.block _ (Array.getElem?_eq_some_iff.1 p1).1).trans p1
        replace p5 := row_old p5 (.cells #[.int .i64 0, .int .i64 0, .slice none 0 0] 26)
        replace hb5 := hb5.alloc hb5.size (.cells #[.int .i64 0, .int .i64 0, .slice none 0 0] 26)
        have HB5 := below_two HB4 hb5 (Nat.le_refl _)
        go_wp2_with fail
        refine (cL _ hb5).mono ?_
        clear cL
        rintro e w6 ⟨rfl, hb6⟩
        have p6 := (hb6.block _ (Array.getElem?_eq_some_iff.1 p5).1).trans p5
        have HB6 := below_two HB5 hb6 (Nat.le_refl _)
        obtain ⟨y0, y1, y2⟩ := edge_cells p6
        have cN2 := fun wx => runesCall tt wx cptt (by omega)
        have hsub : ((((E.length - m : Nat)) : Int) == (E.length : Int) - (m : Int)) = true := by rw [beq_iff_eq]; omega
        have hfin : ((t.length : Int) + (E.length : Int) + 1 == (tt.length : Int) + 1) = true := by rw [beq_iff_eq]; have := hl.out; omega
        clear x0 x1 x2 p5 p1 oD2 hbE2 hE3
        go_wp2_with fail
        refine (cN2 _).mono ?_
        clear cN2
        rintro e w7 ⟨rfl, hb7⟩
        have HB7 := below_two HB6 hb7 (Nat.le_refl _)
        clear y0 y1 y2 p6
        go_wp2_with fail
        go_ret
        exact ⟨rfl, HB7⟩
      · have HFv := toB _ hSv
        have hbE := (HFv.block _ xl).trans hE3
        have hBw := HB3.size
        obtain ⟨oD, HN⟩ := hP'
        obtain ⟨p1, p2⟩ := puts_all nv [.int .i64 (E.length : Int), .int .i64 1, .slice a' (E.length - m) c'] rfl
        simp only [puts, Nat.zero_add, Nat.reduceAdd] at p1 p2
        have hbE2 := p2.row hbE (fun e => by omega)
        have HF2 := HFv.trans (p2.below (B := w3.heap.size) (fun k e => by omega) HFv.size)
        have oD2 : OpS (((wv.setCell ⟨w3.heap.size, 0, none⟩ (.int .i64 (E.length : Int))).setCell ⟨w3.heap.size, 1, none⟩ (.int .i64 1)).setCell ⟨w3.heap.size, 2, none⟩ (.slice a' (E.length - m) c')) w.heap.size tv D := ⟨own_chg oD.own p2 (fun j hj e => row_ne oD.own nv (by decide) (by rw [hj, e])), oD.ok, oD.canon⟩
        clear p2
        clear hbE HFv toB hS0 keepB keepS keepA hS1 hSv hby hbx szy szv szd szd2 cH cS oA oD nv r0 r1 r2 f0 f1 f2
        generalize (((wv.setCell ⟨w3.heap.size, 0, none⟩ (.int .i64 (E.length : Int))).setCell ⟨w3.heap.size, 1, none⟩ (.int .i64 1)).setCell ⟨w3.heap.size, 2, none⟩ (.slice a' (E.length - m) c')) = w4 at *
        generalize w3.heap.size = xb at p1 ⊢
        have HB4 := HB3.trans (HF2.mono HB3.size)
        have cL := fun wx (hx : Below w4.heap.size w4 wx) => lengthsCall D tv w.heap.size wx (oD2.below hx) HN.out.2
        rw [HN.out.1] at cL
        obtain ⟨x0, x1, x2⟩ := edge_cells hbE2
        have xl := (Array.getElem?_eq_some_iff.1 hbE2).1
        have cS2' := fun wx (hx : Below w4.heap.size w4 wx) => cS2 wx (HF2.trans (hx.mono HF2.size))
        clear cS2
        go_wp2_with fail
        refine (cS2' w4 (Below.refl _ _)).mono ?_
        clear cS2'
        rintro e w5 ⟨rfl, hb5⟩
        have p5 := (hb5.block _ (Array.getElem?_eq_some_iff.1 p1).1).trans p1
        replace p5 := row_old p5 (.cells #[.int .i64 0, .int .i64 0, .slice none 0 0] 26)
        replace hb5 := hb5.alloc hb5.size (.cells #[.int .i64 0, .int .i64 0, .slice none 0 0] 26)
        have HB5 := below_two HB4 hb5 (Nat.le_refl _)
        go_wp2_with fail
        refine (cL _ hb5).mono ?_
        clear cL
        rintro e w6 ⟨rfl, hb6⟩
        have p6 := (hb6.block _ (Array.getElem?_eq_some_iff.1 p5).1).trans p5
        have HB6 := below_two HB5 hb6 (Nat.le_refl _)
        obtain ⟨y0, y1, y2⟩ := edge_cells p6
        have cN2 := fun wx => runesCall tt wx cptt (by omega)
        have hsub : ((((E.length - m : Nat)) : Int) == (E.length : Int) - (m : Int)) = true := by rw [beq_iff_eq]; omega
        have hfin : ((t.length : Int) + (E.length : Int) + 1 == (tt.length : Int) + 1) = true := by rw [beq_iff_eq]; have := hl.out; omega
        clear x0 x1 x2 p5 p1 oD2 hbE2 hE3
        go_wp2_with fail
        refine (cN2 _).mono ?_
        clear cN2
        rintro e w7 ⟨rfl, hb7⟩
        have HB7 := below_two HB6 hb7 (Nat.le_refl _)
        clear y0 y1 y2 p6
        go_wp2_with fail
        go_ret
        exact ⟨rfl, HB7⟩

end Go.Proofs.YtbobeecagcmclaaDoor
