/-
  Walk: wherrykeep.RecordBack.
-/
import Derived.Test.YtmdehfomogfmlaaDoorKRecord
namespace Go.Proofs.YtmdehfomogfmlaaDoor
open Go.RowKit Go.Lib

theorem recFault_back {n : Nat} {ps : List Part} (h : RecOk n ps) : recFault (recW n ps) = 0 ∧ recOf (recW n ps) = (n, ps) := by
  have hp : recP (recW n ps) = .ok ((n, ps), []) := by
    have := rec_sevs h.err h.text []
    rwa [List.append_nil] at this
  have hf : recFault (recW n ps) = 0 := by
    unfold recFault
    rw [if_neg (by have := h.many; omega), hp]
    show (if (0 : Int) ≠ 0 then _ else recordErr (n : Int) ps) = 0
    rw [if_neg (by simp), h.err]
  refine ⟨hf, ?_⟩
  unfold recOf
  rw [hf, hp, if_neg (by simp)]
theorem recFault_more {n : Nat} {ps : List Part} (h : RecOk n ps) (x : Nat) : recFault (recW n ps ++ [x]) = 4 ∧ recOf (recW n ps ++ [x]) = (0, []) := by
  have hf : recFault (recW n ps ++ [x]) = 4 := by
    unfold recFault
    rw [if_neg (by have := h.many; rw [List.length_append]; simp; omega), rec_sevs h.err h.text [x]]
    rfl
  exact ⟨hf, by unfold recOf; rw [hf, if_pos (by decide)]⟩
/-- what is read is written so again -/
theorem recOf_write {l : List Nat} (h256 : ∀ x ∈ l, x < 256) (h : recFault l = 0) : recW (recOf l).1 (recOf l).2 = l ∧ recordErr ((recOf l).1 : Int) (recOf l).2 = 0 ∧ (∀ p ∈ (recOf l).2, p.text.size ≤ 1048576) ∧ l.length ≤ 50000 := by
  have h0 := h
  unfold recFault at h
  by_cases h5 : 50000 < l.length
  · rw [if_pos h5] at h; exact absurd h (by decide)
  · rw [if_neg h5] at h
    by_cases h6 : endE (rest (recP l)) ≠ 0
    · rw [if_pos h6] at h; exact absurd h h6
    · rw [if_neg h6] at h
      cases hp : recP l with
      | error e =>
        rw [hp] at h6 h
        have h7 : e = 0 := h
        exact absurd h7 (recP_err hp)
      | ok x =>
        obtain ⟨⟨e, ps⟩, r⟩ := x
        have hr : r = [] := by
          rw [hp] at h6
          cases r with
          | nil => rfl
          | cons z r => exact absurd (show (4 : Int) ≠ 0 by decide) h6
        subst hr
        have ho : recOf l = (e, ps) := by unfold recOf; rw [h0, if_neg (by simp), hp]
        rw [hp] at h
        have hw := rec_back h256 hp
        rw [List.append_nil] at hw
        rw [ho]
        refine ⟨hw.symm, h, fun p hq => ?_, by omega⟩
        have hz := recordErr_zero h
        have hbp := opErr_bare hz.2.2 p hq
        have h1 := part_text_le hbp
        have h2 := flat_le hq
        have he : e = 0 := by
          rcases Nat.eq_zero_or_pos e with h | h
          · exact h
          · have h9 : ps = [] := hz.2.1 (show ((e : Nat) : Int) ≠ 0 by omega)
            simp only at hq
            rw [h9] at hq; cases hq
        simp only at hq h2
        have h3 : (ps.flatMap partW).length ≤ l.length := by
          rw [hw]; unfold recW opW; rw [if_pos he, List.length_append, List.length_append]; omega
        omega

set_option maxRecDepth 100000 in
set_option maxHeartbeats 2000000 in
theorem recordBack_walk (r : RawV) (rs : List RawV) (a : Option Addr) (cap : Nat) (l : List Nat) (la : Option Addr) (lc : Nat) (w : World) (hk : RawOk r) (hr : RawsAt w a rs) (hok : ∀ r ∈ rs, RawOk r) (hlen : rs.length ≤ 9223372036854775807) (hb : Bytes w la l) (hs : SrcB w la lc l) (h256 : ∀ x ∈ l, x < 256) (_ : l.length ≤ lc) (hl : l.length ≤ 140737488351232) (hT : Tabs w) :
    Calls Tryd.prog 16 #[.agg #[.int .i64 r.kind, .int .i64 r.a, .int .i64 r.b, .int .i64 r.c, .string r.text], .slice a rs.length cap, .slice la l.length lc] w fun e w' => e = .returned (.bool true) ∧ Below w.heap.size w w' := by
  have HB : Below w.heap.size w (w.alloc (.cells #[.int .i64 r.kind, .int .i64 r.a, .int .i64 r.b, .int .i64 r.c, .string r.text] 52)) := (Below.refl w.heap.size w).alloc (Nat.le_refl _) (.cells #[.int .i64 r.kind, .int .i64 r.a, .int .i64 r.b, .int .i64 r.c, .string r.text] 52)
  have hraw := heap_alloc_new w (.cells #[.int .i64 r.kind, .int .i64 r.a, .int .i64 r.b, .int .i64 r.c, .string r.text] 52)
  have cR := krecord_any r rs a cap (w.alloc (.cells #[.int .i64 r.kind, .int .i64 r.a, .int .i64 r.b, .int .i64 r.c, .string r.text] 52)) hk (hr.below HB (Nat.le_refl _)) hok hlen
  obtain ⟨k0, k1, k2, k3, k4⟩ := raw_cells hraw
  clear hraw hk hr hok
  go_enter Tryd.func16, Tryd.ntmps16
  go_wp2_with fail
  refine cR.mono ?_
  generalize (w.alloc (.cells #[.int .i64 r.kind, .int .i64 r.a, .int .i64 r.b, .int .i64 r.c, .string r.text] 52)) = w0 at *
  rintro e w1 ⟨n, v, ps, rfl, hown, hrec, hb1⟩
  obtain ⟨va, vc, rfl⟩ := own_form hown
  replace HB := below_two HB hb1 (Nat.le_refl _)
  clear cR hb1 k0 k1 k2 k3 k4
  have hbx := (Below.refl w1.heap.size w1).alloc (Nat.le_refl _) (.cells #[.int .i64 (n : Int), .slice va ps.length vc] 85)
  have hx := heap_alloc_new w1 (.cells #[.int .i64 (n : Int), .slice va ps.length vc] 85)
  replace HB := below_two HB hbx (Nat.le_refl _)
  replace hown := own_below hown hbx
  clear hbx
  obtain ⟨_, _, e3, hop⟩ := own_opAt hown
  simp only [Value.slice.injEq, true_and] at e3
  obtain ⟨rfl, rfl⟩ := e3
  have cE := encodeRecord_ok (n : Int) ps va vc _ hop hrec.text (hT.below HB) hrec.err
  rw [show ((n : Int)).toNat = n by omega] at cE
  obtain ⟨⟨x0, x1⟩, xl, _, _⟩ := rec_cells hx
  have hps : ps.length ≤ 10000 := (opErr_parts (recordErr_zero hrec.err).2.2 hrec.text).1
  have h1 := recFault_back hrec
  have h2 := recFault_more hrec 120
  have h3 := recW_small n ps
  have h4 := hrec.many
  have HW : Hid (recW n ps = recW n ps) := rfl
  generalize recW n ps = L at *
  clear hrec
  go_wp2_with fail
  refine cE.mono ?_
  generalize (w1.alloc (.cells #[.int .i64 (n : Int), .slice va ps.length vc] 85)) = w2 at *
  rintro e w3 ⟨v3, rfl, hown3, hb3⟩
  replace HB := below_two HB hb3 (Nat.le_refl _)
  replace hop := hop.below hb3
  replace hx := (hb3.block _ xl).trans hx
  clear cE hb3 x0 x1 xl hown
  obtain ⟨ca, cc, rfl, hsrc3, hby3, hcc⟩ := srcB_own hown3
  have cD := decodeRecord_any L ca cc w3 hby3 h3 hcc (hT.below HB)
  rw [h1.1, h1.2] at cD
  go_wp2_with fail
  refine cD.mono ?_
  rintro e w4 ⟨v4, rfl, hown4, hb4⟩
  obtain ⟨ya, yc, rfl⟩ := own_form hown4
  replace HB := below_two HB hb4 (Nat.le_refl _)
  replace hop := hop.below hb4
  replace hx := (hb4.block _ (Array.getElem?_eq_some_iff.1 hx).1).trans hx
  replace hsrc3 := hsrc3.below hb4
  clear cD hb4 hby3 hown3
  have hbx := (Below.refl w4.heap.size w4).alloc (Nat.le_refl _) (.cells #[.int .i64 (n : Int), .slice ya ps.length yc] 85)
  have hy := heap_alloc_new w4 (.cells #[.int .i64 (n : Int), .slice ya ps.length yc] 85)
  replace HB := below_two HB hbx (Nat.le_refl _)
  replace hop := hop.below hbx
  replace hown4 := own_below hown4 hbx
  replace hsrc3 := hsrc3.below hbx
  replace hx := row_old hx (.cells #[.int .i64 (n : Int), .slice ya ps.length yc] 85)
  obtain ⟨_, _, e3, hoq⟩ := own_opAt hown4
  simp only [Value.slice.injEq, true_and] at e3
  obtain ⟨rfl, rfl⟩ := e3
  clear hbx hown4
  have tok : True := trivial
  have tok2 : True := trivial
  have hzY : w4.heap.size < (w4.alloc (.cells #[.int .i64 (n : Int), .slice ya ps.length yc] 85)).heap.size := by simp
  go_wp2_with (first | (at_builtin; clear tok; refine wpList_append_bytes rfl _ _ rfl (w4.alloc (.cells #[.int .i64 (n : Int), .slice ya ps.length yc] 85)).heap.size (Nat.le_refl _) (.slice none 0 0) 0 [] rfl (World.ownsRow_nil _ _ _ _) ca cc L rfl hsrc3 (by omega) ?_; intro v5 w5 hown5 hgr5 hmv5; rw [Nat.zero_add, List.nil_append] at hown5; obtain ⟨a5, c5, e5, hsrc5, _, hc5⟩ := srcB_own hown5; subst e5; have hN : SrcB (w5.alloc (.cells #[.int .u8 120] 5)) (some ⟨w5.heap.size, 0, none⟩) 1 [120] := .inr ⟨_, rfl, World.news_of_block (cs := #[.int .u8 120]) (t := 5) (fr := (0, 0)) (heap_alloc_new w5 (.cells #[.int .u8 120] 5))⟩) | (at_builtin; clear tok2; refine wpList_append_bytes rfl _ _ rfl (w4.alloc (.cells #[.int .i64 (n : Int), .slice ya ps.length yc] 85)).heap.size (Nat.le_trans hgr5.size (by simp)) (.slice a5 L.length c5) L.length (octs L) rfl (hown5.alloc _) (some ⟨w5.heap.size, 0, none⟩) 1 [120] rfl hN (by simp; omega) ?_; intro v6 w6 hown6 hgr6 hmv6))
  rw [← octs_append, show L.length + [120].length = (L ++ [120]).length by simp] at hown6
  obtain ⟨a6, c6, rfl, _, hby6, hc6⟩ := srcB_own hown6
  have hb6 : Below (w4.alloc (.cells #[.int .i64 (n : Int), .slice ya ps.length yc] 85)).heap.size (w4.alloc (.cells #[.int .i64 (n : Int), .slice ya ps.length yc] 85)) w6 := (((Below.refl _ (w4.alloc (.cells #[.int .i64 (n : Int), .slice ya ps.length yc] 85))).grown hgr5 (Nat.le_refl _) (fun k e => by cases e)).alloc hgr5.size (.cells #[.int .u8 120] 5)).grown hgr6 (Nat.le_trans hgr5.size (by simp)) (fun k e => (hown5.lt k e).1)
  clear hown5 hgr5 hgr6 hmv5 hmv6 hsrc5 hc5 hN hown6
  have HB6 := below_two HB hb6 (Nat.le_refl _)
  have cD := decodeRecord_any (L ++ [120]) a6 c6 w6 hby6 (fun x hx => by
    rcases List.mem_append.1 hx with hx | hx
    · exact h3 x hx
    · simp at hx; omega) hc6 (hT.below HB6)
  rw [h2.1, h2.2] at cD
  refine cD.mono ?_
  rintro e w7 ⟨v7, rfl, hown7, hb7⟩
  obtain ⟨za, zc, rfl⟩ := own_form hown7
  replace HB6 := below_two HB6 hb7 (Nat.le_refl _)
  replace hb6 := below_two hb6 hb7 (Nat.le_refl _)
  clear cD hb7 hown7 hby6 hc6
  have hbz := (Below.refl w7.heap.size w7).alloc (Nat.le_refl _) (.cells #[.int .i64 0, .slice za 0 zc] 85)
  replace HB6 := below_two HB6 hbz (Nat.le_refl _)
  replace hb6 := below_two hb6 hbz (Nat.le_refl _)
  replace hx := (hb6.block _ (Array.getElem?_eq_some_iff.1 hx).1).trans hx
  replace hy := (hb6.block _ hzY).trans hy
  replace hop := hop.below hb6
  replace hoq := hoq.below hb6
  obtain ⟨⟨x0, x1⟩, _⟩ := rec_cells hx
  obtain ⟨⟨y0, y1⟩, _⟩ := rec_cells hy
  have cS := sameRecord_true (n : Int) ps va ya vc yc _ hop hoq hps
  clear hbz hb6 HB hx hy hop hoq
  go_wp2_with fail
  refine cS.mono ?_
  generalize (w7.alloc (.cells #[.int .i64 0, .slice za 0 zc] 85)) = w8 at *
  rintro e w9 ⟨rfl, hb9⟩
  have HB9 := below_two HB6 hb9 (Nat.le_refl _)
  have hs9 := hs.below HB9
  clear cS hb9 HB6 x0 x1 y0 y1 hs
  go_wp2_with (at_builtin; refine wpList_append_bytes rfl _ _ rfl w9.heap.size (Nat.le_refl _) (.slice none 0 0) 0 [] rfl (World.ownsRow_nil _ _ _ _) la lc l rfl hs9 (by omega) ?_; intro v10 w10 hown10 hgr10 hmv10)
  rw [Nat.zero_add, List.nil_append] at hown10
  obtain ⟨a10, c10, rfl, _, hby10, hc10⟩ := srcB_own hown10
  have hb10 : Below w9.heap.size w9 w10 := (Below.refl _ w9).grown hgr10 (Nat.le_refl _) (fun k e => by cases e)
  have HB10 := below_two HB9 hb10 (Nat.le_refl _)
  have cD := decodeRecord_any l a10 c10 w10 hby10 h256 hc10 (hT.below HB10)
  clear hgr10 hmv10 hown10 hby10 hc10 hb10 HB9 hs9
  refine cD.mono ?_
  by_cases hf : recFault l = 0
  · obtain ⟨g1, g2, g3, g4⟩ := recOf_write h256 hf
    rw [hf]
    have hlen2 : (recOf l).2.length ≤ 10000 := (opErr_parts (recordErr_zero g2).2.2 g3).1
    generalize recOf l = O at *
    obtain ⟨m, qs⟩ := O
    simp only at g1 g2 g3 hlen2 ⊢
    rintro e w11 ⟨v11, rfl, hown11, hb11⟩
    obtain ⟨z1, z2, rfl⟩ := own_form hown11
    have HB11 := below_two HB10 hb11 (Nat.le_refl _)
    have hbz := (Below.refl w11.heap.size w11).alloc (Nat.le_refl _) (.cells #[.int .i64 (m : Int), .slice z1 qs.length z2] 85)
    have hz := heap_alloc_new w11 (.cells #[.int .i64 (m : Int), .slice z1 qs.length z2] 85)
    have HB12 := below_two HB11 hbz (Nat.le_refl _)
    have hown12 := own_below hown11 hbz
    obtain ⟨_, _, e3, hoz⟩ := own_opAt hown12
    simp only [Value.slice.injEq, true_and] at e3
    obtain ⟨rfl, rfl⟩ := e3
    obtain ⟨⟨zz0, zz1⟩, _⟩ := rec_cells hz
    have cE := encodeRecord_ok (m : Int) qs z1 z2 _ hoz g3 (hT.below HB12) g2
    rw [show ((m : Int)).toNat = m by omega, g1] at cE
    clear hown11 hown12 hb11 hbz hz HB10 HB11 cD hoz
    go_wp2_with fail
    refine cE.mono ?_
    generalize (w11.alloc (.cells #[.int .i64 (m : Int), .slice z1 qs.length z2] 85)) = w12 at *
    rintro e w13 ⟨v13, rfl, hown13, hb13⟩
    have HB13 := below_two HB12 hb13 (Nat.le_refl _)
    obtain ⟨d1, d2, rfl, _, hby13, _⟩ := srcB_own hown13
    have hcv := conv_bytes hby13 d2
    have hcw := conv_bytes (hb.below HB13) lc
    clear cE hown13 hb13 hby13
    go_wp2_with fail
    go_ret
    exact ⟨rfl, HB13⟩
  · have hg : (recFault l != 0) = true := by simpa using hf
    have ho : recOf l = (0, []) := by unfold recOf; rw [if_pos hf]
    rw [ho]
    generalize recFault l = F at *
    rintro e w11 ⟨v11, rfl, hown11, hb11⟩
    obtain ⟨z1, z2, rfl⟩ := own_form hown11
    have HB11 := below_two HB10 hb11 (Nat.le_refl _)
    have hbz := (Below.refl w11.heap.size w11).alloc (Nat.le_refl _) (.cells #[.int .i64 0, .slice z1 0 z2] 85)
    have hz := heap_alloc_new w11 (.cells #[.int .i64 0, .slice z1 0 z2] 85)
    have HB12 := below_two HB11 hbz (Nat.le_refl _)
    obtain ⟨⟨zz0, zz1⟩, _⟩ := rec_cells hz
    clear hown11 hb11 hbz hz HB10 HB11 cD
    go_wp2_with fail
    go_ret
    exact ⟨rfl, HB12⟩

end Go.Proofs.YtmdehfomogfmlaaDoor
