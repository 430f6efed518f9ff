/-
  Walk: wherrykeep.TransformMeets.
-/
import Derived.Test.YtepehgjdepioeaaDoorKTrans
namespace Go.Proofs.YtepehgjdepioeaaDoor
open Go.RowKit Go.Lib

/-- parts, and a part of no kind behind them: refused -/
theorem bad_err {S : List Step} (h : StepsOk S) (hl : S.length ≤ 4000) : opErr (group S ++ [⟨0, 0, ByteArray.empty⟩]) = 3 := by
  have hm := group_len S
  have key : ∀ (ps : List Part) (ah : Int), Chain ah ps → partsErr ah (ps ++ [⟨0, 0, ByteArray.empty⟩]) = 3 := by
    intro ps
    induction ps with
    | nil => intro ah _; simp [partsErr, partErr, bodyErr]
    | cons p r ih =>
      intro ah hc
      have h1 := ih p.kind hc.2.2
      have h2 : partErr ah p = 0 := by
        have h3 : partsErr ah [p] = 0 := (partsErr_chain [p] ah).2 ⟨hc.1, hc.2.1, trivial⟩
        by_cases h4 : partErr ah p = 0
        · exact h4
        · simp [partsErr, h4] at h3
      show partsErr ah (p :: (r ++ [⟨0, 0, ByteArray.empty⟩])) = 3
      unfold partsErr
      rw [h2]
      simpa using h1
  unfold opErr
  rw [key _ 0 (group_chain h hl), if_neg (by rw [List.length_append, List.length_singleton]; omega)]
  simp

set_option maxRecDepth 100000 in
set_option maxHeartbeats 2000000 in
theorem transformMeets_walk (s : ByteArray) (l : List RawV) (al : Option Addr) (cl : Nat) (m : List RawV) (am : Option Addr) (cm : Nat) (w : World) (hs : s.size ≤ 9223372036854775807) (hl : RawsAt w al l) (kl : ∀ r ∈ l, RawOk r) (ll : l.length ≤ 9223372036854775807) (hm : RawsAt w am m) (km : ∀ r ∈ m, RawOk r) (lm : m.length ≤ 9223372036854775807) (hT : Tabs w) :
    Calls Tryd.prog 5 #[.string s, .slice al l.length cl, .slice am m.length cm] w fun e w' => e = .returned (.bool true) ∧ Below w.heap.size w w' := by
  have HB : Below w.heap.size w w := Below.refl _ _
  go_enter Tryd.func5, Tryd.ntmps5
  obtain ⟨i0, hi, hz0, hz1, hz2⟩ := info_parts info_part
  go_wp2_with fail
  refine (letters_any s 30 _ hs (by omega)).mono ?_
  rintro e w1 ⟨t, cpt, lht, rfl, hb⟩
  replace HB := below_two HB hb (Nat.le_refl _)
  clear hb
  go_wp2_with fail
  refine (runesCall t _ cpt (by omega)).mono ?_
  rintro e w2 ⟨rfl, hb⟩
  replace HB := below_two HB hb (Nat.le_refl _)
  clear hb
  go_wp2_with fail
  refine (opCall (t.length) l al cl _ (hl.below HB (Nat.le_refl _)) kl ll (by omega)).mono ?_
  rintro e w3 ⟨u, A, rfl, oA, eA, nA, hb, _⟩
  replace HB := below_two HB hb (Nat.le_refl _)
  clear hb
  go_wp2_with fail
  refine (runesCall t _ cpt (by omega)).mono ?_
  rintro e w4 ⟨rfl, hb⟩
  replace HB := below_two HB hb (Nat.le_refl _)
  replace oA := oA.below hb
  clear hb
  go_wp2_with fail
  refine (opCall (t.length) m am cm _ (hm.below HB (Nat.le_refl _)) km lm (by omega)).mono ?_
  rintro e w5 ⟨v, C, rfl, oC, eC, nC, hb, _⟩
  replace HB := below_two HB hb (Nat.le_refl _)
  replace oA := oA.below hb
  clear hb
  go_wp2_with fail
  refine (transformCall A C u v _ _ _ oA oC (by omega) (eA.trans eC.symm) (hT.below HB)).mono ?_
  rintro e w6 ⟨x, y, P, Q, rfl, oP, oQ, sP, sQ, hb⟩
  replace HB := below_two HB hb (Nat.le_refl _)
  replace oA := oA.below hb
  replace oC := oC.below hb
  clear hb
  obtain ⟨n1, n2, n3⟩ := xf_counts A C oA.ok oC.ok (eA.trans eC.symm)
  have hle := xf_length A C
  have hPl := sP.len
  have hQl := sQ.len
  have aL := applyS_len A t oA.ok eA
  have cL := applyS_len C t oC.ok eC
  have aC := applyS_ok oA.ok cpt
  have cC := applyS_ok oC.ok cpt
  have hQ : oldN Q = (applyS t A).length := by rw [sQ.olds, n2, aL]
  have hP : oldN P = (applyS t C).length := by rw [sP.olds, n1, cL]
  have HM : Hid (applyS (applyS t A) Q = applyS (applyS t C) P) := by
    show _ = _
    rw [sQ.apply, sP.apply]
    exact xf_apply A C t oA.ok oC.ok eA eC
  go_wp2_with fail
  refine (applyCall t A u _ _ cpt oA (by omega) eA (hT.below HB)).mono ?_
  rintro e w7 ⟨rfl, hb⟩
  replace HB := below_two HB hb (Nat.le_refl _)
  replace oA := oA.below hb
  replace oC := oC.below hb
  replace oP := oP.below hb
  replace oQ := oQ.below hb
  clear hb
  go_wp2_with fail
  refine (applyCall (applyS t A) Q y _ _ aC oQ (by omega) hQ (hT.below HB)).mono ?_
  rintro e w8 ⟨rfl, hb⟩
  replace HB := below_two HB hb (Nat.le_refl _)
  replace oA := oA.below hb
  replace oC := oC.below hb
  replace oP := oP.below hb
  replace oQ := oQ.below hb
  clear hb
  rw [HM.out]
  go_wp2_with fail
  refine (applyCall t C v _ _ cpt oC (by omega) eC (hT.below HB)).mono ?_
  rintro e w9 ⟨rfl, hb⟩
  replace HB := below_two HB hb (Nat.le_refl _)
  replace oA := oA.below hb
  replace oC := oC.below hb
  replace oP := oP.below hb
  replace oQ := oQ.below hb
  clear hb
  go_wp2_with fail
  refine (applyCall (applyS t C) P x _ _ cC oP (by omega) hP (hT.below HB)).mono ?_
  rintro e w10 ⟨rfl, hb⟩
  replace HB := below_two HB hb (Nat.le_refl _)
  replace oA := oA.below hb
  replace oC := oC.below hb
  replace oP := oP.below hb
  replace oQ := oQ.below hb
  clear hb
  obtain ⟨sa, sc, rfl, hsrc⟩ := srcOp_own oC.own
  obtain ⟨ua, uc, rfl, hou, huc⟩ := own_opAt' oA.own
  have hbE := bad_err oC.ok (by omega)
  have haE := (group_ok oA.ok (by omega)).err
  have hgl := group_len C
  have hgt := group_text (S := C) (by omega)
  have hgm := group_many (S := A) (by omega)
  have hga := group_text (S := A) (by omega)
  have hz := HB.size
  clear sP sQ n1 n2 n3 hQ hP HM oP oQ hPl hQl hle aL cL eA eC
  go_wp2_with (first | (at_builtin; refine wpList_append_lies _ rfl _ _ 25 rfl w.heap.size 42 i0 _ 3 32 Tryd.underlying25 hi hz0 hz1 hz2 rfl (by decide) v1 (0 + (group C).length) ([] ++ partCells (group C)) rfl (hown1.alloc _) ⟨x1.heap.size, 0, none⟩ 1 1 [.int .i64 0, .int .i64 0, .string .empty] rfl rfl (World.news_of_block (cs := #[.int .i64 0, .int .i64 0, .string .empty]) (t := 42) (fr := (0, 0)) (heap_alloc_new x1 _)) (by simp [Value.oneCell']) (by omega) (by unfold maxLen; omega) (by omega) (by have := hgr1.size; simp; omega) _ rfl ?_; intro g2 cap2 x2 hown2 hgr2 hat2 hlt2) | (at_builtin; refine wpList_append_op rfl _ _ rfl w.heap.size hz (.slice none 0 0) 0 [] rfl (World.ownsRow_nil _ _ _ _) sa sc (group C) rfl hsrc (by omega) ?_; intro v1 x1 hown1 hgr1 hmv1))
  have hb1 := (Below.refl _ _ : Below _ w10 w10).grown hgr1 (Nat.le_refl _) (fun k e => by simp [Value.ownBlock] at e)
  have hb2 := (hb1.alloc hb1.size _).grown hgr2 (by have := hb1.size; simp; omega) (fun k e => by rcases hmv1 k e with h | h; simp [Value.ownBlock] at h; exact h)
  replace HB := below_two HB hb2 (Nat.le_refl _)
  have hou2 := hou.below hb2
  rw [Nat.zero_add, List.nil_append, ← partCells_one ⟨0, 0, .empty⟩, ← partCells_append] at hown2
  have e2 : (group C).length + 1 = (group C ++ [(⟨0, 0, ByteArray.empty⟩ : Part)]).length := by simp
  rw [e2] at hown2 ⊢
  obtain ⟨va, vc, hv, hov, hvc⟩ := own_opAt' hown2
  simp only [Value.slice.injEq, true_and] at hv
  obtain ⟨rfl, rfl⟩ := hv
  have cT := transform_text (group A) (group C ++ [⟨0, 0, ByteArray.empty⟩]) ua _ uc _ x2 hou2 hov huc hvc hgm (by simp; omega) hga (fun p hp => by rcases List.mem_append.1 hp with h | h; exact hgt p h; simp at h; rw [h]; simp) (hT.below HB)
  have hE : transErr (group A) (group C ++ [⟨0, 0, ByteArray.empty⟩]) = 3 := by unfold transErr bothErr; rw [haE, hbE]; simp
  rw [hE] at cT
  refine cT.mono ?_
  rintro e w11 ⟨p1, q1, rfl, _, _, hb⟩
  replace HB := below_two HB hb (Nat.le_refl _)
  clear cT hE hbE haE e2 hown2 hgr2 hat2 hown1 hgr1 hmv1 hb1 hb2 hov hou2 hou hsrc
  go_wp2_with fail
  go_ret
  exact ⟨rfl, HB⟩

end Go.Proofs.YtepehgjdepioeaaDoor
