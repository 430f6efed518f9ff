/-
  Walk: wherrykeep.ReplayMakes.
-/
import Derived.Test.YtbobeecagcmclaaDoorReplMade
import Derived.Deep.LoopGhost
import Derived.Deep.RegionHeld3
namespace Go.Proofs.YtbobeecagcmclaaDoor
open Go.RowKit Go.Lib

theorem cut3 {i : Nat} (hi : i < 20) (L : Nat) : min (IntKind.i64.wrap ((i : Int) + 3)) (L : Int) = ((min (i + 3) L : Nat) : Int) := by
  rw [IntKind.wrap_i64]
  omega

set_option maxRecDepth 100000 in
set_option maxHeartbeats 4000000 in
theorem replayMakes_walk (rs : List RawV) (a : Option Addr) (cap : Nat) (w : World) (hr : RawsAt w a rs) (hok : ∀ r ∈ rs, RawOk r) (hlen : rs.length ≤ 9223372036854775807) (hcap : rs.length ≤ cap) (hT : Tabs w) :
    Calls Tryd.prog 4 #[.slice a rs.length cap] w fun e w' => e = .returned (.bool true) ∧ Below w.heap.size w w' := by
  obtain ⟨i0, hi0, hz0, hz1, hz2⟩ := info_parts info_rec
  go_enter Tryd.func4, Tryd.ntmps4
  go_wp2_with fail
  go_loopg [3, 4, 5, 6] 20 (fun g sv tv ov iv wr => ∃ (i : Nat) (t : List Nat) (top : Nat) (K : List RecC), i + g = 20 ∧ iv = .int .i64 (i : Int) ∧ sv = .string (str t) ∧ tv = .int .i64 (top : Int) ∧ RowRecs wr w.heap.size ov K ∧ MadeR K t top ∧ (t.length ≤ i * 24 ∧ top ≤ 1000 ∧ K.length ≤ i) ∧ Below w.heap.size w wr)
  case atStart => exact ⟨0, [], 0, [], by omega, rfl, rfl, rfl, rowRecs_nil _ _, made_nil, by simp, Below.refl _ _⟩
  case round =>
    obtain ⟨i, t, top, K, hi, rfl, rfl, rfl, hK, hM, hbd, hb⟩ := hrel
    obtain ⟨oa, oc, rfl⟩ := own_form hK.row
    by_cases hgo : i < rs.length ∧ i < 20
    · obtain ⟨h1, h2⟩ := hgo
      have h1z : (i : Int) < (rs.length : Int) := by omega
      · have h2z : (i : Int) < 20 := by omega
        have hi0z : (0 : Int) ≤ (i : Int) := by omega
        have hcutR := hr.cut cap i (min (i + 3) rs.length - i) hcap
        have hcut := cut_raws a rs.length cap i (min (i + 3) rs.length) (by omega) (by omega) hcap (i : Int) (min (IntKind.i64.wrap ((i : Int) + 3)) (rs.length : Int)) rfl (cut3 h2 rs.length)
        have hlen2 : ((rs.drop i).take (min (i + 3) rs.length - i)).length = min (i + 3) rs.length - i := by rw [List.length_take, List.length_drop]; omega
        have hok2 : ∀ r ∈ (rs.drop i).take (min (i + 3) rs.length - i), RawOk r := fun r hr => hok r (List.mem_of_mem_drop (List.mem_of_mem_take hr))
        have hrk := hok rs[i] (List.getElem_mem h1)
        have hr' := hr
        rcases hr' with h0 | ⟨b, off, rfl, hbl, hc⟩
        · subst h0; simp at h1
        · obtain ⟨c0, c1, c2, c3, c4⟩ := hc i h1
          have cO := fun (wx : World) (hx : Below w.heap.size w wx) => opCall t.length _ _ (cap - i) wx (hcutR.below hx (Nat.le_refl _)) hok2 (by omega) (by omega)
          rw [hlen2] at cO
          generalize (if cap = i then some (⟨b, off, none⟩ : Addr) else (some (⟨b, off, none⟩ : Addr)).map (·.add (i * 5))) = ca at *
          generalize min (i + 3) rs.length - i = mm at *
          clear hlen2 hok2 hcutR
          generalize rs[i] = r at *
          have d1 : wr.cell? ⟨b, off + i * 5 + 1, none⟩ = some (.int .i64 r.a) := (hb.cell (p := ⟨b, off + i * 5 + 1, none⟩) hbl).trans c1
          have d3 : wr.cell? ⟨b, off + i * 5 + 3, none⟩ = some (.int .i64 r.c) := (hb.cell (p := ⟨b, off + i * 5 + 3, none⟩) hbl).trans c3
          clear hc c0 c1 c2 c3 c4
          have hp5 := pick_lt r.c 5 (by omega)
          have cP := picked_same r.c 5 wr hrk.c (by omega) (by omega)
          go_wp2_with fail
          refine cP.mono ?_
          rintro e w1 ⟨rfl, rfl⟩
          generalize pick r.c 5 = p5 at *
          clear cP
          by_cases h5 : p5 = 0
          · subst h5
            have hq := pick_lt r.a 1000 (by omega)
            have cQ := picked_same r.a 1000 w1 hrk.a (by omega) (by omega)
            go_wp2_with fail
            refine cQ.mono ?_
            rintro e w2 ⟨rfl, rfl⟩
            generalize pick r.a 1000 = q at *
            have hown5 := hK.row
            go_wp2_with (at_builtin; refine wpList_append_lies _ rfl _ _ 40 rfl w.heap.size 44 i0 (.agg #[.int .i64 0, .slice none 0 0]) 2 32 Tryd.underlying40 hi0 hz0 hz1 hz2 rfl (by decide) _ _ _ rfl (hown5.alloc _) ⟨w2.heap.size, 0, none⟩ 1 1 [.int .i64 (1 + (q : Int)), .slice none 0 0] rfl rfl (cell_two_new _ _ _ _) (by intro u hu; simp at hu; rcases hu with rfl | rfl <;> rfl) (by decide) (by unfold maxLen; omega) (by omega) (by have := hb.size; simp; omega) _ rfl ?_; intro g1 cap1 w6 hown6 hgr6 hat6 hlt6)
            rw [show (1 : Int) + (q : Int) = ((1 + q : Nat) : Int) by omega] at hown6
            have hK6 := hK.app (n := 1 + q) (ps := []) (u := .slice none 0 0) (World.ownsRow_nil _ _ _ _) hown6 hgr6
            have hb6 : Below w.heap.size w w6 := (hb.alloc hb.size _).grown hgr6 (by have := hb.size; simp; omega) (fun k e => (hown5.lt k e).1)
            have hM6 := made_epoch hM (k := q) (by omega) (.slice none 0 0)
            go_roundg (20 - i - 1)
            case measure => omega
            case rel => exact ⟨i + 1, t, max top (1 + q), _, by omega, by go_num, rfl, val_eq (by omega), hK6, hM6, by simp; omega, hb6⟩
          · have g5 : ((p5 : Int) == 0) = false := by simp; omega
            have cN := fun wx => runesCall t wx hM.cp (by omega)
            have hS0 : (fun w' : World => Below w1.heap.size w1 w') w1.drew := below_drew w1
            go_wp2_with fail
            go_region_held3 (fun w' : World => Below w1.heap.size w1 w') (with_reducible first | exact hS0 | assumption | exact below_two (by assumption) hbz (Nat.le_refl _) | exact below_two (by assumption) hby (Nat.le_refl _)) (first | (go_at_call 10; with_reducible refine Calls.mono (cN _) ?_; rintro e wz ⟨rfl, hbz⟩) | (go_at_call 13; with_reducible refine Calls.mono (cO _ (below_two hb (by assumption) (Nat.le_refl _))) ?_; rintro e wy ⟨v, A, rfl, oA, eA, nA, hby, hnilA⟩; have hof := own_form oA.own; obtain ⟨xa, xc, rfl⟩ := hof))
            all_goals
              clear hnilA
              have hb1y : Below w1.heap.size w1 wy := by assumption
              have HBy := below_two hb hb1y (Nat.le_refl _)
              have hKy := hK.below hb1y
              have cA := applyCall t A _ _ wy hM.cp oA (by omega) eA (hT.below HBy)
              have hM6 := made_op hM oA.ok (by omega) eA oA.canon (.slice xa (group A).length xc)
              have hnl := applyS_length A t
              go_wp2_with fail
              refine cA.mono ?_
              rintro e w4 ⟨rfl, hb4⟩
              have HB4 := below_two HBy hb4 (Nat.le_refl _)
              have hK4 := hKy.below hb4
              have hzz : w.heap.size ≤ wz.heap.size := Nat.le_trans hb.size (Nat.le_trans (below_drew w1).size hbz.size)
              have hoA := own_base (own_below oA.own hb4) hzz
              have hown5 := hK4.row
              have hA24 : (applyS t A).length ≤ (i + 1) * 24 := by omega
              clear cA oA eA hby hbz hb4 hb1y hKy hS0 cN cO hnl
              generalize applyS t A = T2 at *
              generalize group A = G at *
              go_wp2_with (at_builtin; refine wpList_append_lies _ rfl _ _ 40 rfl w.heap.size 44 i0 (.agg #[.int .i64 0, .slice none 0 0]) 2 32 Tryd.underlying40 hi0 hz0 hz1 hz2 rfl (by decide) _ _ _ rfl (hown5.alloc _) ⟨w4.heap.size, 0, none⟩ 1 1 [.int .i64 0, .slice xa G.length xc] rfl rfl (cell_two_new _ _ _ _) (by intro u hu; simp at hu; rcases hu with rfl | rfl <;> rfl) (by decide) (by unfold maxLen; omega) (by omega) (by have := HB4.size; simp; omega) _ rfl ?_; intro g1 cap1 w6 hown6 hgr6 hat6 hlt6)
              have hK6 := hK4.app (n := 0) (ps := G) (u := .slice xa G.length xc) hoA hown6 hgr6
              have hb6 : Below w.heap.size w w6 := (HB4.alloc HB4.size _).grown hgr6 (by have := HB4.size; simp; omega) (fun k e => (hown5.lt k e).1)
              go_roundg (20 - i - 1)
              case measure => omega
              case rel => exact ⟨i + 1, T2, top, _, by omega, by go_num, rfl, rfl, hK6, hM6, by simp; omega, hb6⟩
    have hlast : (i < rs.length ∧ ¬ i < 20) ∨ ¬ i < rs.length := by omega
    have hKl : K.length ≤ 20 := by omega
    have htl : t.length ≤ 480 := by omega
    obtain ⟨ra, rc, hre, hrin⟩ := hK.ins
    have htI : (toI K).length = K.length := by simp [toI]
    rw [htI] at hre
    simp only [Value.slice.injEq, true_and] at hre
    obtain ⟨rfl, rfl⟩ := hre
    have cR := replay_any (toI K) oa oc wr hrin (by rw [htI]; omega) (short_ins hM.short) (hT.below hb)
    rw [hM.run, htI] at cR
    have cN := fun wx => runesCall t wx hM.cp (by omega)
    have cO : ∀ wx : World, Calls Tryd.prog 13 #[.int .i64 ((t.length : Int) + 1), .slice none 0 0] wx fun e w' => ∃ v A, e = .returned v ∧ OpS w' wx.heap.size v A ∧ oldN A = t.length + 1 ∧ A.length ≤ t.length + 1 + 24 ∧ Below wx.heap.size wx w' ∧ (([] : List RawV) = [] → A = List.replicate (t.length + 1) (1, 0)) := fun wx => opCall (t.length + 1) [] none 0 wx (.inl rfl) (fun _ h => by simp at h) (by decide) (by omega)
    have hbad := fun A v hA hl he => made_bad (A := A) hM hA hl (by omega) he v
    have hsh := hM.short
    have hlen := hM
    clear hbd hi hrin htI hM hlen
    rcases hlast with ⟨h1, h2⟩ | h1
    all_goals
      first
        | have h1z : (i : Int) < (rs.length : Int) := by omega
          have h2z : ¬ (i : Int) < 20 := by omega
        | have h1z : ¬ (i : Int) < (rs.length : Int) := by omega
      clear h1
      go_wp2_with fail
      refine cR.mono ?_
      clear cR
      rintro e w1 ⟨rfl, hb1⟩
      have HB1 := below_two hb hb1 (Nat.le_refl _)
      have hK1 := hK.below hb1
      clear hK hb1
      go_wp2_with fail
      refine (cN _).mono ?_
      clear cN
      rintro e w2 ⟨rfl, hb2⟩
      have HB2 := below_two HB1 hb2 (Nat.le_refl _)
      have hK2 := hK1.below hb2
      clear hK1 hb2
      go_wp2_with fail
      refine (cO _).mono ?_
      clear cO
      rintro e w3 ⟨v, A, rfl, oA, eA, nA, hb3, _⟩
      obtain ⟨xa, xc, rfl⟩ := own_form oA.own
      have HB3 := below_two HB2 hb3 (Nat.le_refl _)
      have hK3 := hK2.below hb3
      have hoA := own_base oA.own HB2.size
      have hb10 := hbad A (.slice xa (group A).length xc) oA.ok (by omega) (by omega)
      have hsh2 := short_app hsh (x := ((0, group A), .slice xa (group A).length xc)) ⟨group_many (by omega), group_text (by omega)⟩
      have hown5 := hK3.row
      have HX : Hid (replayP ByteArray.empty 0 (toI (K ++ [((0, group A), .slice xa (group A).length xc)])) = (ByteArray.empty, 0, 10)) := hb10
      have HS : Hid (∀ y ∈ K ++ [((0, group A), .slice xa (group A).length xc)], y.1.2.length ≤ 1048576 ∧ ∀ p ∈ y.1.2, p.text.size ≤ 1048576) := hsh2
      have hB3 := HB3.size
      clear hK2 hb3 hbad hsh eA nA oA hb10 hsh2
      generalize group A = G at *
      go_wp2_with (at_builtin; refine wpList_append_lies _ rfl _ _ 40 rfl w.heap.size 44 i0 (.agg #[.int .i64 0, .slice none 0 0]) 2 32 Tryd.underlying40 hi0 hz0 hz1 hz2 rfl (by decide) _ _ _ rfl (hown5.alloc _) ⟨w3.heap.size, 0, none⟩ 1 1 [.int .i64 0, .slice xa G.length xc] rfl rfl (cell_two_new _ _ _ _) (by intro u hu; simp at hu; rcases hu with rfl | rfl <;> rfl) (by decide) (by unfold maxLen; omega) (by omega) (by simp; omega) _ rfl ?_; intro g1 cap1 w6 hown6 hgr6 hat6 hlt6)
      have hK6 := hK3.app (n := 0) (ps := G) (u := .slice xa G.length xc) hoA hown6 hgr6
      have HB6 : Below w.heap.size w w6 := (HB3.alloc HB3.size _).grown hgr6 (by simp; omega) (fun k e => (hown5.lt k e).1)
      obtain ⟨ra, rc, hre, hrin⟩ := hK6.ins
      have htI : (toI (K ++ [((0, G), Value.slice xa G.length xc)])).length = K.length + 1 := by simp [toI]
      rw [htI] at hre
      simp only [Value.slice.injEq, true_and] at hre
      obtain ⟨rfl, rfl⟩ := hre
      have cR := replay_any _ _ cap1 w6 hrin (by rw [htI]; omega) (short_ins HS.out) (hT.below HB6)
      rw [HX.out, htI] at cR
      clear hrin htI hK6 hown6 hgr6 hat6 hlt6 hoA hK3 hown5 HX HS
      go_wp2_with fail
      refine cR.mono ?_
      clear cR
      rintro e w7 ⟨rfl, hb7⟩
      have HB7 := below_two HB6 hb7 (Nat.le_refl _)
      have hst : ((str t).toList == (str t).toList) = true := by simp
      go_wp2_with fail
      go_ret
      exact ⟨by simp, HB7⟩

end Go.Proofs.YtbobeecagcmclaaDoor
