/-
  Walk: wherryref.eye.ops.
-/
import Derived.Test.YtknjnfknalfbdaaDoorEyeStr
import Derived.Test.YtknjnfknalfbdaaDoorWireOp
namespace Go.Proofs.YtknjnfknalfbdaaDoor
open Go.RowKit Go.Lib

theorem partP_two {st : Except Int (List Nat)} (h : ∀ x, andR st numP = .ok x → x.1 = 2) : andR st partP = mapR (andR (rest (andR st numP)) textP) (fun s => ⟨2, 0, s⟩) := by
  cases st with
  | error e => rfl
  | ok l =>
    have h' : ∀ x, numP l = .ok x → x.1 = 2 := h
    show partP l = mapR (andR (rest (numP l)) textP) _
    unfold partP
    cases hq : numP l with
    | error e => rfl
    | ok x =>
      show (if x.1 = 2 then _ else _) = _
      rw [if_pos (h' x hq)]
      rfl
theorem partP_num {st : Except Int (List Nat)} {n : Nat} (hn : n ≠ 2) (h : ∀ x, andR st numP = .ok x → x.1 = n) : andR st partP = mapR (andR (rest (andR st numP)) numP) (fun m => ⟨(n : Int), (m : Int), ByteArray.empty⟩) := by
  cases st with
  | error e => rfl
  | ok l =>
    have h' : ∀ x, numP l = .ok x → x.1 = n := h
    show partP l = mapR (andR (rest (numP l)) numP) _
    unfold partP
    cases hq : numP l with
    | error e => rfl
    | ok x =>
      show (if x.1 = 2 then _ else _) = _
      rw [if_neg (by rw [h' x hq]; exact hn), h' x hq]
      rfl
theorem EySt.base {w : World} {B b : Nat} {l0 : List Nat} {st : Except Int (List Nat)} (h : EySt w B b l0 st) : b < B ∧ B ≤ w.heap.size := by
  cases h with
  | ok h => exact h.base
  | bad _ h => exact h.base

set_option maxRecDepth 100000 in
set_option maxHeartbeats 4000000 in
theorem eops_any (w : World) (B b : Nat) (l0 : List Nat) (st : Except Int (List Nat)) (h : EySt w B b l0 st) :
    Calls Tryd.prog 111 #[.pointer (some ⟨b, 0, none⟩)] w fun r w' => ∃ v ps, r = .returned v ∧ w'.ownsRow w.heap.size 33 3 v ps.length (partCells ps) ∧ EySt w' B b l0 (rest (andR st opP)) ∧ (∀ x, andR st opP = .ok x → x.1 = ps) ∧ ps.length < 268435456 ∧ (∀ p ∈ ps, PartOk 1000000 p) ∧ Chg (fun k => k = b) w w' := by
  obtain ⟨i0, hi, hz0, hz1, hz2⟩ := info_parts info_part
  have hb := h.base
  have cN := enum_any w B b l0 st h
  obtain ⟨R2, hR2⟩ : ∃ R2, R2 = andR st opP := ⟨_, rfl⟩
  rw [← hR2]
  have HK : Hid (R2 = match andR st numP with | .ok x => partsP x.1 x.2 | .error e => .error e) := hR2.trans (by cases st <;> rfl)
  clear hR2
  generalize andR st numP = R at *
  go_enter Tryd.func111, Tryd.ntmps111
  go_wp2_with fail
  refine cN.mono ?_
  rintro r w1 ⟨n, rfl, hn, hst, hx, _, hc1⟩
  have HS : Hid (R2 = mapR (andR (rest R) (partsP (n - 0))) (fun X => [] ++ X)) := by
    show _ = _
    rw [HK.out]
    cases R with
    | error e => rfl
    | ok x => 
      show partsP x.1 x.2 = mapR (partsP n x.2) _
      rw [hx x rfl]
      exact (mapR_id _).symm
  clear cN HK hx h
  generalize rest R = st1 at *
  go_wp2_with fail
  go_loopw [4, 5] (fun ov iv wr => ∃ (j : Nat) (D : List Part) (st : Except Int (List Nat)), iv = .int .i64 (j : Int) ∧ j ≤ n ∧ D.length = j ∧ wr.ownsRow w.heap.size 33 3 ov D.length (partCells D) ∧ EySt wr B b l0 st ∧ Hid (R2 = mapR (andR st (partsP (n - j))) (fun X => D ++ X)) ∧ (∀ p ∈ D, PartOk 1000000 p) ∧ Chg (fun k => k = b) w wr) (fun _ iv _ => n - (RowKit.intOf iv).toNat)
  case atStart => exact ⟨0, [], st1, rfl, Nat.zero_le _, rfl, World.ownsRow_nil _ _ _ _, hst, HS, by simp, hc1⟩
  case round =>
    obtain ⟨j, D, st, rfl, hjn, hdj, hown, hst, HS, hok, hch⟩ := hrel
    have HDJ : Hid (D.length = j) := hdj
    rw [hdj] at hown
    clear hdj
    have hz := hch.size
    have hrd : ∃ i er, EyAt wr B b l0 i er ∧ (er = 0 ∧ st = .ok (l0.drop i) ∨ er ≠ 0 ∧ st = .error er) := by
      cases hst with
      | ok h => exact ⟨_, 0, h, .inl ⟨rfl, rfl⟩⟩
      | bad he h => exact ⟨_, _, h, .inr ⟨he, rfl⟩⟩
    obtain ⟨i, er, hrd, her⟩ := hrd
    obtain ⟨a, c, hblk, _, _⟩ := hrd.form
    obtain ⟨⟨k0, k1, k2⟩, _, _, _⟩ := ey_cells hblk
    clear hblk hrd
    obtain ⟨oa, oc, rfl⟩ := own_form hown
    by_cases hjl : j < n
    · have hjz : (j : Int) < (n : Int) := by omega
      rcases her with ⟨rfl, rfl⟩ | ⟨her, rfl⟩
      · have hstep := parts_step (n - (j + 1)) (.ok (l0.drop i)) D
        rw [show n - (j + 1) + 1 = n - j by omega] at hstep
        have hp2 := fun h => partP_two (st := .ok (l0.drop i)) h
        have hpn := fun m (hm : m ≠ 2) h => partP_num (st := .ok (l0.drop i)) (n := m) hm h
        generalize (Except.ok (l0.drop i) : Except Int (List Nat)) = st at *
        have hza : (wr.alloc (.cells #[.int .i64 0, .int .i64 0, .string ⟨#[]⟩] 33)).heap.size = wr.heap.size + 1 := by simp
        have hpb := heap_alloc_new wr (.cells #[.int .i64 0, .int .i64 0, .string ⟨#[]⟩] 33)
        have hca : Chg (fun k => k = b) wr (wr.alloc (.cells #[.int .i64 0, .int .i64 0, .string ⟨#[]⟩] 33)) := (Chg.refl _ _).alloc _
        have cK := enum_any _ B b l0 st (hst.chg ((Chg.refl (fun _ => False) wr).alloc (.cells #[.int .i64 0, .int .i64 0, .string ⟨#[]⟩] 33)) (fun _ h => h.elim))
        go_wp2_with fail
        refine cK.mono ?_
        generalize (wr.alloc (.cells #[.int .i64 0, .int .i64 0, .string ⟨#[]⟩] 33)) = wa at *
        rintro r w2 ⟨kn, rfl, hkn, hst2, hx2, _, hc2⟩
        have hp2b := hc2.row hpb (by omega)
        have hz2' := hc2.size
        obtain ⟨⟨p0, p1, p2⟩, pl, pf0, pf1, pf2⟩ := part_cells hp2b
        have hsp : (w2.setCell ⟨wr.heap.size, 0, none⟩ (.int .i64 (kn : Int))).heap[wr.heap.size]? = some (.cells #[.int .i64 (kn : Int), .int .i64 0, .string ⟨#[]⟩] 33 (0, 0)) := by rw [heap_setCell_same w2 wr.heap.size 0 _ _ _ hp2b]; rfl
        have hch3 : Chg (fun k => k = wr.heap.size) w2 (w2.setCell ⟨wr.heap.size, 0, none⟩ (.int .i64 (kn : Int))) := (Chg.refl (fun k => k = wr.heap.size) w2).setCell (p := ⟨wr.heap.size, 0, none⟩) rfl _
        have hst3 := hst2.chg hch3 (fun k hk => by omega)
        have hcw : Chg (fun k => k = b) wr (w2.setCell ⟨wr.heap.size, 0, none⟩ (.int .i64 (kn : Int))) := (hca.trans hc2 (fun _ _ h => h)).trans hch3 (fun i hi h => by omega)
        clear cK hpb hp2b hch3
        by_cases hk2 : kn = 2
        · subst hk2
          have hpp := hp2 hx2
          clear hp2 hpn
          have cT := estr_any _ B b l0 _ hst3
          rw [hpp] at hstep
          generalize andR (rest (andR st numP)) textP = T at *
          go_wp2_with fail
          refine cT.mono ?_
          generalize (w2.setCell ⟨wr.heap.size, 0, none⟩ (.int .i64 (2 : Int))) = w3 at *
          rintro r w4 ⟨s, rfl, hst4, hx4, hs4, hc4⟩
          have hp4 := hc4.row hsp (by omega)
          have hz4 := hc4.size
          have hz3 := hcw.size
          have hsp4 : (w4.setCell ⟨wr.heap.size, 2, none⟩ (.string s)).heap[wr.heap.size]? = some (.cells #[.int .i64 2, .int .i64 0, .string s] 33 (0, 0)) := by rw [heap_setCell_same w4 wr.heap.size 2 _ _ _ hp4]; rfl
          have hch5 : Chg (fun k => k = wr.heap.size) w4 (w4.setCell ⟨wr.heap.size, 2, none⟩ (.string s)) := (Chg.refl (fun k => k = wr.heap.size) w4).setCell (p := ⟨wr.heap.size, 2, none⟩) rfl _
          have hst5 := hst4.chg hch5 (fun k hk => by omega)
          have hcw5 : Chg (fun k => k = b) wr (w4.setCell ⟨wr.heap.size, 2, none⟩ (.string s)) := (hcw.trans hc4 (fun _ _ h => h)).trans hch5 (fun i hi h => by omega)
          have hx5 := map_ok (f := fun s : ByteArray => (⟨2, 0, s⟩ : Part)) hx4
          have HS2 : Hid (R2 = mapR (andR (rest (mapR T (fun s : ByteArray => (⟨2, 0, s⟩ : Part)))) (partsP (n - (j + 1)))) (fun X => (D ++ [⟨2, 0, s⟩]) ++ X)) := HS.out.trans (hstep _ hx5)
          rw [rest_map] at HS2
          obtain ⟨⟨p0, p1, p2⟩, pl, pf0, pf1, pf2⟩ := part_cells hp4
          obtain ⟨⟨q0, q1, q2⟩, ql, qf0, qf1, qf2⟩ := part_cells hsp4
          have hown5 := own_chg hown hcw5 (fun k hk => by have := (hown.lt k hk).1; omega)
          have hz5 := hcw5.size
          clear cT hstep HS hx5 hx4 hsp hp4 hch5 hsp4
          go_wp2_with (at_builtin; refine wpList_append_lies _ rfl _ _ 28 rfl w.heap.size 33 i0 _ 3 32 Tryd.underlying28 hi hz0 hz1 hz2 rfl (by decide) (.slice oa j oc) j (partCells D) rfl (hown5.alloc _) ⟨w4.heap.size, 0, none⟩ 1 1 [.int .i64 2, .int .i64 0, .string s] rfl rfl (World.news_of_block (cs := #[.int .i64 2, .int .i64 0, .string s]) (t := 33) (fr := (0, 0)) (by have := heap_alloc_new (w4.setCell ⟨wr.heap.size, 2, none⟩ (.string s)) (.cells #[.int .i64 2, .int .i64 0, .string s] 33); simpa using this)) (by simp [Value.oneCell']) (by omega) (by unfold maxLen; omega) (by omega) (by simp; omega) _ rfl ?_; intro g1 cap1 w6 hown6 hgr6 hat6 hlt6)
          go_roundw
          case rel =>
            have hc6 : Chg (fun k => (Value.slice oa j oc).ownBlock = some k) (w4.setCell ⟨wr.heap.size, 2, none⟩ (.string s)) w6 := ((Chg.refl _ _).alloc _).grown hgr6 (fun k _ e => e)
            refine ⟨j + 1, D ++ [⟨2, 0, s⟩], _, by go_num, hjl, by rw [List.length_append, HDJ.out]; rfl, ?_, hst5.chg hc6 (fun k hk => by have := (hown.lt k hk).1; omega), HS2, ?_, (hch.trans hcw5 (fun _ _ h => h)).trans hc6 (fun i hi h => by have := (hown.lt i h).1; omega)⟩
            · rw [List.length_append, HDJ.out, partCells_append, partCells_one]; exact hown6
            · intro p hp
              rcases List.mem_append.1 hp with hp | hp
              · exact hok p hp
              · rw [List.mem_singleton.1 hp]; exact ⟨by simp, by simp, hs4⟩
          case measure => simp [RowKit.intOf]; omega
        · have g2 : ((kn : Int) == 2) = false := by simp; omega
          have hpp := hpn kn hk2 hx2
          clear hp2 hpn
          have cT := enum_any _ B b l0 _ hst3
          rw [hpp] at hstep
          generalize andR (rest (andR st numP)) numP = T at *
          go_wp2_with fail
          refine cT.mono ?_
          generalize (w2.setCell ⟨wr.heap.size, 0, none⟩ (.int .i64 (kn : Int))) = w3 at *
          rintro r w4 ⟨m, rfl, hm4, hst4, hx4, _, hc4⟩
          have hp4 := hc4.row hsp (by omega)
          have hz4 := hc4.size
          have hz3 := hcw.size
          have hsp4 : (w4.setCell ⟨wr.heap.size, 1, none⟩ (.int .i64 (m : Int))).heap[wr.heap.size]? = some (.cells #[.int .i64 (kn : Int), .int .i64 (m : Int), .string ⟨#[]⟩] 33 (0, 0)) := by rw [heap_setCell_same w4 wr.heap.size 1 _ _ _ hp4]; rfl
          have hch5 : Chg (fun k => k = wr.heap.size) w4 (w4.setCell ⟨wr.heap.size, 1, none⟩ (.int .i64 (m : Int))) := (Chg.refl (fun k => k = wr.heap.size) w4).setCell (p := ⟨wr.heap.size, 1, none⟩) rfl _
          have hst5 := hst4.chg hch5 (fun k hk => by omega)
          have hcw5 : Chg (fun k => k = b) wr (w4.setCell ⟨wr.heap.size, 1, none⟩ (.int .i64 (m : Int))) := (hcw.trans hc4 (fun _ _ h => h)).trans hch5 (fun i hi h => by omega)
          have hx5 := map_ok (f := (fun m : Nat => (⟨(kn : Int), (m : Int), ByteArray.empty⟩ : Part))) hx4
          have HS2 : Hid (R2 = mapR (andR (rest (mapR T (fun m : Nat => (⟨(kn : Int), (m : Int), ByteArray.empty⟩ : Part)))) (partsP (n - (j + 1)))) (fun X => (D ++ [⟨(kn : Int), (m : Int), ByteArray.empty⟩]) ++ X)) := HS.out.trans (hstep _ hx5)
          rw [rest_map] at HS2
          obtain ⟨⟨p0, p1, p2⟩, pl, pf0, pf1, pf2⟩ := part_cells hp4
          obtain ⟨⟨q0, q1, q2⟩, ql, qf0, qf1, qf2⟩ := part_cells hsp4
          have hown5 := own_chg hown hcw5 (fun k hk => by have := (hown.lt k hk).1; omega)
          have hz5 := hcw5.size
          clear cT hstep HS hx5 hx4 hsp hp4 hch5 hsp4
          go_wp2_with (at_builtin; refine wpList_append_lies _ rfl _ _ 28 rfl w.heap.size 33 i0 _ 3 32 Tryd.underlying28 hi hz0 hz1 hz2 rfl (by decide) (.slice oa j oc) j (partCells D) rfl (hown5.alloc _) ⟨w4.heap.size, 0, none⟩ 1 1 [.int .i64 (kn : Int), .int .i64 (m : Int), .string ⟨#[]⟩] rfl rfl (World.news_of_block (cs := #[.int .i64 (kn : Int), .int .i64 (m : Int), .string ⟨#[]⟩]) (t := 33) (fr := (0, 0)) (by have := heap_alloc_new (w4.setCell ⟨wr.heap.size, 1, none⟩ (.int .i64 (m : Int))) (.cells #[.int .i64 (kn : Int), .int .i64 (m : Int), .string ⟨#[]⟩] 33); simpa using this)) (by simp [Value.oneCell']) (by omega) (by unfold maxLen; omega) (by omega) (by simp; omega) _ rfl ?_; intro g1 cap1 w6 hown6 hgr6 hat6 hlt6)
          go_roundw
          case rel =>
            have hc6 : Chg (fun k => (Value.slice oa j oc).ownBlock = some k) (w4.setCell ⟨wr.heap.size, 1, none⟩ (.int .i64 (m : Int))) w6 := ((Chg.refl _ _).alloc _).grown hgr6 (fun k _ e => e)
            refine ⟨j + 1, D ++ [⟨(kn : Int), (m : Int), ByteArray.empty⟩], _, by go_num, hjl, by rw [List.length_append, HDJ.out]; rfl, ?_, hst5.chg hc6 (fun k hk => by have := (hown.lt k hk).1; omega), HS2, ?_, (hch.trans hcw5 (fun _ _ h => h)).trans hc6 (fun i hi h => by have := (hown.lt i h).1; omega)⟩
            · rw [List.length_append, HDJ.out, partCells_append, partCells_one]; exact hown6
            · intro p hp
              rcases List.mem_append.1 hp with hp | hp
              · exact hok p hp
              · rw [List.mem_singleton.1 hp]; exact ⟨by simp only; omega, by simp only; omega, by simp⟩
          case measure => simp [RowKit.intOf]; omega
      · have g : (er == 0) = false := by simpa using her
        obtain ⟨e1, e2⟩ := parts_end (n - j) (.error er) D (.inr ⟨er, rfl⟩)
        rw [← HS.out] at e1 e2
        have HE1 : Hid (rest R2 = .error er) := e1
        clear HS e1
        go_wp2_with fail
        go_ret
        exact ⟨_, D, rfl, by rw [HDJ.out]; exact hown, by rw [HE1.out]; exact hst, e2, by rw [HDJ.out]; omega, hok, hch⟩
    · obtain rfl : j = n := by omega
      obtain ⟨e1, e2⟩ := parts_end (j - j) st D (.inl (by omega))
      rw [← HS.out] at e1 e2
      have HE1 : Hid (rest R2 = st) := e1
      clear HS e1
      go_wp2_with fail
      go_ret
      exact ⟨_, D, rfl, by rw [HDJ.out]; exact hown, by rw [HE1.out]; exact hst, e2, by rw [HDJ.out]; omega, hok, hch⟩

end Go.Proofs.YtknjnfknalfbdaaDoor
