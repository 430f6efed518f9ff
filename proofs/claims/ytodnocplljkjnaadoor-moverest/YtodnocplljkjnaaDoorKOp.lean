/-
  Walks: wherrykeep.op, wherrykeep.Op.
-/
import Derived.Test.YtodnocplljkjnaaDoorKRaws
namespace Go.Proofs.YtodnocplljkjnaaDoor
open Go.RowKit Go.Lib

/-- what is made so far, of so many runes -/
structure Made (n k : Nat) (S : List Step) (left : Nat) : Prop where
  ok : StepsOk S
  olds : oldN S + left = n
  len : S.length + left ≤ n + 4 * k
theorem Made.keep {n k left : Nat} {S : List Step} (h : Made n k S left) (m : Nat) (hm : m ≤ left) : Made n k (S ++ List.replicate m (1, 0)) (left - m) := by
  have h1 := h.olds
  have h2 := h.len
  refine ⟨h.ok.append (.keeps m), ?_, ?_⟩
  · rw [oldN_append, oldN_rep _ _ _ (by decide)]; omega
  · rw [List.length_append, List.length_replicate]; omega
theorem Made.del {n k left : Nat} {S : List Step} (h : Made n k S left) (m : Nat) (hm : m ≤ left) : Made n k (S ++ List.replicate m (3, 0)) (left - m) := by
  have h1 := h.olds
  have h2 := h.len
  refine ⟨h.ok.append (.dels m), ?_, ?_⟩
  · rw [oldN_append, oldN_rep _ _ _ (by decide)]; omega
  · rw [List.length_append, List.length_replicate]; omega
theorem Made.next {n k left : Nat} {S : List Step} (h : Made n k S left) : Made n (k + 1) S left := ⟨h.ok, h.olds, by have := h.len; omega⟩
theorem Made.ins {n k left : Nat} {S : List Step} (h : Made n k S left) {rs : List Nat} (hr : ∀ r ∈ rs, CP r) (hl : rs.length ≤ 4) : Made n (k + 1) (S ++ insS rs) left := by
  have h1 := h.olds
  have h2 := h.len
  refine ⟨h.ok.append (.ins hr), ?_, ?_⟩
  · rw [oldN_append, oldN_ins]; omega
  · have e : (insS rs).length = rs.length := by simp [insS]
    rw [List.length_append, e]; omega

/-- the cells of a raw thing -/
def RawCells (w : World) (b o : Nat) (r : RawV) : Prop :=
  w.cell? ⟨b, o, none⟩ = some (.int .i64 r.kind) ∧ w.cell? ⟨b, o + 1, none⟩ = some (.int .i64 r.a) ∧ w.cell? ⟨b, o + 2, none⟩ = some (.int .i64 r.b) ∧ w.cell? ⟨b, o + 3, none⟩ = some (.int .i64 r.c) ∧ w.cell? ⟨b, o + 4, none⟩ = some (.string r.text)
theorem RawCells.below {w w' : World} {B b o : Nat} {r : RawV} (h : RawCells w b o r) (hb : Below B w w') (hl : b < B) : RawCells w' b o r := by
  have e : ∀ j, w'.cell? ⟨b, j, none⟩ = w.cell? ⟨b, j, none⟩ := fun j => World.cell?_of_block (a := ⟨b, j, none⟩) (hb.block b hl)
  unfold RawCells
  rw [e, e, e, e, e]
  exact h
/-- 'm.left -= k' -/
theorem mason_left {w : World} {B b : Nat} {ov : Value} {D : List Part} {left : Int} (h : MasonAt w B b ov D left) (x : Int) : MasonAt (w.setCell ⟨b, 1, none⟩ (.int .i64 x)) B b ov D x ∧ MasonStep w (w.setCell ⟨b, 1, none⟩ (.int .i64 x)) b ov ov := by
  refine ⟨⟨h.base, ?_, own_set h.own h.blk (by decide) _⟩, ⟨(Chg.refl _ _).setCell (p := ⟨b, 1, none⟩) (.inl rfl) _, Moves.refl _ _⟩⟩
  rw [heap_setCell_same w b 1 _ _ _ h.blk]
  simp
theorem str_small {rs : List Nat} (h : ∀ r ∈ rs, CP r) (hl : rs.length ≤ 4) : (str rs).size ≤ 1000000 := by
  have e1 : (str rs).size = (encs rs).length := by rw [← str_bytes, bytes_len]
  have := encs_le h
  omega

set_option maxRecDepth 100000 in
set_option maxHeartbeats 4000000 in
theorem opRaw_any (n : Nat) (rs : List RawV) (a : Option Addr) (cap : Nat) (w : World) (hr : RawsAt w a rs) (hok : ∀ r ∈ rs, RawOk r) (hlen : rs.length ≤ 9223372036854775807) (hn : n ≤ 3000) :
    Calls Tryd.prog 15 #[.int .i64 (n : Int), .slice a rs.length cap, .func (.func 16) #[] #[]] w fun e w' => ∃ v S, e = .returned v ∧ w'.ownsRow w.heap.size 33 3 v (group S).length (partCells (group S)) ∧ StepsOk S ∧ oldN S = n ∧ S.length ≤ n + 24 ∧ Below w.heap.size w w' ∧ (rs = [] → S = List.replicate n (1, 0)) := by
  go_enter Tryd.func15, Tryd.ntmps15
  go_wp2_with fail
  go_loopw [8] (fun i wr => ∃ (j left : Nat) (S : List Step) (ov : Value), j ≤ 6 ∧ i = .int .i64 j ∧ Made n j S left ∧ MasonAt wr w.heap.size w.heap.size ov (group S) left ∧ Below w.heap.size w wr ∧ (rs = [] → S = [] ∧ left = n)) (fun i _ => 6 - (RowKit.intOf i).toNat)
  case atStart =>
    refine ⟨0, n, [], .slice none 0 0, by omega, rfl, ⟨.nil, by simp [oldN], by simp⟩, ⟨Nat.le_refl _, heap_alloc_new w _, World.ownsRow_nil _ _ _ _⟩, (Below.refl _ _).alloc (Nat.le_refl _) _, fun _ => ⟨rfl, rfl⟩⟩
  case round =>
    obtain ⟨j, left, S, ov, hj, rfl, hmade, hm, hbr, hnil⟩ := hrel
    have hSl := hmade.len
    have hSo := hmade.olds
    have hbz := hbr.size
    by_cases hlt : j < rs.length ∧ j < 6
    · obtain ⟨hj1, hj2⟩ := hlt
      have hj1z : (j : Int) < (rs.length : Int) := by omega
      have hj2z : (j : Int) < 6 := by omega
      rcases hr with rfl | ⟨b, off, rfl, hbl, hcell⟩
      · simp at hj1
      · have hrok := hok _ (List.getElem_mem hj1)
        have hrc : RawCells w b (off + j * 5) rs[j] := hcell j hj1
        have hne : rs ≠ [] := by intro h; simp [h] at hj1
        clear hnil
        generalize rs[j] = r at *
        clear hcell hok
        have hpA := pick_lt r.a 6 (by omega)
        have hpK := pick_lt r.kind 4 (by omega)
        have hpB := pick_lt r.b 2 (by omega)
        obtain ⟨c0, c1⟩ := hm.cells
        have hrc0 := hrc.below hbr hbl
        obtain ⟨r0, r1, r2, r3, r4⟩ := hrc0
        go_wp2_with fail
        go_quiet ((go_at_call 7; refine Calls.quiet_of_same (picked_same r.a 6 _ hrok.a (by omega) (by omega))))
        have hkk : (min (pick r.a 6 : Int) (left : Int)) = ((min (pick r.a 6) left : Nat) : Int) := by omega
        rw [hkk]
        have hk1 : min (pick r.a 6) left ≤ left := Nat.min_le_right _ _
        have hk2 : min (pick r.a 6) left ≤ 6 := by omega
        clear hkk hpA c0 c1 r0 r1 r2 r3 r4
        generalize min (pick r.a 6) left = kk at *
        have hm0 : MasonAt (wr.drewN nq) w.heap.size w.heap.size ov (group S) left := hm.kept (F := fun _ => False) (Chg.drewN (Chg.refl _ _) _) (fun _ _ h => h)
        have hbq : Below w.heap.size w (wr.drewN nq) := hbr.trans ⟨rfl, rfl, rfl, Nat.le_refl _, fun _ _ => rfl⟩
        clear hm hbr
        generalize wr.drewN nq = wq at *
        have hrcq := hrc.below hbq hbl
        have hbqz := hbq.size
        obtain ⟨r0, r1, r2, r3, r4⟩ := hrcq
        have hcase : pick r.kind 4 = 0 ∨ pick r.kind 4 = 1 ∨ pick r.kind 4 = 2 ∨ pick r.kind 4 = 3 := by omega
        rcases hcase with hK | hK | hK | hK
        · have hq : pick r.kind 4 = 0 := hK
          go_wp2_with fail
          refine (picked_same r.kind 4 _ hrok.kind (by omega) (by omega)).mono ?_
          rintro e w1 ⟨rfl, rfl⟩
          go_wp2_with fail
          refine (addK w1 w.heap.size w.heap.size ov S left kk hm0 (by omega) hmade.ok (by omega) (by omega)).mono ?_
          rintro e w2 ⟨rfl, ov2, hm2, hst2⟩
          have hb2 := below_two' hbq hst2 hm0
          have hcl := hm2.cells.2
          have hfz := hm2.frozen 1
          have hrc2 := hrc.below hb2 hbl
          clear r0 r1 r2 r3 r4
          have hmd := hmade.keep kk hk1
          obtain ⟨hm3, hst3⟩ := mason_left hm2 ((left : Int) - kk)
          have hb3 := below_two' hb2 hst3 hm2
          have elft : ((left : Int) - kk) = ((left - kk : Nat) : Int) := by omega
          rw [elft] at hm3 hb3 hst3
          have hrc3 := hrc.below hb3 hbl
          obtain ⟨r0, r1, r2, r3, r4⟩ := hrc3
          go_wp2_with fail
          generalize (w2.setCell ⟨w.heap.size, 1, none⟩ (.int .i64 ((left - kk : Nat) : Int))) = w3 at *
          have hSl2 := hmd.len
          refine (picked_same r.b 2 _ hrok.b (by omega) (by omega)).mono ?_
          rintro e w4 ⟨rfl, rfl⟩
          have hwz := hb3.size
          by_cases hB0 : pick r.b 2 = 0
          · go_wp2_with fail
            refine (opLit_any r _ hrok).mono ?_
            rintro e w5 ⟨ts, h1, h2, rfl, hb5⟩
            have hm5 := hm3.kept' hb5
            have hb35 := below_two hb3 hb5 (Nat.le_refl _)
            have hsz5 := hb35.size
            clear r0 r1 r2 r3 r4
            go_wp2_with fail
            refine (addI w5 w.heap.size w.heap.size ov2 (S ++ List.replicate kk (1, 0)) _ ts hm5 (by omega) hmd.ok (by omega) (str_small h1 h2)).mono ?_
            rintro e w6 ⟨rfl, ov6, hm6, hst6⟩
            have hb6 := below_two' hb35 hst6 hm5
            go_wp2_with fail
            go_roundw
            case rel => exact ⟨j + 1, _, _, ov6, by omega, by go_num, hmd.ins h1 h2, hm6, hb6, fun h => absurd h hne⟩
            case measure => simp [RowKit.intOf]; omega
          · have gB : ((pick r.b 2 : Int) == 0) = false := by simp; omega
            go_wp2_with fail
            go_roundw
            case rel => exact ⟨j + 1, _, _, _, by omega, by go_num, hmd.next, hm3, hb3, fun h => absurd h hne⟩
            case measure => simp [RowKit.intOf]; omega
        · have hq : pick r.kind 4 = 1 := hK
          go_wp2_with fail
          refine (picked_same r.kind 4 _ hrok.kind (by omega) (by omega)).mono ?_
          rintro e w1 ⟨rfl, rfl⟩
          go_wp2_with fail
          refine (addK w1 w.heap.size w.heap.size ov S left kk hm0 (by omega) hmade.ok (by omega) (by omega)).mono ?_
          rintro e w2 ⟨rfl, ov2, hm2, hst2⟩
          have hb2 := below_two' hbq hst2 hm0
          have hcl := hm2.cells.2
          have hfz := hm2.frozen 1
          have hrc2 := hrc.below hb2 hbl
          clear r0 r1 r2 r3 r4
          have hmd := hmade.keep kk hk1
          obtain ⟨hm3, hst3⟩ := mason_left hm2 ((left : Int) - kk)
          have hb3 := below_two' hb2 hst3 hm2
          have elft : ((left : Int) - kk) = ((left - kk : Nat) : Int) := by omega
          rw [elft] at hm3 hb3 hst3
          have hrc3 := hrc.below hb3 hbl
          obtain ⟨r0, r1, r2, r3, r4⟩ := hrc3
          go_wp2_with fail
          generalize (w2.setCell ⟨w.heap.size, 1, none⟩ (.int .i64 ((left - kk : Nat) : Int))) = w3 at *
          have hSl2 := hmd.len
          refine (picked_same r.b 2 _ hrok.b (by omega) (by omega)).mono ?_
          rintro e w4 ⟨rfl, rfl⟩
          have hwz := hb3.size
          by_cases hB0 : pick r.b 2 = 0
          · go_wp2_with fail
            refine (opLit_any r _ hrok).mono ?_
            rintro e w5 ⟨ts, h1, h2, rfl, hb5⟩
            have hm5 := hm3.kept' hb5
            have hb35 := below_two hb3 hb5 (Nat.le_refl _)
            have hsz5 := hb35.size
            clear r0 r1 r2 r3 r4
            go_wp2_with fail
            refine (addI w5 w.heap.size w.heap.size ov2 (S ++ List.replicate kk (1, 0)) _ ts hm5 (by omega) hmd.ok (by omega) (str_small h1 h2)).mono ?_
            rintro e w6 ⟨rfl, ov6, hm6, hst6⟩
            have hb6 := below_two' hb35 hst6 hm5
            go_wp2_with fail
            go_roundw
            case rel => exact ⟨j + 1, _, _, ov6, by omega, by go_num, hmd.ins h1 h2, hm6, hb6, fun h => absurd h hne⟩
            case measure => simp [RowKit.intOf]; omega
          · have gB : ((pick r.b 2 : Int) == 0) = false := by simp; omega
            go_wp2_with fail
            go_roundw
            case rel => exact ⟨j + 1, _, _, _, by omega, by go_num, hmd.next, hm3, hb3, fun h => absurd h hne⟩
            case measure => simp [RowKit.intOf]; omega
        · have hq : pick r.kind 4 = 2 := hK
          go_wp2_with fail
          refine (picked_same r.kind 4 _ hrok.kind (by omega) (by omega)).mono ?_
          rintro e w1 ⟨rfl, rfl⟩
          go_wp2_with fail
          refine (addD w1 w.heap.size w.heap.size ov S left kk hm0 (by omega) hmade.ok (by omega) (by omega)).mono ?_
          rintro e w2 ⟨rfl, ov2, hm2, hst2⟩
          have hb2 := below_two' hbq hst2 hm0
          have hcl := hm2.cells.2
          have hfz := hm2.frozen 1
          have hrc2 := hrc.below hb2 hbl
          clear r0 r1 r2 r3 r4
          have hmd := hmade.del kk hk1
          obtain ⟨hm3, hst3⟩ := mason_left hm2 ((left : Int) - kk)
          have hb3 := below_two' hb2 hst3 hm2
          have elft : ((left : Int) - kk) = ((left - kk : Nat) : Int) := by omega
          rw [elft] at hm3 hb3 hst3
          have hrc3 := hrc.below hb3 hbl
          obtain ⟨r0, r1, r2, r3, r4⟩ := hrc3
          go_wp2_with fail
          generalize (w2.setCell ⟨w.heap.size, 1, none⟩ (.int .i64 ((left - kk : Nat) : Int))) = w3 at *
          have hSl2 := hmd.len
          refine (picked_same r.b 2 _ hrok.b (by omega) (by omega)).mono ?_
          rintro e w4 ⟨rfl, rfl⟩
          have hwz := hb3.size
          by_cases hB0 : pick r.b 2 = 0
          · go_wp2_with fail
            refine (opLit_any r _ hrok).mono ?_
            rintro e w5 ⟨ts, h1, h2, rfl, hb5⟩
            have hm5 := hm3.kept' hb5
            have hb35 := below_two hb3 hb5 (Nat.le_refl _)
            have hsz5 := hb35.size
            clear r0 r1 r2 r3 r4
            go_wp2_with fail
            refine (addI w5 w.heap.size w.heap.size ov2 (S ++ List.replicate kk (3, 0)) _ ts hm5 (by omega) hmd.ok (by omega) (str_small h1 h2)).mono ?_
            rintro e w6 ⟨rfl, ov6, hm6, hst6⟩
            have hb6 := below_two' hb35 hst6 hm5
            go_wp2_with fail
            go_roundw
            case rel => exact ⟨j + 1, _, _, ov6, by omega, by go_num, hmd.ins h1 h2, hm6, hb6, fun h => absurd h hne⟩
            case measure => simp [RowKit.intOf]; omega
          · have gB : ((pick r.b 2 : Int) == 0) = false := by simp; omega
            go_wp2_with fail
            go_roundw
            case rel => exact ⟨j + 1, _, _, _, by omega, by go_num, hmd.next, hm3, hb3, fun h => absurd h hne⟩
            case measure => simp [RowKit.intOf]; omega
        · have hq : pick r.kind 4 = 3 := hK
          go_wp2_with fail
          refine (picked_same r.kind 4 _ hrok.kind (by omega) (by omega)).mono ?_
          rintro e w1 ⟨rfl, rfl⟩
          go_wp2_with fail
          have hSl2 := hmade.len
          refine (picked_same r.b 2 _ hrok.b (by omega) (by omega)).mono ?_
          rintro e w4 ⟨rfl, rfl⟩
          have hwz := hbq.size
          by_cases hB0 : pick r.b 2 = 0
          · go_wp2_with fail
            refine (opLit_any r _ hrok).mono ?_
            rintro e w5 ⟨ts, h1, h2, rfl, hb5⟩
            have hm5 := hm0.kept' hb5
            have hb35 := below_two hbq hb5 (Nat.le_refl _)
            have hsz5 := hb35.size
            clear r0 r1 r2 r3 r4
            go_wp2_with fail
            refine (addI w5 w.heap.size w.heap.size ov (S) _ ts hm5 (by omega) hmade.ok (by omega) (str_small h1 h2)).mono ?_
            rintro e w6 ⟨rfl, ov6, hm6, hst6⟩
            have hb6 := below_two' hb35 hst6 hm5
            go_wp2_with fail
            go_roundw
            case rel => exact ⟨j + 1, _, _, ov6, by omega, by go_num, hmade.ins h1 h2, hm6, hb6, fun h => absurd h hne⟩
            case measure => simp [RowKit.intOf]; omega
          · have gB : ((pick r.b 2 : Int) == 0) = false := by simp; omega
            go_wp2_with fail
            go_roundw
            case rel => exact ⟨j + 1, _, _, _, by omega, by go_num, hmade.next, hm0, hbq, fun h => absurd h hne⟩
            case measure => simp [RowKit.intOf]; omega
    · have hSl3 : S.length ≤ 4000 := by omega
      obtain ⟨c0, c1⟩ := hm.cells
      have hfin := Made.keep hmade left (Nat.le_refl _)
      have hS0 := hfin.olds
      have hS1 := hfin.len
      by_cases hj1 : j < rs.length
      · have hj1z : (j : Int) < (rs.length : Int) := by omega
        obtain rfl : j = 6 := by omega
        go_wp2_with fail
        refine (addK wr w.heap.size w.heap.size ov S left left hm (by omega) hmade.ok (by omega) (by omega)).mono ?_
        rintro e w2 ⟨rfl, ov2, hm2, hst2⟩
        have hb2 := below_two' hbr hst2 hm
        obtain ⟨oa, oc, rfl⟩ := own_form hm2.own
        obtain ⟨d0, d1⟩ := hm2.cells
        go_wp2_with fail
        go_ret
        exact ⟨_, _, rfl, hm2.own, hfin.ok, by omega, by omega, hb2, fun h => by obtain ⟨rfl, rfl⟩ := hnil h; simp⟩
      · have hj1z : ¬ (j : Int) < (rs.length : Int) := by omega
        go_wp2_with fail
        refine (addK wr w.heap.size w.heap.size ov S left left hm (by omega) hmade.ok (by omega) (by omega)).mono ?_
        rintro e w2 ⟨rfl, ov2, hm2, hst2⟩
        have hb2 := below_two' hbr hst2 hm
        obtain ⟨oa, oc, rfl⟩ := own_form hm2.own
        obtain ⟨d0, d1⟩ := hm2.cells
        go_wp2_with fail
        go_ret
        exact ⟨_, _, rfl, hm2.own, hfin.ok, by omega, by omega, hb2, fun h => by obtain ⟨rfl, rfl⟩ := hnil h; simp⟩

set_option maxHeartbeats 1000000 in
theorem op_made (n : Nat) (rs : List RawV) (a : Option Addr) (cap : Nat) (w : World) (hr : RawsAt w a rs) (hok : ∀ r ∈ rs, RawOk r) (hlen : rs.length ≤ 9223372036854775807) (hn : n ≤ 3000) :
    Calls Tryd.prog 8 #[.int .i64 (n : Int), .slice a rs.length cap] w fun e w' => ∃ v S, e = .returned v ∧ w'.ownsRow w.heap.size 33 3 v (group S).length (partCells (group S)) ∧ StepsOk S ∧ oldN S = n ∧ S.length ≤ n + 24 ∧ Below w.heap.size w w' ∧ (rs = [] → S = List.replicate n (1, 0)) := by
  go_enter Tryd.func8, Tryd.ntmps8
  go_wp2_with fail
  refine (opRaw_any n rs a cap w hr hok hlen hn).mono ?_
  rintro e w1 ⟨v, S, rfl, hown, h1, h2, h3, hb, h4⟩
  obtain ⟨oa, oc, rfl⟩ := own_form hown
  go_wp2_with fail
  go_ret
  exact ⟨_, S, rfl, hown, h1, h2, h3, hb, h4⟩

end Go.Proofs.YtodnocplljkjnaaDoor
