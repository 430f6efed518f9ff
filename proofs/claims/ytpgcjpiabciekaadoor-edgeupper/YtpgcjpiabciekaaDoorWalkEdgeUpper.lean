/-
  Walk: wherrykeep.EdgeUpper.
-/
import Derived.Test.YtpgcjpiabciekaaDoorKEdge
import Derived.Test.YtpgcjpiabciekaaDoorKTrans
import Derived.Test.YtpgcjpiabciekaaDoorKHere
import Derived.Test.YtpgcjpiabciekaaDoorEdgeHearAll
import Derived.Deep.RegionHeld3
import Derived.Lib.QuietBelow
namespace Go.Proofs.YtpgcjpiabciekaaDoor
open Go.RowKit Go.Lib Go.Sort

theorem cp_small {r : Nat} (h : r < 128) : CP r := by unfold CP; omega
theorem cp_append {a b : List Nat} (ha : ∀ r ∈ a, CP r) (hb : ∀ r ∈ b, CP r) : ∀ r ∈ a ++ b, CP r := fun r hr => by
  rcases List.mem_append.1 hr with h | h
  · exact ha r h
  · exact hb r h
theorem cp_one {r : Nat} (h : r < 128) : ∀ x ∈ [r], CP x := fun x hx => by
  rw [List.mem_singleton] at hx
  rw [hx]
  exact cp_small h
theorem heap_lt' {w : World} {k : Nat} {o : Obj} (h : w.heap[k]? = some o) : k < w.heap.size := (Array.getElem?_eq_some_iff.1 h).1
theorem kept_newU {X W' : World} {cs : Array Value} {T : TypeId} (hb : Below (X.alloc (.cells cs T)).heap.size (X.alloc (.cells cs T)) W') : W'.heap[X.heap.size]? = some (.cells cs T (0, 0)) := (hb.block _ (by simp)).trans (heap_alloc_new X _)
theorem kept_drewU {X W' : World} {cs : Array Value} {T : TypeId} (hb : Below (X.alloc (.cells cs T)).drew.heap.size (X.alloc (.cells cs T)).drew W') : W'.heap[X.heap.size]? = some (.cells cs T (0, 0)) := (hb.block X.heap.size (show X.heap.size < (X.alloc (.cells cs T)).heap.size by simp)).trans (heap_alloc_new X _)
theorem kept_moreU {W W' : World} {b : Nat} {o : Obj} (h : W.heap[b]? = some o) (hb : Below W.heap.size W W') : W'.heap[b]? = some o := (hb.block _ (Array.getElem?_eq_some_iff.1 h).1).trans h
theorem OpS.stored {w w' : World} {B : Nat} {v : Value} {A : List Step} {b : Nat} {cs : Array Value} {T : TypeId} (h : OpS w B v A) (hb : w.heap[b]? = some (.cells cs T (0, 0))) (hT : T ≠ 102) (hc : Chg (fun k => k = b) w w') : OpS w' B v A :=
  ⟨own_chg h.own hc (fun k hk e => row_ne h.own hb hT (by rw [← e]; exact hk.symm)), h.ok, h.canon⟩
theorem with_post {P : Program} {c : Code} {E : Exit → Act → World → Prop} {st : Act} {w : World} (h : ∀ E' : Exit → Act → World → Prop, Hid (E' = E) → Code.wp P c E' st w) : Code.wp P c E st w := h E rfl
/-- the first operation is sent -/
theorem upSend (A : List Step) (u : Value) (w : World) (B : Nat) (oA : OpS w B u A) (h1 : A.length ≤ 4000) (hT : Tabs w) :
    Calls Tryd.prog 14 #[.agg #[.int .i64 0, .int .i64 0, .slice none 0 0], u] w fun e w' => ∃ a c us, e = .returned (.tuple #[.agg #[.int .i64 1, .int .i64 0, .slice a 1 c], .int .i64 0]) ∧ RowOps w' w.heap.size (.slice a 1 c) [group A] us ∧ Below w.heap.size w w' := by
  have := send_own 0 0 [] [] none 0 (group A) u w (pend_nil w) (fun _ h => by cases h) (by simp) (by omega) oA.val (group_small oA.ok h1) hT (send_first A oA.ok h1)
  refine this.mono ?_
  rintro e w' ⟨a, c, rfl, ⟨us, hr⟩, hb⟩
  exact ⟨a, c, us, rfl, hr, hb⟩
theorem hear_one0 (A C : List Step) (hA : StepsOk A) (hC : StepsOk C) (h1 : A.length ≤ 4000) (h2 : C.length ≤ 4000) : hearErr 1 0 [group A] (group C) 0 = 0 := by
  have e : edgeErr 1 0 [group A] = 0 := by
    unfold edgeErr edgeOkB pendOkB pendOkB
    rw [(group_ok hA h1).err]
    simp [fitsB]
  unfold hearErr edgeBoth
  rw [e, (group_ok hC h2).err]
  simp
theorem trans_err0 (A C : List Step) (oA : StepsOk A) (oC : StepsOk C) (cA : steps (group A) = A) (cC : steps (group C) = C) (hl : A.length + C.length ≤ 4000) (he : oldN A = oldN C) : transErr (group A) (group C) = 0 ∧ transU (group A) (group C) = group (xf A C).1 ∧ transV (group A) (group C) = group (xf A C).2 := by
  have hok := xf_ok A C oA oC
  have hle := xf_length A C
  have eU : xU (group A) (group C) = group (xf A C).1 := by unfold xU; rw [cA, cC]
  have eV : xV (group A) (group C) = group (xf A C).2 := by unfold xV; rw [cA, cC]
  have hE : transErr (group A) (group C) = 0 := by
    unfold transErr
    rw [both_ok oA oC (by omega) (by omega), group_lens oA (by omega), group_lens oC (by omega), eU, eV, both_ok hok.1 hok.2 (by omega) (by omega), he]
    simp
  exact ⟨hE, by unfold transU; rw [hE, eU]; simp, by unfold transV; rw [hE, eV]; simp⟩
/-- what is told to the upper side (the own operation is the first one), and to the lower side -/
theorem upHear (A C : List Step) (v : Value) (a : Option Addr) (c : Nat) (us : List Value) (B B' : Nat) (w : World) (hp : RowOps w B' (.slice a 1 c) [group A] us) (oA : StepsOk A) (cA : steps (group A) = A) (oC : OpS w B v C) (hl : A.length + C.length ≤ 4000) (he : oldN A = oldN C) (hT : Tabs w) :
    Calls Tryd.prog 17 #[.agg #[.int .i64 1, .int .i64 0, .slice a 1 c], v, .int .i64 0, .bool true] w fun e w' => ∃ x a' tv Q, OpS w' w.heap.size tv Q ∧ Sim Q (xf A C).2 ∧ e = .returned (.tuple #[.agg #[.int .i64 1, .int .i64 1, .slice x 1 a'], tv, .int .i64 0]) ∧ Below w.heap.size w w' := by
  obtain ⟨t1, t2, t3⟩ := trans_err0 A C oA oC.ok cA oC.canon hl he
  have hok := xf_ok A C oA oC.ok
  have hle := xf_length A C
  have hr : hearRun true ([group A].drop ((0 : Int) - (1 - (([group A] : List (List Part)).length : Int))).toNat) (group C) = (0, [transU (group A) (group C)], transV (group A) (group C)) := by
    show hearRun true [group A] (group C) = _
    unfold hearRun passE
    simp [t1, hearRun, passM, passT]
  refine (hear_any true 1 0 [group A] us a c (group C) v 0 w hp.pend (fun q hq => by rw [List.mem_singleton.1 hq]; exact group_small oA (by omega)) (by simp) oC.val (group_small oC.ok (by omega)) hT (hear_one0 A C oA oC.ok (by omega) (by omega))).mono ?_
  rw [hr, t3]
  rintro e w' ⟨hb, ⟨_, x, a', us', tv, rfl, _, ht⟩ | ⟨h, _⟩⟩
  · obtain ⟨k1, k2⟩ := opS_of ht hok.2 (by omega)
    exact ⟨x, a', tv, _, k1, k2, rfl, hb⟩
  · exact absurd rfl h
theorem loHear (A C : List Step) (v : Value) (a : Option Addr) (c : Nat) (us : List Value) (B B' : Nat) (w : World) (hp : RowOps w B' (.slice a 1 c) [group C] us) (oC : StepsOk C) (cC : steps (group C) = C) (oA : OpS w B v A) (hl : A.length + C.length ≤ 4000) (he : oldN A = oldN C) (hT : Tabs w) :
    Calls Tryd.prog 17 #[.agg #[.int .i64 1, .int .i64 0, .slice a 1 c], v, .int .i64 0, .bool false] w fun e w' => ∃ x a' tv P, OpS w' w.heap.size tv P ∧ Sim P (xf A C).1 ∧ e = .returned (.tuple #[.agg #[.int .i64 1, .int .i64 1, .slice x 1 a'], tv, .int .i64 0]) ∧ Below w.heap.size w w' := by
  obtain ⟨t1, t2, t3⟩ := trans_err0 A C oA.ok oC oA.canon cC hl he
  have hok := xf_ok A C oA.ok oC
  have hle := xf_length A C
  have hr : hearRun false ([group C].drop ((0 : Int) - (1 - (([group C] : List (List Part)).length : Int))).toNat) (group A) = (0, [transV (group A) (group C)], transU (group A) (group C)) := by
    show hearRun false [group C] (group A) = _
    unfold hearRun passE
    simp [t1, hearRun, passM, passT]
  refine (hear_any false 1 0 [group C] us a c (group A) v 0 w hp.pend (fun q hq => by rw [List.mem_singleton.1 hq]; exact group_small oC (by omega)) (by simp) oA.val (group_small oA.ok (by omega)) hT (hear_one0 C A oC oA.ok (by omega) (by omega))).mono ?_
  rw [hr, t2]
  rintro e w' ⟨hb, ⟨_, x, a', us', tv, rfl, _, ht⟩ | ⟨h, _⟩⟩
  · obtain ⟨k1, k2⟩ := opS_of ht hok.1 (by omega)
    exact ⟨x, a', tv, _, k1, k2, rfl, hb⟩
  · exact absurd rfl h

theorem first_pure2 (t : List Nat) (k : Nat) (X Y : List Nat) (h : k ≤ t.length) : applyS (applyS t (hereS t.length k Y)) (xf (hereS t.length k X) (hereS t.length k Y)).1 = t.take k ++ X ++ Y ++ t.drop k := by
  rw [hereS_apply t k Y, hereS_xf _ _ _ _]
  simp only
  rw [applyS_keep]
  have e := applyS_ins (List.replicate Y.length ((1 : Int), (0 : Int)) ++ List.replicate (t.length - k) ((1 : Int), (0 : Int))) X ((t.take k ++ Y ++ t.drop k).drop k)
  show _ ++ applyS _ (X.map (fun r : Nat => ((2 : Int), (r : Int))) ++ _) = _
  rw [e]
  have k1 : (t.take k).length = k := by simp; omega
  have d1 : (t.take k ++ Y ++ t.drop k).drop k = Y ++ t.drop k := by
    rw [List.append_assoc, List.drop_append_of_le_length (by omega), List.drop_of_length_le (by omega), List.nil_append]
  have t1 : (t.take k ++ Y ++ t.drop k).take k = t.take k := by
    rw [List.append_assoc, List.take_append_of_le_length (by omega), List.take_of_length_le (by omega)]
  rw [d1, t1, applyS_keep, List.take_left, List.drop_left, applyS_ends _ _ (by simp)]
  simp

set_option maxRecDepth 100000 in
set_option maxHeartbeats 4000000 in
theorem edgeUpper_walk (s : ByteArray) (i : Int) (v : ByteArray) (z : ByteArray) (w : World) (hs : s.size ≤ 9223372036854775807) (hi : I64 i) (hv : v.size ≤ 9223372036854775807) (hz : z.size ≤ 9223372036854775807) (hT : Tabs w) :
    Calls Tryd.prog 4 #[.string s, .int .i64 i, .string v, .string z] w fun e w' => e = .returned (.bool true) ∧ Below w.heap.size w w' := by
  have HB : Below w.heap.size w w := Below.refl _ _
  go_enter Tryd.func4, Tryd.ntmps4
  go_wp2_with fail
  refine (letters_any s 20 _ hs (by omega)).mono ?_
  rintro e w1 ⟨t, cpt, lht, rfl, hb⟩
  replace HB := below_two HB hb (Nat.le_refl _)
  clear hb
  go_wp2_with fail
  refine (runesCall t _ cpt (by omega)).mono ?_
  rintro e w2 ⟨rfl, hb⟩
  replace HB := below_two HB hb (Nat.le_refl _)
  clear hb
  go_wp2_with fail
  refine (picked_any i ((t.length : Int) + 1) _ hi (by omega) (by omega)).mono ?_
  rintro e w3 ⟨k, hk, rfl, hb⟩
  replace HB := below_two HB hb (Nat.le_refl _)
  clear hb
  go_wp2_with fail
  refine (letters_any v 3 _ hv (by omega)).mono ?_
  rintro e w4 ⟨a, cpa, lha, rfl, hb⟩
  replace HB := below_two HB hb (Nat.le_refl _)
  clear hb
  have hsz := str_le cpa
  have hsum : 1 + (str a).size ≤ 9223372036854775807 := by omega
  have hx : (⟨#[49]⟩ : ByteArray) ++ str a = str (49 :: a) := by rw [show (49 :: a : List Nat) = [49] ++ a from rfl, str_append]; rfl
  go_wp2_with fail
  refine (letters_any z 3 _ hz (by omega)).mono ?_
  rintro e w5 ⟨b, cpb, lhb, rfl, hb⟩
  replace HB := below_two HB hb (Nat.le_refl _)
  clear hb
  have hsz2 := str_le cpb
  have hsum2 : 1 + (str b).size ≤ 9223372036854775807 := by omega
  have hx2 : (⟨#[50]⟩ : ByteArray) ++ str b = str (50 :: b) := by rw [show (50 :: b : List Nat) = [50] ++ b from rfl, str_append]; rfl
  have cX : ∀ r ∈ 49 :: a, CP r := cp_append (cp_one (by omega)) cpa
  have cY : ∀ r ∈ 50 :: b, CP r := cp_append (cp_one (by omega)) cpb
  go_wp2_with fail
  have hkl : k ≤ t.length := by omega
  have lX : (49 :: a).length ≤ 1000 := by simp; omega
  have lY : (50 :: b).length ≤ 1000 := by simp; omega
  obtain ⟨A, hAdef⟩ : ∃ A, A = hereS t.length k (49 :: a) := ⟨_, rfl⟩
  obtain ⟨C, hCdef⟩ : ∃ C, C = hereS t.length k (50 :: b) := ⟨_, rfl⟩
  have lA : A.length ≤ 100 := by rw [hAdef, hereS_len _ _ _ hkl]; simp; omega
  have lC : C.length ≤ 100 := by rw [hCdef, hereS_len _ _ _ hkl]; simp; omega
  have EA : Hid (oldN A = t.length) := by show _ = _; rw [hAdef]; exact hereS_old _ _ _ hkl
  have EC : Hid (oldN C = t.length) := by show _ = _; rw [hCdef]; exact hereS_old _ _ _ hkl
  have HF1 : Hid (applyS (applyS t A) (xf A C).2 = t.take k ++ (49 :: a) ++ (50 :: b) ++ t.drop k) := by show _ = _; rw [hAdef, hCdef]; exact first_pure t k _ _ hkl
  have HF2 : Hid (applyS (applyS t C) (xf A C).1 = t.take k ++ (49 :: a) ++ (50 :: b) ++ t.drop k) := by show _ = _; rw [hAdef, hCdef]; exact first_pure2 t k _ _ hkl
  have HA : Hid (applyS t A = t.take k ++ (49 :: a) ++ t.drop k) := by show _ = _; rw [hAdef]; exact hereS_apply t k _
  have HC : Hid (applyS t C = t.take k ++ (50 :: b) ++ t.drop k) := by show _ = _; rw [hCdef]; exact hereS_apply t k _
  have cH1 : ∀ wx, Calls Tryd.prog 15 #[.int .i64 (t.length : Int), .int .i64 (k : Int), .string (str (49 :: a))] wx fun e w' => ∃ v, e = .returned v ∧ OpS w' wx.heap.size v A ∧ Below wx.heap.size wx w' := fun wx => by rw [hAdef]; exact hereCall t.length k (49 :: a) wx hkl (by omega) cX lX
  have cH2 : ∀ wx, Calls Tryd.prog 15 #[.int .i64 (t.length : Int), .int .i64 (k : Int), .string (str (50 :: b))] wx fun e w' => ∃ v, e = .returned v ∧ OpS w' wx.heap.size v C ∧ Below wx.heap.size wx w' := fun wx => by rw [hCdef]; exact hereCall t.length k (50 :: b) wx hkl (by omega) cY lY
  clear hAdef hCdef
  refine (cH1 _).mono ?_
  rintro e w6 ⟨u, rfl, oA, hb⟩
  replace HB := below_two HB hb (Nat.le_refl _)
  clear hb
  go_wp2_with fail
  refine (upSend A u _ _ oA (by omega) (hT.below HB)).mono ?_
  rintro e w7 ⟨ea, ec, us, rfl, hra, hb⟩
  replace HB := below_two HB hb (Nat.le_refl _)
  clear hb
  have hbA := (Below.refl w7.heap.size w7).alloc (Nat.le_refl _) (.cells #[.int .i64 1, .int .i64 0, .slice ea 1 ec] 26)
  have hEA := heap_alloc_new w7 (.cells #[.int .i64 1, .int .i64 0, .slice ea 1 ec] 26)
  go_wp2_with fail
  refine (cH2 _).mono ?_
  generalize (w7.alloc (.cells #[.int .i64 1, .int .i64 0, .slice ea 1 ec] 26)) = w8 at *
  rintro e w9 ⟨x, rfl, oC, hb⟩
  have hb79 := below_two hbA hb (Nat.le_refl _)
  replace HB := below_two HB hb79 (Nat.le_refl _)
  replace hra := hra.below hb79
  replace hEA := (hb.block _ (heap_lt' hEA)).trans hEA
  clear hb hbA hb79
  go_wp2_with fail
  refine (upSend C x _ _ oC (by omega) (hT.below HB)).mono ?_
  rintro e w10 ⟨fa, fc, vs, rfl, hrc, hb⟩
  replace HB := below_two HB hb (Nat.le_refl _)
  replace hra := hra.below hb
  replace hEA := (hb.block _ (heap_lt' hEA)).trans hEA
  clear hb
  have hbA := (Below.refl w10.heap.size w10).alloc (Nat.le_refl _) (.cells #[.int .i64 1, .int .i64 0, .slice fa 1 fc] 26)
  have hEB := heap_alloc_new w10 (.cells #[.int .i64 1, .int .i64 0, .slice fa 1 fc] 26)
  replace hEA := row_old hEA (.cells #[.int .i64 1, .int .i64 0, .slice fa 1 fc] 26)
  replace HB := below_two HB hbA (Nat.le_refl _)
  replace hra := hra.below hbA
  replace hrc := hrc.below hbA
  clear hbA
  obtain ⟨a0, al0, _⟩ := blk hEA
  have bl0 := heap_lt' hEB
  have OKA := oA.ok
  have CNA : Hid (steps (group A) = A) := oA.canon
  have OKC := oC.ok
  have CNC : Hid (steps (group C) = C) := oC.canon
  clear oA oC
  go_wp2_with fail
  generalize (w10.alloc (.cells #[.int .i64 1, .int .i64 0, .slice fa 1 fc] 26)) = w11 at *
  have cU := fun (wx : World) (y : Value) (B : Nat) (hx : Below w11.heap.size w11 wx) (oY : OpS wx B y C) => upHear A C y ea ec us B _ wx (hra.below hx) OKA CNA.out oY (by omega) (EA.out.trans EC.out.symm) (hT.below (below_two HB hx (Nat.le_refl _)))
  have hdd : Below w11.heap.size w11 w11.drew := ⟨rfl, rfl, rfl, Nat.le_refl _, fun _ _ => rfl⟩
  have hS0 : (fun w' => w'.cell? ⟨w7.heap.size, 0, none⟩ = some (.int .i64 1) ∧ w'.cell? ⟨w7.heap.size, 1, none⟩ = some (.int .i64 0) ∧ w'.cell? ⟨w7.heap.size, 2, none⟩ = some (.slice ea 1 ec) ∧ Below w11.heap.size w11 w') w11.drew := ⟨a0 0, a0 1, a0 2, hdd⟩
  have toB : Hid (∀ w', (fun w' => w'.cell? ⟨w7.heap.size, 0, none⟩ = some (.int .i64 1) ∧ w'.cell? ⟨w7.heap.size, 1, none⟩ = some (.int .i64 0) ∧ w'.cell? ⟨w7.heap.size, 2, none⟩ = some (.slice ea 1 ec) ∧ Below w11.heap.size w11 w') w' → Below w11.heap.size w11 w') := fun _ h => h.2.2.2
  have keepB : Hid (∀ {w' w'' : World}, (fun w' => w'.cell? ⟨w7.heap.size, 0, none⟩ = some (.int .i64 1) ∧ w'.cell? ⟨w7.heap.size, 1, none⟩ = some (.int .i64 0) ∧ w'.cell? ⟨w7.heap.size, 2, none⟩ = some (.slice ea 1 ec) ∧ Below w11.heap.size w11 w') w' → Below w11.heap.size w' w'' → (fun w' => w'.cell? ⟨w7.heap.size, 0, none⟩ = some (.int .i64 1) ∧ w'.cell? ⟨w7.heap.size, 1, none⟩ = some (.int .i64 0) ∧ w'.cell? ⟨w7.heap.size, 2, none⟩ = some (.slice ea 1 ec) ∧ Below w11.heap.size w11 w') w'') := fun {w' w''} h hb => ⟨(hb.cell (p := ⟨w7.heap.size, 0, none⟩) al0).trans h.1, (hb.cell (p := ⟨w7.heap.size, 1, none⟩) al0).trans h.2.1, (hb.cell (p := ⟨w7.heap.size, 2, none⟩) al0).trans h.2.2.1, h.2.2.2.trans hb⟩
  have keepC : Hid (∀ {w' w'' : World}, (fun w' => w'.cell? ⟨w7.heap.size, 0, none⟩ = some (.int .i64 1) ∧ w'.cell? ⟨w7.heap.size, 1, none⟩ = some (.int .i64 0) ∧ w'.cell? ⟨w7.heap.size, 2, none⟩ = some (.slice ea 1 ec) ∧ Below w11.heap.size w11 w') w' → Below w'.heap.size w' w'' → (fun w' => w'.cell? ⟨w7.heap.size, 0, none⟩ = some (.int .i64 1) ∧ w'.cell? ⟨w7.heap.size, 1, none⟩ = some (.int .i64 0) ∧ w'.cell? ⟨w7.heap.size, 2, none⟩ = some (.slice ea 1 ec) ∧ Below w11.heap.size w11 w') w'') := fun {w' w''} h hb => keepB.out h ⟨hb.os, hb.tape, hb.output, hb.size, fun k hk => hb.block k (Nat.lt_of_lt_of_le hk h.2.2.2.size)⟩
  have keepA : Hid (∀ {w' : World} (o : Obj), (fun w' => w'.cell? ⟨w7.heap.size, 0, none⟩ = some (.int .i64 1) ∧ w'.cell? ⟨w7.heap.size, 1, none⟩ = some (.int .i64 0) ∧ w'.cell? ⟨w7.heap.size, 2, none⟩ = some (.slice ea 1 ec) ∧ Below w11.heap.size w11 w') w' → (fun w' => w'.cell? ⟨w7.heap.size, 0, none⟩ = some (.int .i64 1) ∧ w'.cell? ⟨w7.heap.size, 1, none⟩ = some (.int .i64 0) ∧ w'.cell? ⟨w7.heap.size, 2, none⟩ = some (.slice ea 1 ec) ∧ Below w11.heap.size w11 w') (w'.alloc o)) := fun {w'} o h => keepC.out h ((Below.refl _ w').alloc (Nat.le_refl _) o)
  have keepD : Hid (∀ {w' : World} (o : Obj), (fun w' => w'.cell? ⟨w7.heap.size, 0, none⟩ = some (.int .i64 1) ∧ w'.cell? ⟨w7.heap.size, 1, none⟩ = some (.int .i64 0) ∧ w'.cell? ⟨w7.heap.size, 2, none⟩ = some (.slice ea 1 ec) ∧ Below w11.heap.size w11 w') w'.drew → (fun w' => w'.cell? ⟨w7.heap.size, 0, none⟩ = some (.int .i64 1) ∧ w'.cell? ⟨w7.heap.size, 1, none⟩ = some (.int .i64 0) ∧ w'.cell? ⟨w7.heap.size, 2, none⟩ = some (.slice ea 1 ec) ∧ Below w11.heap.size w11 w') (w'.alloc o).drew) := fun {w'} o h => keepC.out h ⟨rfl, rfl, rfl, by show w'.heap.size ≤ (w'.alloc o).heap.size; simp, fun k hk => Below.heap_alloc w' o k hk⟩
  have szd : w11.heap.size ≤ w11.drew.heap.size := Nat.le_refl _
  have szd2 : w11.heap.size ≤ w11.heap.size := Nat.le_refl _
  clear a0
  refine with_post ?_
  intro E1 HE1
  have key : Hid (∀ (pn ao1 : Nat) (w12 : World) (xo1 : Option Addr) (tv yo1 : Value) (Q : List Step), Below w11.heap.size w11 w12 → OpS w12 w11.heap.size tv Q → Sim Q (xf A C).2 → E1 Exit.normal { tmps := #[Value.string s, Value.int IntKind.i64 i, Value.string v, Value.string z, undef, undef, undef, undef, Value.bool false, Value.string (str t), Value.int IntKind.i64 (t.length : Int), Value.int IntKind.i64 (k : Int), Value.string (str (49 :: a)), Value.string (str (50 :: b)), Value.pointer (some ⟨w7.heap.size, 0, none⟩), Value.int IntKind.i64 0, Value.pointer (some ⟨w10.heap.size, 0, none⟩), Value.int IntKind.i64 0, Value.pointer (some ⟨pn, 0, none⟩), tv, Value.int IntKind.i64 0, undef, undef, undef, undef, undef, undef, undef, undef, undef, Value.string s, Value.string (str t), Value.string (str t), Value.int IntKind.i64 (t.length : Int), Value.int IntKind.i64 i, Value.int IntKind.i64 (t.length : Int), Value.int IntKind.i64 ((t.length : Int) + 1), Value.int IntKind.i64 (k : Int), Value.string v, Value.string (str a), Value.string (str (49 :: a)), Value.string z, Value.string (str b), Value.string (str (50 :: b)), Value.tuple #[Value.agg #[Value.int IntKind.i64 1, Value.int IntKind.i64 0, Value.slice ea 1 ec], Value.int IntKind.i64 0], Value.agg #[Value.int IntKind.i64 0, Value.int IntKind.i64 0, Value.slice none 0 0], Value.int IntKind.i64 (t.length : Int), Value.int IntKind.i64 (k : Int), Value.string (str (49 :: a)), u, Value.tuple #[Value.agg #[Value.int IntKind.i64 1, Value.int IntKind.i64 0, Value.slice ea 1 ec], Value.int IntKind.i64 0], Value.agg #[Value.int IntKind.i64 1, Value.int IntKind.i64 0, Value.slice ea 1 ec], Value.int IntKind.i64 0, Value.tuple #[Value.agg #[Value.int IntKind.i64 1, Value.int IntKind.i64 0, Value.slice fa 1 fc], Value.int IntKind.i64 0], Value.agg #[Value.int IntKind.i64 0, Value.int IntKind.i64 0, Value.slice none 0 0], Value.int IntKind.i64 (t.length : Int), Value.int IntKind.i64 (k : Int), Value.string (str (50 :: b)), x, Value.tuple #[Value.agg #[Value.int IntKind.i64 1, Value.int IntKind.i64 0, Value.slice fa 1 fc], Value.int IntKind.i64 0], Value.agg #[Value.int IntKind.i64 1, Value.int IntKind.i64 0, Value.slice fa 1 fc], Value.int IntKind.i64 0, Value.tuple #[Value.agg #[Value.int IntKind.i64 1, Value.int IntKind.i64 1, Value.slice xo1 1 ao1], tv, Value.int IntKind.i64 0], Value.agg #[Value.int IntKind.i64 1, Value.int IntKind.i64 0, Value.slice ea 1 ec], Value.int IntKind.i64 (t.length : Int), Value.int IntKind.i64 (k : Int), Value.string (str (50 :: b)), yo1, Value.tuple #[Value.agg #[Value.int IntKind.i64 1, Value.int IntKind.i64 1, Value.slice xo1 1 ao1], tv, Value.int IntKind.i64 0], Value.agg #[Value.int IntKind.i64 1, Value.int IntKind.i64 1, Value.slice xo1 1 ao1], tv, Value.int IntKind.i64 0, undef, undef, undef, undef, undef, undef, undef, undef, undef, undef, undef, undef, undef, undef, undef, undef, undef, undef, undef, undef, undef, undef, undef, undef, undef, undef, undef, undef, undef, undef, undef, undef, undef, undef, undef, undef, undef, undef, undef, undef, undef, undef, undef, undef, undef, undef, undef, undef, undef, undef, undef, undef, undef, undef, undef, undef, undef, undef, undef, undef, undef, undef, undef, undef, undef, undef, undef, undef, undef, undef, undef, undef, undef, undef, undef, undef, undef, undef, undef, undef, undef, undef, undef, undef, undef, undef, undef, undef, undef], defers := [] } w12) := by
    as_aux_lemma =>
    intro pn ao1 w12 xo1 tv yo1 Qtv HBW otv stv
    rw [HE1.out]
    have HB12 := below_two HB HBW (Nat.le_refl _)
    have hrc12 := hrc.below HBW
    have hEB12 := (HBW.block _ bl0).trans hEB
    obtain ⟨b0, bl2, _⟩ := blk hEB12
    have cL := fun (wx : World) (y : Value) (B : Nat) (hx : Below w12.heap.size w12 wx) (oY : OpS wx B y A) => loHear A C y fa fc vs B _ wx (hrc12.below hx) OKC CNC.out oY (by omega) (EA.out.trans EC.out.symm) (hT.below (below_two HB12 hx (Nat.le_refl _)))
    obtain ⟨ta, tc, rfl⟩ := own_form otv.own
    clear hS0 toB keepA keepB keepC keepD szd szd2 hdd cU hra HE1 HBW
    go_wp2_with fail
    have hdd : Below w12.heap.size w12 w12.drew := ⟨rfl, rfl, rfl, Nat.le_refl _, fun _ _ => rfl⟩
    have hS0 : (fun w' => w'.cell? ⟨w10.heap.size, 0, none⟩ = some (.int .i64 1) ∧ w'.cell? ⟨w10.heap.size, 1, none⟩ = some (.int .i64 0) ∧ w'.cell? ⟨w10.heap.size, 2, none⟩ = some (.slice fa 1 fc) ∧ Below w12.heap.size w12 w') w12.drew := ⟨b0 0, b0 1, b0 2, hdd⟩
    have toB : Hid (∀ w', (fun w' => w'.cell? ⟨w10.heap.size, 0, none⟩ = some (.int .i64 1) ∧ w'.cell? ⟨w10.heap.size, 1, none⟩ = some (.int .i64 0) ∧ w'.cell? ⟨w10.heap.size, 2, none⟩ = some (.slice fa 1 fc) ∧ Below w12.heap.size w12 w') w' → Below w12.heap.size w12 w') := fun _ h => h.2.2.2
    have keepB : Hid (∀ {w' w'' : World}, (fun w' => w'.cell? ⟨w10.heap.size, 0, none⟩ = some (.int .i64 1) ∧ w'.cell? ⟨w10.heap.size, 1, none⟩ = some (.int .i64 0) ∧ w'.cell? ⟨w10.heap.size, 2, none⟩ = some (.slice fa 1 fc) ∧ Below w12.heap.size w12 w') w' → Below w12.heap.size w' w'' → (fun w' => w'.cell? ⟨w10.heap.size, 0, none⟩ = some (.int .i64 1) ∧ w'.cell? ⟨w10.heap.size, 1, none⟩ = some (.int .i64 0) ∧ w'.cell? ⟨w10.heap.size, 2, none⟩ = some (.slice fa 1 fc) ∧ Below w12.heap.size w12 w') w'') := fun {w' w''} h hb => ⟨(hb.cell (p := ⟨w10.heap.size, 0, none⟩) bl2).trans h.1, (hb.cell (p := ⟨w10.heap.size, 1, none⟩) bl2).trans h.2.1, (hb.cell (p := ⟨w10.heap.size, 2, none⟩) bl2).trans h.2.2.1, h.2.2.2.trans hb⟩
    have keepC : Hid (∀ {w' w'' : World}, (fun w' => w'.cell? ⟨w10.heap.size, 0, none⟩ = some (.int .i64 1) ∧ w'.cell? ⟨w10.heap.size, 1, none⟩ = some (.int .i64 0) ∧ w'.cell? ⟨w10.heap.size, 2, none⟩ = some (.slice fa 1 fc) ∧ Below w12.heap.size w12 w') w' → Below w'.heap.size w' w'' → (fun w' => w'.cell? ⟨w10.heap.size, 0, none⟩ = some (.int .i64 1) ∧ w'.cell? ⟨w10.heap.size, 1, none⟩ = some (.int .i64 0) ∧ w'.cell? ⟨w10.heap.size, 2, none⟩ = some (.slice fa 1 fc) ∧ Below w12.heap.size w12 w') w'') := fun {w' w''} h hb => keepB.out h ⟨hb.os, hb.tape, hb.output, hb.size, fun k hk => hb.block k (Nat.lt_of_lt_of_le hk h.2.2.2.size)⟩
    have keepA : Hid (∀ {w' : World} (o : Obj), (fun w' => w'.cell? ⟨w10.heap.size, 0, none⟩ = some (.int .i64 1) ∧ w'.cell? ⟨w10.heap.size, 1, none⟩ = some (.int .i64 0) ∧ w'.cell? ⟨w10.heap.size, 2, none⟩ = some (.slice fa 1 fc) ∧ Below w12.heap.size w12 w') w' → (fun w' => w'.cell? ⟨w10.heap.size, 0, none⟩ = some (.int .i64 1) ∧ w'.cell? ⟨w10.heap.size, 1, none⟩ = some (.int .i64 0) ∧ w'.cell? ⟨w10.heap.size, 2, none⟩ = some (.slice fa 1 fc) ∧ Below w12.heap.size w12 w') (w'.alloc o)) := fun {w'} o h => keepC.out h ((Below.refl _ w').alloc (Nat.le_refl _) o)
    have keepD : Hid (∀ {w' : World} (o : Obj), (fun w' => w'.cell? ⟨w10.heap.size, 0, none⟩ = some (.int .i64 1) ∧ w'.cell? ⟨w10.heap.size, 1, none⟩ = some (.int .i64 0) ∧ w'.cell? ⟨w10.heap.size, 2, none⟩ = some (.slice fa 1 fc) ∧ Below w12.heap.size w12 w') w'.drew → (fun w' => w'.cell? ⟨w10.heap.size, 0, none⟩ = some (.int .i64 1) ∧ w'.cell? ⟨w10.heap.size, 1, none⟩ = some (.int .i64 0) ∧ w'.cell? ⟨w10.heap.size, 2, none⟩ = some (.slice fa 1 fc) ∧ Below w12.heap.size w12 w') (w'.alloc o).drew) := fun {w'} o h => keepC.out h ⟨rfl, rfl, rfl, by show w'.heap.size ≤ (w'.alloc o).heap.size; simp, fun k hk => Below.heap_alloc w' o k hk⟩
    have szd : w12.heap.size ≤ w12.drew.heap.size := Nat.le_refl _
    have szd2 : w12.heap.size ≤ w12.heap.size := Nat.le_refl _
    clear b0
    refine with_post ?_
    intro E2 HE2
    have key2 : Hid (∀ (qn ao : Nat) (w13 : World) (xo : Option Addr) (pv yo : Value) (Q : List Step), Below w12.heap.size w12 w13 → OpS w13 w12.heap.size pv Q → Sim Q (xf A C).1 → E2 Exit.normal { tmps := #[Value.string s, Value.int IntKind.i64 i, Value.string v, Value.string z, undef, undef, undef, undef, Value.bool false, Value.string (str t), Value.int IntKind.i64 (t.length : Int), Value.int IntKind.i64 (k : Int), Value.string (str (49 :: a)), Value.string (str (50 :: b)), Value.pointer (some ⟨w7.heap.size, 0, none⟩), Value.int IntKind.i64 0, Value.pointer (some ⟨w10.heap.size, 0, none⟩), Value.int IntKind.i64 0, Value.pointer (some ⟨pn, 0, none⟩), Value.slice ta (group Qtv).length tc, Value.int IntKind.i64 0, Value.pointer (some ⟨qn, 0, none⟩), pv, Value.int IntKind.i64 0, undef, undef, undef, undef, undef, undef, Value.string s, Value.string (str t), Value.string (str t), Value.int IntKind.i64 (t.length : Int), Value.int IntKind.i64 i, Value.int IntKind.i64 (t.length : Int), Value.int IntKind.i64 ((t.length : Int) + 1), Value.int IntKind.i64 (k : Int), Value.string v, Value.string (str a), Value.string (str (49 :: a)), Value.string z, Value.string (str b), Value.string (str (50 :: b)), Value.tuple #[Value.agg #[Value.int IntKind.i64 1, Value.int IntKind.i64 0, Value.slice ea 1 ec], Value.int IntKind.i64 0], Value.agg #[Value.int IntKind.i64 0, Value.int IntKind.i64 0, Value.slice none 0 0], Value.int IntKind.i64 (t.length : Int), Value.int IntKind.i64 (k : Int), Value.string (str (49 :: a)), u, Value.tuple #[Value.agg #[Value.int IntKind.i64 1, Value.int IntKind.i64 0, Value.slice ea 1 ec], Value.int IntKind.i64 0], Value.agg #[Value.int IntKind.i64 1, Value.int IntKind.i64 0, Value.slice ea 1 ec], Value.int IntKind.i64 0, Value.tuple #[Value.agg #[Value.int IntKind.i64 1, Value.int IntKind.i64 0, Value.slice fa 1 fc], Value.int IntKind.i64 0], Value.agg #[Value.int IntKind.i64 0, Value.int IntKind.i64 0, Value.slice none 0 0], Value.int IntKind.i64 (t.length : Int), Value.int IntKind.i64 (k : Int), Value.string (str (50 :: b)), x, Value.tuple #[Value.agg #[Value.int IntKind.i64 1, Value.int IntKind.i64 0, Value.slice fa 1 fc], Value.int IntKind.i64 0], Value.agg #[Value.int IntKind.i64 1, Value.int IntKind.i64 0, Value.slice fa 1 fc], Value.int IntKind.i64 0, Value.tuple #[Value.agg #[Value.int IntKind.i64 1, Value.int IntKind.i64 1, Value.slice xo1 1 ao1], Value.slice ta (group Qtv).length tc, Value.int IntKind.i64 0], Value.agg #[Value.int IntKind.i64 1, Value.int IntKind.i64 0, Value.slice ea 1 ec], Value.int IntKind.i64 (t.length : Int), Value.int IntKind.i64 (k : Int), Value.string (str (50 :: b)), yo1, Value.tuple #[Value.agg #[Value.int IntKind.i64 1, Value.int IntKind.i64 1, Value.slice xo1 1 ao1], Value.slice ta (group Qtv).length tc, Value.int IntKind.i64 0], Value.agg #[Value.int IntKind.i64 1, Value.int IntKind.i64 1, Value.slice xo1 1 ao1], Value.slice ta (group Qtv).length tc, Value.int IntKind.i64 0, Value.tuple #[Value.agg #[Value.int IntKind.i64 1, Value.int IntKind.i64 1, Value.slice xo 1 ao], pv, Value.int IntKind.i64 0], Value.agg #[Value.int IntKind.i64 1, Value.int IntKind.i64 0, Value.slice fa 1 fc], Value.int IntKind.i64 (t.length : Int), Value.int IntKind.i64 (k : Int), Value.string (str (49 :: a)), yo, Value.tuple #[Value.agg #[Value.int IntKind.i64 1, Value.int IntKind.i64 1, Value.slice xo 1 ao], pv, Value.int IntKind.i64 0], Value.agg #[Value.int IntKind.i64 1, Value.int IntKind.i64 1, Value.slice xo 1 ao], pv, Value.int IntKind.i64 0, undef, undef, undef, undef, undef, undef, undef, undef, undef, undef, undef, undef, undef, undef, undef, undef, undef, undef, undef, undef, undef, undef, undef, undef, undef, undef, undef, undef, undef, undef, undef, undef, undef, undef, undef, undef, undef, undef, undef, undef, undef, undef, undef, undef, undef, undef, undef, undef, undef, undef, undef, undef, undef, undef, undef, undef, undef, undef, undef, undef, undef, undef, undef, undef, undef, undef, undef, undef, undef, undef, undef, undef, undef, undef, undef, undef, undef, undef, undef], defers := [] } w13) := by
      as_aux_lemma =>
      intro qn ao w13 xo pv yo Qpv HBW opv spv
      rw [HE2.out]
      have HB13 := below_two HB12 HBW (Nat.le_refl _)
      have otv := otv.below HBW
      obtain ⟨pa, pc, rfl⟩ := own_form opv.own
      clear hS0 toB keepA keepB keepC keepD szd szd2 hdd cL HE2 hrc12 hEB12 HBW
      obtain ⟨n1, n2, n3⟩ := xf_counts A C OKA OKC (EA.out.trans EC.out.symm)
      have hle := xf_length A C
      have hQl := stv.len
      have hPl := spv.len
      have LQ : Qtv.length ≤ 4000 := by omega
      have LP : Qpv.length ≤ 4000 := by omega
      have OQ : Hid (oldN Qtv = (applyS t A).length) := by show _ = _; rw [stv.olds, n2, applyS_len A t OKA EA.out]
      have OP : Hid (oldN Qpv = (applyS t C).length) := by show _ = _; rw [spv.olds, n1, applyS_len C t OKC EC.out]
      have AC1 := applyS_ok OKA cpt
      have AC2 := applyS_ok OKC cpt
      have S1 : Hid (str (applyS (applyS t A) Qtv) = str (t.take k) ++ str (49 :: a) ++ str (50 :: b) ++ str (t.drop k)) := by show _ = _; rw [(stv.apply _).trans HF1.out, str_append, str_append, str_append]
      have S2 : Hid (str (applyS (applyS t C) Qpv) = str (t.take k) ++ str (49 :: a) ++ str (50 :: b) ++ str (t.drop k)) := by show _ = _; rw [(spv.apply _).trans HF2.out, str_append, str_append, str_append]
      have S3 : Hid (str (applyS t A) = str (t.take k) ++ str (49 :: a) ++ str (t.drop k)) := by show _ = _; rw [HA.out, str_append, str_append]
      have S4 : Hid (str (applyS t C) = str (t.take k) ++ str (50 :: b) ++ str (t.drop k)) := by show _ = _; rw [HC.out, str_append, str_append]
      clear n1 n2 n3 hle hQl hPl stv spv
      have ct1 : ∀ r ∈ t.take k, CP r := fun r hr => cpt r (List.mem_of_mem_take hr)
      have ct2 : ∀ r ∈ t.drop k, CP r := fun r hr => cpt r (List.mem_of_mem_drop hr)
      have z1 := str_le ct1
      have z2 := str_le ct2
      have z3 := str_le cX
      have z4 := str_le cY
      simp only [List.length_take, List.length_drop, List.length_cons] at z1 z2 z3 z4
      have b1 : (str (t.take k)).size ≤ 1000 := by omega
      have b2 : (str (t.drop k)).size ≤ 1000 := by omega
      have b3 : (str (49 :: a)).size ≤ 1000 := by omega
      have b4 : (str (50 :: b)).size ≤ 1000 := by omega
      clear z1 z2 z3 z4 hsz hsz2 hsum hsum2 hx hx2 ct1 ct2 cX cY
      have hcv := conv_runes (str t) (by have := str_fits cpt (by omega); omega)
      have hrs := runes_str cpt
      rw [hrs] at hcv
      go_wp2_with fail
      have hcapg := grownCap_ge w13 t.length 0 21
      generalize grownCap w13 t.length 0 21 = cp at *
      have hG : (w13.alloc (Obj.cells (runeRow (str t) cp) 21)).drew.heap[w13.heap.size]? = some (.cells (runeRow (str t) cp) 21 (0, 0)) := heap_alloc_new w13 _
      have hbw : Below w13.heap.size w13 (w13.alloc (Obj.cells (runeRow (str t) cp) 21)).drew := ((Below.refl _ _).alloc (Nat.le_refl _) _).drew
      have HB14 := below_two HB13 hbw (Nat.le_refl _)
      have otv := otv.below hbw
      have opv := opv.below hbw
      clear hbw hcv HB13
      generalize (w13.alloc (Obj.cells (runeRow (str t) cp) 21)).drew = w14 at *
      generalize w13.heap.size = G at *
      have hk0 : (0 : Int) ≤ (k : Int) := by omega
      have hk1 : (k : Int) ≤ (cp : Int) := by omega
      have hk2 : (k : Int) ≤ (t.length : Int) := by omega
      have hcv1 : ∀ wx, Below w14.heap.size w14 wx → (convert 39 9 (.slice (some ⟨G, 0, none⟩) k cp)).run Tryd.prog wx = .ok (.string (str (t.take k))) wx := fun wx hx => by
        have := conv_part wx (str t) cp G 0 k cp ((hx.block G (heap_lt' hG)).trans hG) (by rw [hrs]; omega)
        rw [hrs, List.drop_zero] at this
        exact this
      have hcv2 : cp ≠ k → ∀ wx, Below w14.heap.size w14 wx → (convert 39 9 (.slice (some ⟨G, k, none⟩) (t.length - k) (cp - k))).run Tryd.prog wx = .ok (.string (str (t.drop k))) wx := fun _ wx hx => by
        have := conv_part wx (str t) cp G k (t.length - k) (cp - k) ((hx.block G (heap_lt' hG)).trans hG) (by rw [hrs]; omega)
        rw [hrs, List.take_of_length_le (by simp)] at this
        exact this
      have hcv3 : cp = k → ∀ wx, Below w14.heap.size w14 wx → (convert 39 9 (.slice (some ⟨G, 0, none⟩) 0 0)).run Tryd.prog wx = .ok (.string (str (t.drop k))) wx := fun hck wx hx => by
        have := conv_part wx (str t) cp G 0 0 0 ((hx.block G (heap_lt' hG)).trans hG) (by omega)
        rw [List.drop_of_length_le (by omega)]
        simpa using this
      have cA1 : ∀ wx, Below w14.heap.size w14 wx → Calls Tryd.prog 19 #[.string (str (t.take k) ++ str (49 :: a) ++ str (t.drop k)), .slice ta (group Qtv).length tc] wx fun e w' => e = .returned (.tuple #[.string (str (t.take k) ++ str (49 :: a) ++ str (50 :: b) ++ str (t.drop k)), .int .i64 0]) ∧ Below wx.heap.size wx w' := fun wx hx => by
        have := applyCall (applyS t A) Qtv _ _ wx AC1 (otv.below hx) LQ OQ.out (hT.below (below_two HB14 hx (Nat.le_refl _)))
        rw [S1.out, S3.out] at this
        exact this
      have cA2 : ∀ wx, Below w14.heap.size w14 wx → Calls Tryd.prog 19 #[.string (str (t.take k) ++ str (50 :: b) ++ str (t.drop k)), .slice pa (group Qpv).length pc] wx fun e w' => e = .returned (.tuple #[.string (str (t.take k) ++ str (49 :: a) ++ str (50 :: b) ++ str (t.drop k)), .int .i64 0]) ∧ Below wx.heap.size wx w' := fun wx hx => by
        have := applyCall (applyS t C) Qpv _ _ wx AC2 (opv.below hx) LP OP.out (hT.below (below_two HB14 hx (Nat.le_refl _)))
        rw [S2.out, S4.out] at this
        exact this
      obtain ⟨X, HX⟩ : ∃ X, Hid (X = str (49 :: a)) := ⟨_, rfl⟩
      obtain ⟨Y, HY⟩ : ∃ Y, Hid (Y = str (50 :: b)) := ⟨_, rfl⟩
      obtain ⟨T1, HT1⟩ : ∃ T1, Hid (T1 = str (t.take k)) := ⟨_, rfl⟩
      obtain ⟨T2, HT2⟩ : ∃ T2, Hid (T2 = str (t.drop k)) := ⟨_, rfl⟩
      rw [← HX.out, ← HY.out]
      rw [← HX.out, ← HY.out, ← HT1.out, ← HT2.out] at cA1 cA2
      rw [← HT1.out] at hcv1 b1
      rw [← HT2.out] at hcv2 hcv3 b2
      rw [← HX.out] at b3
      rw [← HY.out] at b4
      clear otv opv hG hrs AC1 AC2 LQ LP
      have ad1 : ∀ wx, (Op.stringOp .add T1 X).run Tryd.prog wx = .ok (.string (T1 ++ X)) wx := fun wx => run_string_add_sum wx T1 X (by omega)
      have ad2 : ∀ wx, (Op.stringOp .add (T1 ++ X) T2).run Tryd.prog wx = .ok (.string (T1 ++ X ++ T2)) wx := fun wx => run_string_add_sum wx (T1 ++ X) T2 (by rw [ByteArray.size_append]; omega)
      have ad3 : ∀ wx, (Op.stringOp .add T1 Y).run Tryd.prog wx = .ok (.string (T1 ++ Y)) wx := fun wx => run_string_add_sum wx T1 Y (by omega)
      have ad4 : ∀ wx, (Op.stringOp .add (T1 ++ Y) T2).run Tryd.prog wx = .ok (.string (T1 ++ Y ++ T2)) wx := fun wx => run_string_add_sum wx (T1 ++ Y) T2 (by rw [ByteArray.size_append]; omega)
      have ad5 : ∀ wx, (Op.stringOp .add (T1 ++ X) Y).run Tryd.prog wx = .ok (.string (T1 ++ X ++ Y)) wx := fun wx => run_string_add_sum wx (T1 ++ X) Y (by rw [ByteArray.size_append]; omega)
      have ad6 : ∀ wx, (Op.stringOp .add (T1 ++ X ++ Y) T2).run Tryd.prog wx = .ok (.string (T1 ++ X ++ Y ++ T2)) wx := fun wx => run_string_add_sum wx (T1 ++ X ++ Y) T2 (by rw [ByteArray.size_append, ByteArray.size_append]; omega)
      clear b1 b2 b3 b4
      by_cases hck : cp = k
      · have hcv0 := hcv3 hck
        have hkt : t.length = k := by omega
        clear hcv2 hcv3
        subst hck
        obtain rfl : t.length = cp := by omega
        have hdd : Below w14.heap.size w14 w14.drew := ⟨rfl, rfl, rfl, Nat.le_refl _, fun _ _ => rfl⟩
        have mk : Hid (∀ w', Below w14.heap.size w14 w' → (fun w' => (convert 39 9 (.slice (some ⟨G, 0, none⟩) t.length t.length)).run Tryd.prog w' = .ok (.string T1) w' ∧ (convert 39 9 (.slice (some ⟨G, 0, none⟩) 0 0)).run Tryd.prog w' = .ok (.string T2) w' ∧ Below w14.heap.size w14 w') w') := fun w' h => ⟨hcv1 w' h, hcv0 w' h, h⟩
        have toB : Hid (∀ w', (fun w' => (convert 39 9 (.slice (some ⟨G, 0, none⟩) t.length t.length)).run Tryd.prog w' = .ok (.string T1) w' ∧ (convert 39 9 (.slice (some ⟨G, 0, none⟩) 0 0)).run Tryd.prog w' = .ok (.string T2) w' ∧ Below w14.heap.size w14 w') w' → Below w14.heap.size w14 w') := fun _ h => h.2.2
        have hS0 : (fun w' => (convert 39 9 (.slice (some ⟨G, 0, none⟩) t.length t.length)).run Tryd.prog w' = .ok (.string T1) w' ∧ (convert 39 9 (.slice (some ⟨G, 0, none⟩) 0 0)).run Tryd.prog w' = .ok (.string T2) w' ∧ Below w14.heap.size w14 w') w14.drew := mk.out _ hdd
        clear hcv1 hcv0
        go_wp2_with fail
        go_region_held3 (fun w' => (convert 39 9 (.slice (some ⟨G, 0, none⟩) t.length t.length)).run Tryd.prog w' = .ok (.string T1) w' ∧ (convert 39 9 (.slice (some ⟨G, 0, none⟩) 0 0)).run Tryd.prog w' = .ok (.string T2) w' ∧ Below w14.heap.size w14 w') (with_reducible first | exact hS0 | exact mk.out _ (below_two (toB.out _ (by assumption)) hbz (Nat.le_refl _))) (first | (go_at_call 19; with_reducible refine Calls.mono (cA1 _ (toB.out _ (by assumption))) ?_; rintro e w15 ⟨rfl, hbz⟩))
        have HB15 := toB.out w15 (by assumption)
        have hdd2 : Below w14.heap.size w14 w15.drew := HB15.trans ⟨rfl, rfl, rfl, Nat.le_refl _, fun _ _ => rfl⟩
        have hS2 : (fun w' => (convert 39 9 (.slice (some ⟨G, 0, none⟩) t.length t.length)).run Tryd.prog w' = .ok (.string T1) w' ∧ (convert 39 9 (.slice (some ⟨G, 0, none⟩) 0 0)).run Tryd.prog w' = .ok (.string T2) w' ∧ Below w14.heap.size w14 w') w15.drew := mk.out _ hdd2
        clear hbz hS0
        go_wp2_with fail
        go_region_held3 (fun w' => (convert 39 9 (.slice (some ⟨G, 0, none⟩) t.length t.length)).run Tryd.prog w' = .ok (.string T1) w' ∧ (convert 39 9 (.slice (some ⟨G, 0, none⟩) 0 0)).run Tryd.prog w' = .ok (.string T2) w' ∧ Below w14.heap.size w14 w') (with_reducible first | exact hS2 | exact mk.out _ (below_two (toB.out _ (by assumption)) hbz (Nat.le_refl _))) (first | (go_at_call 19; with_reducible refine Calls.mono (cA2 _ (toB.out _ (by assumption))) ?_; rintro e w16 ⟨rfl, hbz⟩))
        have HB16 := toB.out w16 (by assumption)
        have hdd3 : Below w14.heap.size w14 w16.drew := HB16.trans ⟨rfl, rfl, rfl, Nat.le_refl _, fun _ _ => rfl⟩
        have hS3 : (fun w' => (convert 39 9 (.slice (some ⟨G, 0, none⟩) t.length t.length)).run Tryd.prog w' = .ok (.string T1) w' ∧ (convert 39 9 (.slice (some ⟨G, 0, none⟩) 0 0)).run Tryd.prog w' = .ok (.string T2) w' ∧ Below w14.heap.size w14 w') w16.drew := mk.out _ hdd3
        clear hbz hS2
        go_wp2_with fail
        go_region_held3 (fun w' => (convert 39 9 (.slice (some ⟨G, 0, none⟩) t.length t.length)).run Tryd.prog w' = .ok (.string T1) w' ∧ (convert 39 9 (.slice (some ⟨G, 0, none⟩) 0 0)).run Tryd.prog w' = .ok (.string T2) w' ∧ Below w14.heap.size w14 w') (with_reducible first | exact hS3) (first | (go_at_call 19; with_reducible refine Calls.mono (cA2 _ (toB.out _ (by assumption))) ?_; rintro e w17 ⟨rfl, hbz⟩))
        clear hS3 mk toB cA1 cA2 ad1 ad2 ad3 ad4 ad5 ad6 hdd2 hdd HB15 HB16
        go_wp2_with fail
        go_ret
        exact ⟨rfl, below_two HB14 hdd3 (Nat.le_refl _)⟩
      · have hcv0 := hcv2 hck
        clear hcv2 hcv3
        have hdd : Below w14.heap.size w14 w14.drew := ⟨rfl, rfl, rfl, Nat.le_refl _, fun _ _ => rfl⟩
        have mk : Hid (∀ w', Below w14.heap.size w14 w' → (fun w' => (convert 39 9 (.slice (some ⟨G, 0, none⟩) k cp)).run Tryd.prog w' = .ok (.string T1) w' ∧ (convert 39 9 (.slice (some ⟨G, k, none⟩) (t.length - k) (cp - k))).run Tryd.prog w' = .ok (.string T2) w' ∧ Below w14.heap.size w14 w') w') := fun w' h => ⟨hcv1 w' h, hcv0 w' h, h⟩
        have toB : Hid (∀ w', (fun w' => (convert 39 9 (.slice (some ⟨G, 0, none⟩) k cp)).run Tryd.prog w' = .ok (.string T1) w' ∧ (convert 39 9 (.slice (some ⟨G, k, none⟩) (t.length - k) (cp - k))).run Tryd.prog w' = .ok (.string T2) w' ∧ Below w14.heap.size w14 w') w' → Below w14.heap.size w14 w') := fun _ h => h.2.2
        have hS0 : (fun w' => (convert 39 9 (.slice (some ⟨G, 0, none⟩) k cp)).run Tryd.prog w' = .ok (.string T1) w' ∧ (convert 39 9 (.slice (some ⟨G, k, none⟩) (t.length - k) (cp - k))).run Tryd.prog w' = .ok (.string T2) w' ∧ Below w14.heap.size w14 w') w14.drew := mk.out _ hdd
        clear hcv1 hcv0
        go_wp2_with fail
        go_region_held3 (fun w' => (convert 39 9 (.slice (some ⟨G, 0, none⟩) k cp)).run Tryd.prog w' = .ok (.string T1) w' ∧ (convert 39 9 (.slice (some ⟨G, k, none⟩) (t.length - k) (cp - k))).run Tryd.prog w' = .ok (.string T2) w' ∧ Below w14.heap.size w14 w') (with_reducible first | exact hS0 | exact mk.out _ (below_two (toB.out _ (by assumption)) hbz (Nat.le_refl _))) (first | (go_at_call 19; with_reducible refine Calls.mono (cA1 _ (toB.out _ (by assumption))) ?_; rintro e w15 ⟨rfl, hbz⟩))
        have HB15 := toB.out w15 (by assumption)
        have hdd2 : Below w14.heap.size w14 w15.drew := HB15.trans ⟨rfl, rfl, rfl, Nat.le_refl _, fun _ _ => rfl⟩
        have hS2 : (fun w' => (convert 39 9 (.slice (some ⟨G, 0, none⟩) k cp)).run Tryd.prog w' = .ok (.string T1) w' ∧ (convert 39 9 (.slice (some ⟨G, k, none⟩) (t.length - k) (cp - k))).run Tryd.prog w' = .ok (.string T2) w' ∧ Below w14.heap.size w14 w') w15.drew := mk.out _ hdd2
        clear hbz hS0
        go_wp2_with fail
        go_region_held3 (fun w' => (convert 39 9 (.slice (some ⟨G, 0, none⟩) k cp)).run Tryd.prog w' = .ok (.string T1) w' ∧ (convert 39 9 (.slice (some ⟨G, k, none⟩) (t.length - k) (cp - k))).run Tryd.prog w' = .ok (.string T2) w' ∧ Below w14.heap.size w14 w') (with_reducible first | exact hS2 | exact mk.out _ (below_two (toB.out _ (by assumption)) hbz (Nat.le_refl _))) (first | (go_at_call 19; with_reducible refine Calls.mono (cA2 _ (toB.out _ (by assumption))) ?_; rintro e w16 ⟨rfl, hbz⟩))
        have HB16 := toB.out w16 (by assumption)
        have hdd3 : Below w14.heap.size w14 w16.drew := HB16.trans ⟨rfl, rfl, rfl, Nat.le_refl _, fun _ _ => rfl⟩
        have hS3 : (fun w' => (convert 39 9 (.slice (some ⟨G, 0, none⟩) k cp)).run Tryd.prog w' = .ok (.string T1) w' ∧ (convert 39 9 (.slice (some ⟨G, k, none⟩) (t.length - k) (cp - k))).run Tryd.prog w' = .ok (.string T2) w' ∧ Below w14.heap.size w14 w') w16.drew := mk.out _ hdd3
        clear hbz hS2
        go_wp2_with fail
        go_region_held3 (fun w' => (convert 39 9 (.slice (some ⟨G, 0, none⟩) k cp)).run Tryd.prog w' = .ok (.string T1) w' ∧ (convert 39 9 (.slice (some ⟨G, k, none⟩) (t.length - k) (cp - k))).run Tryd.prog w' = .ok (.string T2) w' ∧ Below w14.heap.size w14 w') (with_reducible first | exact hS3) (first | (go_at_call 19; with_reducible refine Calls.mono (cA2 _ (toB.out _ (by assumption))) ?_; rintro e w17 ⟨rfl, hbz⟩))
        clear hS3 mk toB cA1 cA2 ad1 ad2 ad3 ad4 ad5 ad6 hdd2 hdd HB15 HB16
        go_wp2_with fail
        go_ret
        exact ⟨rfl, below_two HB14 hdd3 (Nat.le_refl _)⟩
    clear HE2
    go_region_held3 (fun w' => w'.cell? ⟨w10.heap.size, 0, none⟩ = some (.int .i64 1) ∧ w'.cell? ⟨w10.heap.size, 1, none⟩ = some (.int .i64 0) ∧ w'.cell? ⟨w10.heap.size, 2, none⟩ = some (.slice fa 1 fc) ∧ Below w12.heap.size w12 w') (with_reducible first | exact hS0 | exact keepD.out _ hS0 | assumption | exact keepC.out (by assumption) hbv | exact keepC.out (by assumption) hby | exact keepA.out _ (by assumption) | exact keepA.out _ hSv | exact keepB.out (by assumption) ((((Below.refl _ _).setCell (by first | exact szy | exact szv | exact szd | exact szd2) _).setCell (by first | exact szy | exact szv | exact szd | exact szd2) _).setCell (by first | exact szy | exact szv | exact szd | exact szd2) _)) (first | (go_at_call 15; with_reducible refine Calls.mono (cH1 _) ?_; rintro e wy ⟨yo, rfl, oY, hby⟩; have szy := Nat.le_trans (toB.out _ (by assumption)).size hby.size; (first | have ny := kept_drewU hby | skip)) | (go_at_call 17; with_reducible refine Calls.mono (cL _ _ _ (toB.out _ (by assumption)) (by first | exact oY | exact oY.below ((Below.refl _ _).alloc (Nat.le_refl _) _))) ?_; rintro e wv ⟨xo, ao, pv, Qpv, opv, spv, rfl, hbv⟩; have hSv := keepC.out (by assumption) hbv; have szv := Nat.le_trans (toB.out _ (by assumption)).size hbv.size; (first | have nv := kept_newU hbv | have nv := kept_moreU ny hbv | skip); (first | (have hnf := blk nv; obtain ⟨n0, nl, nf⟩ := hnf) | skip)))
    · have HBv := toB.out _ hSv
      have hba := (Below.refl wv.heap.size wv).alloc (Nat.le_refl _) (.cells #[.int .i64 1, .int .i64 1, .slice xo 1 ao] 26)
      exact key2.out _ _ _ _ _ _ _ (below_two HBv hba (Nat.le_refl _)) ((opv.below hba).base (by first | exact szy | exact Nat.le_trans szy (Nat.le_refl _) | (have := hby.size; omega))) spv
    · have HBv := toB.out _ hSv
      obtain ⟨hN6, hch⟩ := puts_all nv [.int .i64 1, .int .i64 1, .slice xo 1 ao] rfl
      simp only [puts, Nat.zero_add, Nat.reduceAdd] at hN6 hch
      have HBW := HBv.trans (hch.below (B := w12.heap.size) (fun i e => by omega) HBv.size)
      exact key2.out _ _ _ _ _ _ _ HBW ((opv.stored nv (by decide) hch).base (by first | exact szy | (simp; omega) | (show _ ≤ World.drew _ |>.heap.size; omega))) spv
    · have HBv := toB.out _ hSv
      obtain ⟨hN6, hch⟩ := puts_all nv [.int .i64 1, .int .i64 1, .slice xo 1 ao] rfl
      simp only [puts, Nat.zero_add, Nat.reduceAdd] at hN6 hch
      have HBW := HBv.trans (hch.below (B := w12.heap.size) (fun i e => by omega) HBv.size)
      exact key2.out _ _ _ _ _ _ _ HBW ((opv.stored nv (by decide) hch).base (by first | exact szy | (simp; omega) | (show _ ≤ World.drew _ |>.heap.size; omega))) spv
  clear HE1
  go_region_held3 (fun w' => w'.cell? ⟨w7.heap.size, 0, none⟩ = some (.int .i64 1) ∧ w'.cell? ⟨w7.heap.size, 1, none⟩ = some (.int .i64 0) ∧ w'.cell? ⟨w7.heap.size, 2, none⟩ = some (.slice ea 1 ec) ∧ Below w11.heap.size w11 w') (with_reducible first | exact hS0 | exact keepD.out _ hS0 | assumption | exact keepC.out (by assumption) hbv | exact keepC.out (by assumption) hby | exact keepA.out _ (by assumption) | exact keepA.out _ hSv | exact keepB.out (by assumption) ((((Below.refl _ _).setCell (by first | exact szy | exact szv | exact szd | exact szd2) _).setCell (by first | exact szy | exact szv | exact szd | exact szd2) _).setCell (by first | exact szy | exact szv | exact szd | exact szd2) _)) (first | (go_at_call 15; with_reducible refine Calls.mono (cH2 _) ?_; rintro e wy ⟨yo, rfl, oY, hby⟩; have szy := Nat.le_trans (toB.out _ (by assumption)).size hby.size; (first | have ny := kept_drewU hby | skip)) | (go_at_call 17; with_reducible refine Calls.mono (cU _ _ _ (toB.out _ (by assumption)) (by first | exact oY | exact oY.below ((Below.refl _ _).alloc (Nat.le_refl _) _))) ?_; rintro e wv ⟨xo, ao, tv, Qtv, otv, stv, rfl, hbv⟩; have hSv := keepC.out (by assumption) hbv; have szv := Nat.le_trans (toB.out _ (by assumption)).size hbv.size; (first | have nv := kept_newU hbv | have nv := kept_moreU ny hbv | skip); (first | (have hnf := blk nv; obtain ⟨n0, nl, nf⟩ := hnf) | skip)))
  · have HBv := toB.out _ hSv
    have hba := (Below.refl wv.heap.size wv).alloc (Nat.le_refl _) (.cells #[.int .i64 1, .int .i64 1, .slice xo 1 ao] 26)
    exact key.out _ _ _ _ _ _ _ (below_two HBv hba (Nat.le_refl _)) ((otv.below hba).base (by first | exact szy | exact Nat.le_trans szy (Nat.le_refl _) | (have := hby.size; omega))) stv
  · have HBv := toB.out _ hSv
    obtain ⟨hN6, hch⟩ := puts_all nv [.int .i64 1, .int .i64 1, .slice xo 1 ao] rfl
    simp only [puts, Nat.zero_add, Nat.reduceAdd] at hN6 hch
    have HBW := HBv.trans (hch.below (B := w11.heap.size) (fun i e => by omega) HBv.size)
    exact key.out _ _ _ _ _ _ _ HBW ((otv.stored nv (by decide) hch).base (by first | exact szy | (simp; omega) | (show _ ≤ World.drew _ |>.heap.size; omega))) stv
  · have HBv := toB.out _ hSv
    obtain ⟨hN6, hch⟩ := puts_all nv [.int .i64 1, .int .i64 1, .slice xo 1 ao] rfl
    simp only [puts, Nat.zero_add, Nat.reduceAdd] at hN6 hch
    have HBW := HBv.trans (hch.below (B := w11.heap.size) (fun i e => by omega) HBv.size)
    exact key.out _ _ _ _ _ _ _ HBW ((otv.stored nv (by decide) hch).base (by first | exact szy | (simp; omega) | (show _ ≤ World.drew _ |>.heap.size; omega))) stv

end Go.Proofs.YtpgcjpiabciekaaDoor
