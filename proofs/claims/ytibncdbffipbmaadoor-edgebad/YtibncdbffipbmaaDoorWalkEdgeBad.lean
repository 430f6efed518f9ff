/-
  Walk: wherrykeep.EdgeBad.
-/
import Derived.Test.YtibncdbffipbmaaDoorKEdge
namespace Go.Proofs.YtibncdbffipbmaaDoor
open Go.RowKit Go.Lib

/-- two operations in a new row -/
theorem pend_two {w w' : World} {B B' : Nat} {u z : Value} {A C : List Step} (oA : OpS w B u A) (oC : OpS w B' z C) (hb : Below (w.alloc (.cells #[u, z] 24)).heap.size (w.alloc (.cells #[u, z] 24)) w') : PendAt w' (some ⟨w.heap.size, 0, none⟩) 2 [group A, group C] [u, z] := by
  have h0 := (Below.refl w.heap.size w).alloc (Nat.le_refl _) (.cells #[u, z] 24)
  have hB := below_two h0 hb (Nat.le_refl _)
  have hx := (hb.block w.heap.size (by simp)).trans (heap_alloc_new w (.cells #[u, z] 24))
  have hl : w.heap.size < w'.heap.size := (Array.getElem?_eq_some_iff.1 hx).1
  refine ⟨rfl, Nat.le_refl _, .inr ⟨w.heap.size, 0, rfl, hl, fun i hi => ?_⟩, fun i hi hi' => ?_⟩
  · match i, hi with
    | 0, _ => rw [cell_of_row _ _ _ _ _ _ hx]; rfl
    | 1, _ => rw [cell_of_row _ _ _ _ _ _ hx]; rfl
  · match i, hi with
    | 0, _ => exact oA.val.below hB
    | 1, _ => exact oC.val.below hB
theorem err_two (k : Int) (A C : List Step) (hA : StepsOk A) (hC : StepsOk C) (h1 : A.length ≤ 4000) (h2 : C.length ≤ 4000) (hk : 0 ≤ k ∧ k ≤ 1048576) : edgeErr k 0 [group A, group C] = if 2 ≤ k ∧ oldN C = newN A then 0 else 9 := by
  have e : pendOkB [] [group A, group C] = decide (oldN C = newN A) := by
    unfold pendOkB pendOkB pendOkB
    rw [(group_ok hA h1).err, (group_ok hC h2).err, List.nil_append, fits_one A C hA hC h1 h2]
    simp [fitsB]
  unfold edgeErr edgeOkB
  rw [e]
  have d : decide (0 ≤ k ∧ k ≤ 1048576) = true := decide_eq_true hk
  rw [d]
  simp
theorem check_two (k : Int) (A C : List Step) (a : Option Addr) (c : Nat) (us : List Value) (w : World) (hp : PendAt w a c [group A, group C] us) (hA : StepsOk A) (hC : StepsOk C) (h1 : A.length ≤ 4000) (h2 : C.length ≤ 4000) (hk : 0 ≤ k ∧ k ≤ 1048576) (r : Int) (hr : (if 2 ≤ k ∧ oldN C = newN A then 0 else 9) = r) (hT : Tabs w) :
    Calls Tryd.prog 22 #[.agg #[.int .i64 k, .int .i64 0, .slice a 2 c]] w fun e w' => e = .returned (.int .i64 r) ∧ Below w.heap.size w w' := by
  have := edgeCheck_any k 0 [group A, group C] us a c w hp (fun q h => by
    rcases List.mem_cons.1 h with rfl | h
    · exact group_small hA h1
    · rw [List.mem_singleton.1 h]; exact group_small hC h2) (by simp) (by omega) hT
  rw [err_two k A C hA hC h1 h2 hk, hr] at this
  exact this
theorem check_none (w : World) (hT : Tabs w) : Calls Tryd.prog 22 #[.agg #[.int .i64 0, .int .i64 0, .slice none 0 0]] w fun e w' => e = .returned (.int .i64 0) ∧ Below w.heap.size w w' := by
  have := edgeCheck_any 0 0 [] [] none 0 w (pend_nil w) (fun q h => by cases h) (by simp) (by omega) hT
  rw [show edgeErr 0 0 [] = 0 by decide +kernel] at this
  exact this

set_option maxRecDepth 100000 in
set_option maxHeartbeats 2000000 in
theorem edgeBad_walk (s : ByteArray) (l : List RawV) (al : Option Addr) (cl : Nat) (sn n : Int) (w : World) (hs : s.size ≤ 9223372036854775807) (hl : RawsAt w al l) (kl : ∀ r ∈ l, RawOk r) (ll : l.length ≤ 9223372036854775807) (hsn : I64 sn) (hn : I64 n) (hT : Tabs w) :
    Calls Tryd.prog 4 #[.string s, .slice al l.length cl, .int .i64 sn, .int .i64 n] w fun e w' => e = .returned (.bool true) ∧ Below w.heap.size w w' := by
  have HB : Below w.heap.size w w := Below.refl _ _
  go_enter Tryd.func4, Tryd.ntmps4
  go_wp2_with fail
  refine (letters_any s 10 _ hs (by omega)).mono ?_
  rintro e w1 ⟨t, cpt, lht, rfl, hb⟩
  replace HB := below_two HB hb (Nat.le_refl _)
  clear hb
  go_wp2_with fail
  refine (runesCall t _ cpt (by omega)).mono ?_
  rintro e w2 ⟨rfl, hb⟩
  replace HB := below_two HB hb (Nat.le_refl _)
  clear hb
  go_wp2_with fail
  refine (opCall (t.length) l al cl _ (hl.below HB (Nat.le_refl _)) kl ll (by omega)).mono ?_
  rintro e w3 ⟨u, A, rfl, oA, eA, nA, hb, _⟩
  replace HB := below_two HB hb (Nat.le_refl _)
  clear hb
  go_wp2_with fail
  refine (lengthsCall A u _ _ oA (by omega)).mono ?_
  rintro e w4 ⟨rfl, hb⟩
  replace HB := below_two HB hb (Nat.le_refl _)
  replace oA := oA.below hb
  clear hb
  go_wp2_with fail
  have hk := pick_lt sn 4 (by omega)
  have n1 := newN_le A
  refine (picked_same sn 4 _ hsn (by omega) (by omega)).mono ?_
  generalize pick sn 4 = k at *
  rintro e w5 ⟨rfl, rfl⟩
  go_wp2_with fail
  refine (opCall (newN A) [] none 0 _ (.inl rfl) (fun _ h => by cases h) (by simp) (by omega)).mono ?_
  rintro e w6 ⟨z, C, rfl, oC, eC, nC, hb, gC⟩
  replace HB := below_two HB hb (Nat.le_refl _)
  replace oA := oA.below hb
  clear hb gC
  obtain ⟨ua, uc, rfl⟩ := own_form oA.own
  obtain ⟨za, zc, rfl⟩ := own_form oC.own
  go_wp2_with fail
  have hk2 := pick_lt n 5 (by omega)
  refine (picked_same n 5 _ hn (by omega) (by omega)).mono ?_
  generalize pick n 5 = k2 at *
  rintro e w7 ⟨rfl, rfl⟩
  have hb6 := (Below.refl w6.heap.size w6).alloc (Nat.le_refl _) (.cells #[.slice ua (group A).length uc, .slice za (group C).length zc] 24)
  have hb7 := (Below.refl (w6.alloc (.cells #[.slice ua (group A).length uc, .slice za (group C).length zc] 24)).heap.size (w6.alloc (.cells #[.slice ua (group A).length uc, .slice za (group C).length zc] 24))).alloc (Nat.le_refl _) (.cells #[.int .i64 (k : Int), .int .i64 0, .slice (some ⟨w6.heap.size, 0, none⟩) 2 2] 30)
  have px := pend_two oA oC hb7
  have hx := heap_alloc_new (w6.alloc (.cells #[.slice ua (group A).length uc, .slice za (group C).length zc] 24)) (.cells #[.int .i64 (k : Int), .int .i64 0, .slice (some ⟨w6.heap.size, 0, none⟩) 2 2] 30)
  rw [show (w6.alloc (.cells #[.slice ua (group A).length uc, .slice za (group C).length zc] 24)).heap.size = w6.heap.size + 1 by simp] at hx
  have h67 := below_two hb6 hb7 (Nat.le_refl _)
  replace HB := below_two HB h67 (Nat.le_refl _)
  replace oA := oA.below h67
  replace oC := oC.below h67
  generalize hX : ((w6.alloc (.cells #[.slice ua (group A).length uc, .slice za (group C).length zc] 24)).alloc (.cells #[.int .i64 (k : Int), .int .i64 0, .slice (some ⟨w6.heap.size, 0, none⟩) 2 2] 30)) = w7 at *
  clear hb6 hb7 h67 hX
  go_wp2_with fail
  refine (opCall (newN A + 1 + k2) [] none 0 _ (.inl rfl) (fun _ h => by cases h) (by simp) (by omega)).mono ?_
  rintro e w8 ⟨y, D, rfl, oD, eD, nD, hb, gD⟩
  replace HB := below_two HB hb (Nat.le_refl _)
  have hx8 := (hb.block _ (Array.getElem?_eq_some_iff.1 hx).1).trans hx
  replace oA := oA.below hb
  replace oC := oC.below hb
  replace px := px.below hb
  clear hb gD hx
  obtain ⟨ya, yc, rfl⟩ := own_form oD.own
  have hb8 := (Below.refl w8.heap.size w8).alloc (Nat.le_refl _) (.cells #[.slice ua (group A).length uc, .slice ya (group D).length yc] 24)
  have hb9 := (Below.refl (w8.alloc (.cells #[.slice ua (group A).length uc, .slice ya (group D).length yc] 24)).heap.size (w8.alloc (.cells #[.slice ua (group A).length uc, .slice ya (group D).length yc] 24))).alloc (Nat.le_refl _) (.cells #[.int .i64 2, .int .i64 0, .slice (some ⟨w8.heap.size, 0, none⟩) 2 2] 30)
  have py := pend_two oA oD hb9
  have hy := heap_alloc_new (w8.alloc (.cells #[.slice ua (group A).length uc, .slice ya (group D).length yc] 24)) (.cells #[.int .i64 2, .int .i64 0, .slice (some ⟨w8.heap.size, 0, none⟩) 2 2] 30)
  rw [show (w8.alloc (.cells #[.slice ua (group A).length uc, .slice ya (group D).length yc] 24)).heap.size = w8.heap.size + 1 by simp] at hy
  have h89 := below_two hb8 hb9 (Nat.le_refl _)
  replace HB := below_two HB h89 (Nat.le_refl _)
  replace px := px.below h89
  have hx9 := (h89.block _ (Array.getElem?_eq_some_iff.1 hx8).1).trans hx8
  go_wp2_with fail
  generalize hY : ((w8.alloc (.cells #[.slice ua (group A).length uc, .slice ya (group D).length yc] 24)).alloc (.cells #[.int .i64 2, .int .i64 0, .slice (some ⟨w8.heap.size, 0, none⟩) 2 2] 30)) = w9 at *
  clear hb8 hb9 h89 hY hx8
  have hT9 := hT.below HB
  have toS : ∀ w', Below w9.heap.size w9 w' → (fun w' => (w'.cell? ⟨w6.heap.size + 1, 0, none⟩ = some (.int .i64 (k : Int)) ∧ w'.cell? ⟨w6.heap.size + 1, 1, none⟩ = some (.int .i64 0) ∧ w'.cell? ⟨w6.heap.size + 1, 2, none⟩ = some (.slice (some ⟨w6.heap.size, 0, none⟩) 2 2) ∧ w'.cell? ⟨w8.heap.size + 1, 0, none⟩ = some (.int .i64 2) ∧ w'.cell? ⟨w8.heap.size + 1, 1, none⟩ = some (.int .i64 0) ∧ w'.cell? ⟨w8.heap.size + 1, 2, none⟩ = some (.slice (some ⟨w8.heap.size, 0, none⟩) 2 2) ∧ Below w9.heap.size w9 w')) w' := fun w' hb => by
    obtain ⟨q0, q1, q2⟩ := edge_cells ((hb.block _ (Array.getElem?_eq_some_iff.1 hx9).1).trans hx9)
    obtain ⟨q3, q4, q5⟩ := edge_cells ((hb.block _ (Array.getElem?_eq_some_iff.1 hy).1).trans hy)
    exact ⟨q0, q1, q2, q3, q4, q5, hb⟩
  have toB : ∀ w', (w'.cell? ⟨w6.heap.size + 1, 0, none⟩ = some (.int .i64 (k : Int)) ∧ w'.cell? ⟨w6.heap.size + 1, 1, none⟩ = some (.int .i64 0) ∧ w'.cell? ⟨w6.heap.size + 1, 2, none⟩ = some (.slice (some ⟨w6.heap.size, 0, none⟩) 2 2) ∧ w'.cell? ⟨w8.heap.size + 1, 0, none⟩ = some (.int .i64 2) ∧ w'.cell? ⟨w8.heap.size + 1, 1, none⟩ = some (.int .i64 0) ∧ w'.cell? ⟨w8.heap.size + 1, 2, none⟩ = some (.slice (some ⟨w8.heap.size, 0, none⟩) 2 2) ∧ Below w9.heap.size w9 w') → Below w9.heap.size w9 w' := fun _ h => h.2.2.2.2.2.2
  have hS0 := toS w9.drew ⟨rfl, rfl, rfl, Nat.le_refl _, fun _ _ => rfl⟩
  have keepS : ∀ w' w'', (w'.cell? ⟨w6.heap.size + 1, 0, none⟩ = some (.int .i64 (k : Int)) ∧ w'.cell? ⟨w6.heap.size + 1, 1, none⟩ = some (.int .i64 0) ∧ w'.cell? ⟨w6.heap.size + 1, 2, none⟩ = some (.slice (some ⟨w6.heap.size, 0, none⟩) 2 2) ∧ w'.cell? ⟨w8.heap.size + 1, 0, none⟩ = some (.int .i64 2) ∧ w'.cell? ⟨w8.heap.size + 1, 1, none⟩ = some (.int .i64 0) ∧ w'.cell? ⟨w8.heap.size + 1, 2, none⟩ = some (.slice (some ⟨w8.heap.size, 0, none⟩) 2 2) ∧ Below w9.heap.size w9 w') → Below w'.heap.size w' w'' → (fun w' => (w'.cell? ⟨w6.heap.size + 1, 0, none⟩ = some (.int .i64 (k : Int)) ∧ w'.cell? ⟨w6.heap.size + 1, 1, none⟩ = some (.int .i64 0) ∧ w'.cell? ⟨w6.heap.size + 1, 2, none⟩ = some (.slice (some ⟨w6.heap.size, 0, none⟩) 2 2) ∧ w'.cell? ⟨w8.heap.size + 1, 0, none⟩ = some (.int .i64 2) ∧ w'.cell? ⟨w8.heap.size + 1, 1, none⟩ = some (.int .i64 0) ∧ w'.cell? ⟨w8.heap.size + 1, 2, none⟩ = some (.slice (some ⟨w8.heap.size, 0, none⟩) 2 2) ∧ Below w9.heap.size w9 w')) w'' := fun w' w'' h hb => toS w'' (below_two (toB w' h) hb (Nat.le_refl _))
  have cZ : ∀ wx, Below w9.heap.size w9 wx → Calls Tryd.prog 22 #[.agg #[.int .i64 0, .int .i64 0, .slice none 0 0]] wx fun e w' => e = .returned (.int .i64 0) ∧ Below wx.heap.size wx w' := fun wx hb => check_none wx (hT9.below hb)
  have cY : ∀ wx, Below w9.heap.size w9 wx → Calls Tryd.prog 22 #[.agg #[.int .i64 2, .int .i64 0, .slice (some ⟨w8.heap.size, 0, none⟩) 2 2]] wx fun e w' => e = .returned (.int .i64 9) ∧ Below wx.heap.size wx w' := fun wx hb => check_two 2 A D _ 2 _ wx (py.below hb) oA.ok oD.ok (by omega) (by omega) (by omega) 9 (if_neg (by omega)) (hT9.below hb)
  have cX : ∀ r wx, (if (2 : Int) ≤ (k : Int) then 0 else 9) = r → Below w9.heap.size w9 wx → Calls Tryd.prog 22 #[.agg #[.int .i64 (k : Int), .int .i64 0, .slice (some ⟨w6.heap.size, 0, none⟩) 2 2]] wx fun e w' => e = .returned (.int .i64 r) ∧ Below wx.heap.size wx w' := fun r wx hr hb => check_two k A C _ 2 _ wx (px.below hb) oA.ok oC.ok (by omega) (by omega) (by omega) r (by rw [← hr]; by_cases h2 : (2 : Int) ≤ (k : Int); rw [if_pos h2, if_pos (by omega)]; rw [if_neg h2, if_neg (by omega)]) (hT9.below hb)
  clear oA oC oD px py hx9 hy hT hT9 toS
  have hcase : (k : Int) = 0 ∨ (k : Int) = 1 ∨ (k : Int) = 2 ∨ (k : Int) = 3 := by omega
  clear hk
  generalize (k : Int) = kz at *
  rcases hcase with rfl | rfl | rfl | rfl
  · replace cX := fun wx hb => cX 9 wx rfl hb
    go_region_held3 (fun w' => (w'.cell? ⟨w6.heap.size + 1, 0, none⟩ = some (.int .i64 0) ∧ w'.cell? ⟨w6.heap.size + 1, 1, none⟩ = some (.int .i64 0) ∧ w'.cell? ⟨w6.heap.size + 1, 2, none⟩ = some (.slice (some ⟨w6.heap.size, 0, none⟩) 2 2) ∧ w'.cell? ⟨w8.heap.size + 1, 0, none⟩ = some (.int .i64 2) ∧ w'.cell? ⟨w8.heap.size + 1, 1, none⟩ = some (.int .i64 0) ∧ w'.cell? ⟨w8.heap.size + 1, 2, none⟩ = some (.slice (some ⟨w8.heap.size, 0, none⟩) 2 2) ∧ Below w9.heap.size w9 w')) (with_reducible first | exact hS0 | exact keepS _ _ (by assumption) hbz | exact keepS _ _ (by assumption) hby | exact keepS _ _ (by assumption) hbx) (first | (go_at_call 22; with_reducible refine Calls.mono (cX _ (toB _ (by assumption))) ?_; rintro e wz ⟨rfl, hbz⟩) | (go_at_call 22; with_reducible refine Calls.mono (cY _ (toB _ (by assumption))) ?_; rintro e wy ⟨rfl, hby⟩) | (go_at_call 22; with_reducible refine Calls.mono (cZ _ (toB _ (by assumption))) ?_; rintro e wx ⟨rfl, hbx⟩))
    all_goals have HF := toB _ (keepS _ _ (keepS _ _ (keepS _ _ hS0 hbz) hby) hbx)
    all_goals go_wp2_with fail
    all_goals go_ret
    all_goals exact ⟨rfl, below_two HB HF (Nat.le_refl _)⟩
  · replace cX := fun wx hb => cX 9 wx rfl hb
    go_region_held3 (fun w' => (w'.cell? ⟨w6.heap.size + 1, 0, none⟩ = some (.int .i64 1) ∧ w'.cell? ⟨w6.heap.size + 1, 1, none⟩ = some (.int .i64 0) ∧ w'.cell? ⟨w6.heap.size + 1, 2, none⟩ = some (.slice (some ⟨w6.heap.size, 0, none⟩) 2 2) ∧ w'.cell? ⟨w8.heap.size + 1, 0, none⟩ = some (.int .i64 2) ∧ w'.cell? ⟨w8.heap.size + 1, 1, none⟩ = some (.int .i64 0) ∧ w'.cell? ⟨w8.heap.size + 1, 2, none⟩ = some (.slice (some ⟨w8.heap.size, 0, none⟩) 2 2) ∧ Below w9.heap.size w9 w')) (with_reducible first | exact hS0 | exact keepS _ _ (by assumption) hbz | exact keepS _ _ (by assumption) hby | exact keepS _ _ (by assumption) hbx) (first | (go_at_call 22; with_reducible refine Calls.mono (cX _ (toB _ (by assumption))) ?_; rintro e wz ⟨rfl, hbz⟩) | (go_at_call 22; with_reducible refine Calls.mono (cY _ (toB _ (by assumption))) ?_; rintro e wy ⟨rfl, hby⟩) | (go_at_call 22; with_reducible refine Calls.mono (cZ _ (toB _ (by assumption))) ?_; rintro e wx ⟨rfl, hbx⟩))
    all_goals have HF := toB _ (keepS _ _ (keepS _ _ (keepS _ _ hS0 hbz) hby) hbx)
    all_goals go_wp2_with fail
    all_goals go_ret
    all_goals exact ⟨rfl, below_two HB HF (Nat.le_refl _)⟩
  · replace cX := fun wx hb => cX 0 wx rfl hb
    go_region_held3 (fun w' => (w'.cell? ⟨w6.heap.size + 1, 0, none⟩ = some (.int .i64 2) ∧ w'.cell? ⟨w6.heap.size + 1, 1, none⟩ = some (.int .i64 0) ∧ w'.cell? ⟨w6.heap.size + 1, 2, none⟩ = some (.slice (some ⟨w6.heap.size, 0, none⟩) 2 2) ∧ w'.cell? ⟨w8.heap.size + 1, 0, none⟩ = some (.int .i64 2) ∧ w'.cell? ⟨w8.heap.size + 1, 1, none⟩ = some (.int .i64 0) ∧ w'.cell? ⟨w8.heap.size + 1, 2, none⟩ = some (.slice (some ⟨w8.heap.size, 0, none⟩) 2 2) ∧ Below w9.heap.size w9 w')) (with_reducible first | exact hS0 | exact keepS _ _ (by assumption) hbz | exact keepS _ _ (by assumption) hby | exact keepS _ _ (by assumption) hbx) (first | (go_at_call 22; with_reducible refine Calls.mono (cX _ (toB _ (by assumption))) ?_; rintro e wz ⟨rfl, hbz⟩) | (go_at_call 22; with_reducible refine Calls.mono (cY _ (toB _ (by assumption))) ?_; rintro e wy ⟨rfl, hby⟩) | (go_at_call 22; with_reducible refine Calls.mono (cZ _ (toB _ (by assumption))) ?_; rintro e wx ⟨rfl, hbx⟩))
    all_goals have HF := toB _ (keepS _ _ (keepS _ _ (keepS _ _ hS0 hbz) hby) hbx)
    all_goals go_wp2_with fail
    all_goals go_ret
    all_goals exact ⟨rfl, below_two HB HF (Nat.le_refl _)⟩
  · replace cX := fun wx hb => cX 0 wx rfl hb
    go_region_held3 (fun w' => (w'.cell? ⟨w6.heap.size + 1, 0, none⟩ = some (.int .i64 3) ∧ w'.cell? ⟨w6.heap.size + 1, 1, none⟩ = some (.int .i64 0) ∧ w'.cell? ⟨w6.heap.size + 1, 2, none⟩ = some (.slice (some ⟨w6.heap.size, 0, none⟩) 2 2) ∧ w'.cell? ⟨w8.heap.size + 1, 0, none⟩ = some (.int .i64 2) ∧ w'.cell? ⟨w8.heap.size + 1, 1, none⟩ = some (.int .i64 0) ∧ w'.cell? ⟨w8.heap.size + 1, 2, none⟩ = some (.slice (some ⟨w8.heap.size, 0, none⟩) 2 2) ∧ Below w9.heap.size w9 w')) (with_reducible first | exact hS0 | exact keepS _ _ (by assumption) hbz | exact keepS _ _ (by assumption) hby | exact keepS _ _ (by assumption) hbx) (first | (go_at_call 22; with_reducible refine Calls.mono (cX _ (toB _ (by assumption))) ?_; rintro e wz ⟨rfl, hbz⟩) | (go_at_call 22; with_reducible refine Calls.mono (cY _ (toB _ (by assumption))) ?_; rintro e wy ⟨rfl, hby⟩) | (go_at_call 22; with_reducible refine Calls.mono (cZ _ (toB _ (by assumption))) ?_; rintro e wx ⟨rfl, hbx⟩))
    all_goals have HF := toB _ (keepS _ _ (keepS _ _ (keepS _ _ hS0 hbz) hby) hbx)
    all_goals go_wp2_with fail
    all_goals go_ret
    all_goals exact ⟨rfl, below_two HB HF (Nat.le_refl _)⟩

end Go.Proofs.YtibncdbffipbmaaDoor
