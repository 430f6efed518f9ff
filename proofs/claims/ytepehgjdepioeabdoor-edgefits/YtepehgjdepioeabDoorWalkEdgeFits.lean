/-
  Walk: wherrykeep.EdgeFits.
-/
import Derived.Test.YtepehgjdepioeabDoorKEdge
namespace Go.Proofs.YtepehgjdepioeabDoor
open Go.RowKit Go.Lib

theorem kept_new {X W' : World} {cs : Array Value} {T : TypeId} (hb : Below (X.alloc (.cells cs T)).heap.size (X.alloc (.cells cs T)) W') : W'.heap[X.heap.size]? = some (.cells cs T (0, 0)) := (hb.block _ (by simp)).trans (heap_alloc_new X _)
theorem kept_drew {X W' : World} {cs : Array Value} {T : TypeId} (hb : Below (X.alloc (.cells cs T)).drew.heap.size (X.alloc (.cells cs T)).drew W') : W'.heap[X.heap.size]? = some (.cells cs T (0, 0)) := (hb.block X.heap.size (show X.heap.size < (X.alloc (.cells cs T)).heap.size by simp)).trans (heap_alloc_new X _)
theorem kept_more {W W' : World} {b : Nat} {o : Obj} (h : W.heap[b]? = some o) (hb : Below W.heap.size W W') : W'.heap[b]? = some o := (hb.block _ (Array.getElem?_eq_some_iff.1 h).1).trans h
theorem new_facts {w : World} {b : Nat} {x y z : Value} (h : w.heap[b]? = some (.cells #[x, y, z] 51 (0, 0))) : (w.cell? ⟨b, 0, none⟩ = some x ∧ w.cell? ⟨b, 1, none⟩ = some y ∧ w.cell? ⟨b, 2, none⟩ = some z) ∧ w.frozen? ⟨b, 0, none⟩ = false ∧ w.frozen? ⟨b, 1, none⟩ = false ∧ w.frozen? ⟨b, 2, none⟩ = false :=
  ⟨edge_cells h, by simp [World.frozen?, h], by simp [World.frozen?, h], by simp [World.frozen?, h]⟩

theorem send_one (A : List Step) (u : Value) (w : World) (B : Nat) (oA : OpS w B u A) (h1 : A.length ≤ 4000) (hT : Tabs w) :
    Calls Tryd.prog 30 #[.agg #[.int .i64 0, .int .i64 0, .slice none 0 0], u] w fun e w' => ∃ a c us, PendAt w' a c [group A] us ∧ e = .returned (.tuple #[.agg #[.int .i64 1, .int .i64 0, .slice a 1 c], .int .i64 0]) ∧ Below w.heap.size w w' :=
  (send_ok 0 0 [] [] none 0 (group A) u w (pend_nil w) (fun _ h => by cases h) (by simp) (by omega) oA.val (group_small oA.ok h1) hT (send_first A oA.ok h1)).mono fun _ _ ⟨a, c, us, he, hp, hb⟩ => ⟨a, c, us, hp, he, hb⟩
theorem send_two (A C : List Step) (v : Value) (w : World) (B : Nat) (a : Option Addr) (c : Nat) (us : List Value) (hp : PendAt w a c [group A] us) (hA : StepsOk A) (oC : OpS w B v C) (h1 : A.length ≤ 4000) (h2 : C.length ≤ 4000) (e2 : oldN C = newN A) (hT : Tabs w) :
    Calls Tryd.prog 30 #[.agg #[.int .i64 1, .int .i64 0, .slice a 1 c], v] w fun e w' => ∃ a' c' us', PendAt w' a' c' [group A, group C] us' ∧ e = .returned (.tuple #[.agg #[.int .i64 2, .int .i64 0, .slice a' 2 c'], .int .i64 0]) ∧ Below w.heap.size w w' :=
  (send_ok 1 0 [group A] us a c (group C) v w hp (fun q h => by rw [List.mem_singleton.1 h]; exact group_small hA h1) (by simp) (by omega) oC.val (group_small oC.ok h2) hT (by rw [send_second A C hA oC.ok h1 h2, if_pos e2])).mono fun _ _ ⟨a, c, us, he, hp, hb⟩ => ⟨a, c, us, hp, he, hb⟩
theorem send_miss (A C : List Step) (v : Value) (w : World) (B : Nat) (a : Option Addr) (c : Nat) (us : List Value) (hp : PendAt w a c [group A] us) (hA : StepsOk A) (oC : OpS w B v C) (h1 : A.length ≤ 4000) (h2 : C.length ≤ 4000) (e2 : oldN C ≠ newN A) (hT : Tabs w) :
    Calls Tryd.prog 30 #[.agg #[.int .i64 1, .int .i64 0, .slice a 1 c], v] w fun e w' => e = .returned (.tuple #[.agg #[.int .i64 0, .int .i64 0, .slice none 0 0], .int .i64 10]) ∧ Below w.heap.size w w' := by
  have h10 : sendErr 1 0 [group A] (group C) = 10 := by rw [send_second A C hA oC.ok h1 h2, if_neg e2]
  have r := send_bad 1 0 [group A] us a c (group C) v w hp (fun q h => by rw [List.mem_singleton.1 h]; exact group_small hA h1) (by simp) (by omega) oC.val (group_small oC.ok h2) hT (by rw [h10]; decide)
  rw [h10] at r
  exact r

set_option maxRecDepth 100000 in
set_option maxHeartbeats 2000000 in
theorem edgeFits_walk (s : ByteArray) (l : List RawV) (al : Option Addr) (cl : Nat) (more : Int) (w : World) (hs : s.size ≤ 9223372036854775807) (hl : RawsAt w al l) (kl : ∀ r ∈ l, RawOk r) (ll : l.length ≤ 9223372036854775807) (hmore : I64 more) (hT : Tabs w) :
    Calls Tryd.prog 14 #[.string s, .slice al l.length cl, .int .i64 more] w fun e w' => e = .returned (.bool true) ∧ Below w.heap.size w w' := by
  have HB : Below w.heap.size w w := Below.refl _ _
  go_enter Tryd.func14, Tryd.ntmps14
  go_wp2_with fail
  refine (letters_any s 20 _ hs (by omega)).mono ?_
  rintro e w1 ⟨t, cpt, lht, rfl, hb⟩
  replace HB := below_two HB hb (Nat.le_refl _)
  clear hb
  go_wp2_with fail
  refine (runesCall t _ cpt (by omega)).mono ?_
  rintro e w2 ⟨rfl, hb⟩
  replace HB := below_two HB hb (Nat.le_refl _)
  clear hb
  go_wp2_with fail
  refine (opCall (t.length) l al cl _ (hl.below HB (Nat.le_refl _)) kl ll (by omega)).mono ?_
  rintro e w3 ⟨u, A, rfl, oA, eA, nA, hb, _⟩
  replace HB := below_two HB hb (Nat.le_refl _)
  clear hb
  go_wp2_with fail
  refine (send_one A u _ _ oA (by omega) (hT.below HB)).mono ?_
  rintro e w4 ⟨a, c, us, hp, rfl, hb⟩
  replace HB := below_two HB hb (Nat.le_refl _)
  replace oA := oA.below hb
  clear hb
  go_wp2_with fail
  have hb := (Below.refl w4.heap.size w4).alloc (Nat.le_refl _) (.cells #[.int .i64 1, .int .i64 0, .slice a 1 c] 51)
  have hx := heap_alloc_new w4 (.cells #[.int .i64 1, .int .i64 0, .slice a 1 c] 51)
  have hxl : w4.heap.size < (w4.alloc (.cells #[.int .i64 1, .int .i64 0, .slice a 1 c] 51)).heap.size := by simp
  replace HB := below_two HB hb (Nat.le_refl _)
  replace oA := oA.below hb
  replace hp := hp.below hb
  clear hb
  generalize hw0 : (w4.alloc (.cells #[.int .i64 1, .int .i64 0, .slice a 1 c] 51)) = w0 at *
  clear hw0
  have HX : Below w0.heap.size w0 w0 := Below.refl _ _
  have hxk : ∀ w', Below w0.heap.size w0 w' → w'.heap[w4.heap.size]? = some (.cells #[.int .i64 1, .int .i64 0, .slice a 1 c] 51 (0, 0)) := fun w' hb => (hb.block _ hxl).trans hx
  clear hx
  refine (lengthsCall A u _ _ oA (by omega)).mono ?_
  rintro e w5 ⟨rfl, hb⟩
  replace HB := below_two HB hb (Nat.le_refl _)
  replace HX := below_two HX hb (Nat.le_refl _)
  replace oA := oA.below hb
  replace hp := hp.below hb
  clear hb
  have n1 := newN_le A
  have cP : ∀ wx, Calls Tryd.prog 15 #[.int .i64 more, .int .i64 9] wx fun e w' => e = .returned (.int .i64 (pick more 9 : Int)) ∧ Below wx.heap.size wx w' := fun wx => (picked_same more 9 wx hmore (by omega) (by omega)).mono fun _ _ ⟨he, hw⟩ => ⟨he, by rw [hw]; exact Below.refl _ _⟩
  have hk := pick_lt more 9 (by omega)
  generalize pick more 9 = k at *
  have hD := hT.below HB
  have cO : ∀ wx, Below w5.heap.size w5 wx → Calls Tryd.prog 20 #[.int .i64 ((newN A : Int) + 1 + k), .slice none 0 0] wx fun e w' => ∃ z, e = .returned z ∧ OpS w' wx.heap.size z (List.replicate (newN A + 1 + k) ((1 : Int), (0 : Int))) ∧ Below wx.heap.size wx w' := fun wx _ => (opCall (newN A + 1 + k) [] none 0 wx (.inl rfl) (fun _ h => by cases h) (by simp) (by omega)).mono fun _ _ ⟨z, Z, he, oZ, _, _, hb, eZ⟩ => ⟨z, he, by rw [← eZ rfl]; exact oZ, hb⟩
  generalize hZ : List.replicate (newN A + 1 + k) ((1 : Int), (0 : Int)) = Z at *
  have z1 : oldN Z ≠ newN A := by rw [← hZ, oldN_rep _ _ _ (by decide)]; omega
  have z2 : Z.length ≤ 4000 := by rw [← hZ, List.length_replicate]; omega
  clear hZ
  have hw1 : IntKind.i64.wrap ((newN A : Int) + 1) = (newN A : Int) + 1 := by rw [IntKind.wrap_i64]; omega
  have hw2 : IntKind.i64.wrap ((newN A : Int) + 1 + k) = (newN A : Int) + 1 + k := by rw [IntKind.wrap_i64]; omega
  rw [← hw2, ← hw1] at cO
  clear hw1 hw2
  obtain ⟨x0, x1, x2⟩ := edge_cells (hxk w5 HX)
  have toB : ∀ w', ((w'.cell? ⟨w4.heap.size, 0, none⟩ = some (.int .i64 1) ∧ w'.cell? ⟨w4.heap.size, 1, none⟩ = some (.int .i64 0) ∧ w'.cell? ⟨w4.heap.size, 2, none⟩ = some (.slice a 1 c) ∧ Below w5.heap.size w5 w')) → Below w5.heap.size w5 w' := fun _ h => h.2.2.2
  have hS0 : (fun w' => (w'.cell? ⟨w4.heap.size, 0, none⟩ = some (.int .i64 1) ∧ w'.cell? ⟨w4.heap.size, 1, none⟩ = some (.int .i64 0) ∧ w'.cell? ⟨w4.heap.size, 2, none⟩ = some (.slice a 1 c) ∧ Below w5.heap.size w5 w')) w5.drew := ⟨x0, x1, x2, ⟨rfl, rfl, rfl, Nat.le_refl _, fun _ _ => rfl⟩⟩
  have hxl5 : w4.heap.size < w5.heap.size := by have := HX.size; omega
  have keepS : ∀ w' w'', ((w'.cell? ⟨w4.heap.size, 0, none⟩ = some (.int .i64 1) ∧ w'.cell? ⟨w4.heap.size, 1, none⟩ = some (.int .i64 0) ∧ w'.cell? ⟨w4.heap.size, 2, none⟩ = some (.slice a 1 c) ∧ Below w5.heap.size w5 w')) → Below w'.heap.size w' w'' → (fun w' => (w'.cell? ⟨w4.heap.size, 0, none⟩ = some (.int .i64 1) ∧ w'.cell? ⟨w4.heap.size, 1, none⟩ = some (.int .i64 0) ∧ w'.cell? ⟨w4.heap.size, 2, none⟩ = some (.slice a 1 c) ∧ Below w5.heap.size w5 w')) w'' := fun w' w'' h hb => ⟨(hb.cell (p := ⟨_, 0, none⟩) (Nat.lt_of_lt_of_le hxl5 h.2.2.2.size)).trans h.1, (hb.cell (p := ⟨_, 1, none⟩) (Nat.lt_of_lt_of_le hxl5 h.2.2.2.size)).trans h.2.1, (hb.cell (p := ⟨_, 2, none⟩) (Nat.lt_of_lt_of_le hxl5 h.2.2.2.size)).trans h.2.2.1, below_two h.2.2.2 hb (Nat.le_refl _)⟩
  have keepA : ∀ (w' : World) (o : Obj), ((w'.cell? ⟨w4.heap.size, 0, none⟩ = some (.int .i64 1) ∧ w'.cell? ⟨w4.heap.size, 1, none⟩ = some (.int .i64 0) ∧ w'.cell? ⟨w4.heap.size, 2, none⟩ = some (.slice a 1 c) ∧ Below w5.heap.size w5 w')) → (fun w' => (w'.cell? ⟨w4.heap.size, 0, none⟩ = some (.int .i64 1) ∧ w'.cell? ⟨w4.heap.size, 1, none⟩ = some (.int .i64 0) ∧ w'.cell? ⟨w4.heap.size, 2, none⟩ = some (.slice a 1 c) ∧ Below w5.heap.size w5 w')) (w'.alloc o) := fun w' o h => keepS w' _ h ((Below.refl _ w').alloc (Nat.le_refl _) o)
  have keepB : ∀ w' w'', ((w'.cell? ⟨w4.heap.size, 0, none⟩ = some (.int .i64 1) ∧ w'.cell? ⟨w4.heap.size, 1, none⟩ = some (.int .i64 0) ∧ w'.cell? ⟨w4.heap.size, 2, none⟩ = some (.slice a 1 c) ∧ Below w5.heap.size w5 w')) → Below w5.heap.size w' w'' → (fun w' => (w'.cell? ⟨w4.heap.size, 0, none⟩ = some (.int .i64 1) ∧ w'.cell? ⟨w4.heap.size, 1, none⟩ = some (.int .i64 0) ∧ w'.cell? ⟨w4.heap.size, 2, none⟩ = some (.slice a 1 c) ∧ Below w5.heap.size w5 w')) w'' := fun w' w'' h hb => ⟨(hb.cell (p := ⟨_, 0, none⟩) hxl5).trans h.1, (hb.cell (p := ⟨_, 1, none⟩) hxl5).trans h.2.1, (hb.cell (p := ⟨_, 2, none⟩) hxl5).trans h.2.2.1, h.2.2.2.trans hb⟩
  have hS1 : ∀ o, (fun w' => (w'.cell? ⟨w4.heap.size, 0, none⟩ = some (.int .i64 1) ∧ w'.cell? ⟨w4.heap.size, 1, none⟩ = some (.int .i64 0) ∧ w'.cell? ⟨w4.heap.size, 2, none⟩ = some (.slice a 1 c) ∧ Below w5.heap.size w5 w')) (w5.alloc o).drew := fun o => keepB w5.drew _ hS0 ⟨rfl, rfl, rfl, by show w5.heap.size ≤ (w5.alloc o).heap.size; simp, fun k hk => Below.heap_alloc w5 o k hk⟩
  have cS : ∀ wx z B, Below w5.heap.size w5 wx → OpS wx B z Z → Calls Tryd.prog 30 #[.agg #[.int .i64 1, .int .i64 0, .slice a 1 c], z] wx fun e w' => e = .returned (.tuple #[.agg #[.int .i64 0, .int .i64 0, .slice none 0 0], .int .i64 10]) ∧ Below wx.heap.size wx w' := fun wx z B hx oZ => send_miss A Z z wx B a c us (hp.below hx) oA.ok oZ (by omega) z2 z1 (hD.below hx)

  go_wp2_with fail
  have keepD : ∀ w', ((w'.cell? ⟨w4.heap.size, 0, none⟩ = some (.int .i64 1) ∧ w'.cell? ⟨w4.heap.size, 1, none⟩ = some (.int .i64 0) ∧ w'.cell? ⟨w4.heap.size, 2, none⟩ = some (.slice a 1 c) ∧ Below w5.heap.size w5 w')) → (fun w' => (w'.cell? ⟨w4.heap.size, 0, none⟩ = some (.int .i64 1) ∧ w'.cell? ⟨w4.heap.size, 1, none⟩ = some (.int .i64 0) ∧ w'.cell? ⟨w4.heap.size, 2, none⟩ = some (.slice a 1 c) ∧ Below w5.heap.size w5 w')) w'.drew := fun w' h => keepB w' _ h ⟨rfl, rfl, rfl, Nat.le_refl _, fun _ _ => rfl⟩
  have keepE : ∀ w' (o : Obj), ((w'.cell? ⟨w4.heap.size, 0, none⟩ = some (.int .i64 1) ∧ w'.cell? ⟨w4.heap.size, 1, none⟩ = some (.int .i64 0) ∧ w'.cell? ⟨w4.heap.size, 2, none⟩ = some (.slice a 1 c) ∧ Below w5.heap.size w5 w')) → (fun w' => (w'.cell? ⟨w4.heap.size, 0, none⟩ = some (.int .i64 1) ∧ w'.cell? ⟨w4.heap.size, 1, none⟩ = some (.int .i64 0) ∧ w'.cell? ⟨w4.heap.size, 2, none⟩ = some (.slice a 1 c) ∧ Below w5.heap.size w5 w')) (w'.alloc o).drew := fun w' o h => keepB w' _ h ⟨rfl, rfl, rfl, by show w'.heap.size ≤ (w'.alloc o).heap.size; simp, fun k hk => Below.heap_alloc w' o k (Nat.lt_of_lt_of_le hk h.2.2.2.size)⟩
  have cO2 : ∀ wx, Below w5.heap.size w5 wx → Calls Tryd.prog 20 #[.int .i64 (newN A : Int), .slice none 0 0] wx fun e w' => ∃ z, e = .returned z ∧ OpS w' wx.heap.size z (List.replicate (newN A) ((1 : Int), (0 : Int))) ∧ Below wx.heap.size wx w' := fun wx _ => (opCall (newN A) [] none 0 wx (.inl rfl) (fun _ h => by cases h) (by simp) (by omega)).mono fun _ _ ⟨z, Z, he, oZ, _, _, hb, eZ⟩ => ⟨z, he, by rw [← eZ rfl]; exact oZ, hb⟩
  generalize hC : List.replicate (newN A) ((1 : Int), (0 : Int)) = C at *
  have c1 : oldN C = newN A := by rw [← hC, oldN_rep _ _ _ (by decide)]
  have c2 : C.length ≤ 4000 := by rw [← hC, List.length_replicate]; omega
  clear hC
  have cS2 : ∀ wx z B, Below w5.heap.size w5 wx → OpS wx B z C → Calls Tryd.prog 30 #[.agg #[.int .i64 1, .int .i64 0, .slice a 1 c], z] wx fun e w' => ∃ a' c', e = .returned (.tuple #[.agg #[.int .i64 2, .int .i64 0, .slice a' 2 c'], .int .i64 0]) ∧ Below wx.heap.size wx w' := fun wx z B hx oC => (send_two A C z wx B a c us (hp.below hx) oA.ok oC (by omega) c2 c1 (hD.below hx)).mono fun _ _ ⟨a', c', _, _, he, hb⟩ => ⟨a', c', he, hb⟩
  clear hp oA hD hT
  have szd : w5.heap.size ≤ w5.drew.heap.size := Nat.le_refl _
  have szd2 : w5.heap.size ≤ w5.heap.size := Nat.le_refl _
  go_region_held3 (fun w' => (w'.cell? ⟨w4.heap.size, 0, none⟩ = some (.int .i64 1) ∧ w'.cell? ⟨w4.heap.size, 1, none⟩ = some (.int .i64 0) ∧ w'.cell? ⟨w4.heap.size, 2, none⟩ = some (.slice a 1 c) ∧ Below w5.heap.size w5 w')) (with_reducible first | exact hS0 | exact hS1 _ | assumption | exact keepS _ _ (by assumption) hbz | exact keepS _ _ (by assumption) hby | exact keepS _ _ (by assumption) hbx | exact keepA _ _ (by assumption) | exact keepB _ _ (by assumption) ((((Below.refl _ _).setCell (by first | exact szz | exact szy | exact szv | exact szd | exact szd2) _).setCell (by first | exact szz | exact szy | exact szv | exact szd | exact szd2) _).setCell (by first | exact szz | exact szy | exact szv | exact szd | exact szd2) _)) (first | (go_at_call 15; with_reducible refine Calls.mono (cP _) ?_; rintro e wz ⟨rfl, hbz⟩; have szz := Nat.le_trans (toB _ (by assumption)).size hbz.size; (first | have nz := kept_drew hbz | skip)) | (go_at_call 30; with_reducible refine Calls.mono (cS _ _ _ (toB _ (by assumption)) (by first | exact oZ | exact oZ.below ((Below.refl _ _).alloc (Nat.le_refl _) _))) ?_; rintro e wv ⟨rfl, hbx⟩; have szv := Nat.le_trans (toB _ (by assumption)).size hbx.size; (first | have nv := kept_new hbx | have nv := kept_more ny hbx | skip); (first | (have hnf := new_facts nv; obtain ⟨⟨r0, r1, r2⟩, f0, f1, f2⟩ := hnf) | skip)) | (go_at_call 20; with_reducible refine Calls.mono (cO _ (toB _ (by assumption))) ?_; rintro e wy ⟨z, rfl, oZ, hby⟩; have szy := Nat.le_trans (toB _ (by assumption)).size hby.size; (first | have ny := kept_new hby | have ny := kept_more nz hby | skip)))
  rotate_left
  · generalize (((wv.setCell ⟨wy.heap.size, 0, none⟩ (.int .i64 0)).setCell ⟨wy.heap.size, 1, none⟩ (.int .i64 0)).setCell ⟨wy.heap.size, 2, none⟩ (.slice none 0 0)) = w6 at *
    clear hbz hby hbx szz szy szv oZ cP cO cS
    have sz6 := (toB w6 (by assumption)).size
    go_wp2_with fail
    go_region_held3 (fun w' => (w'.cell? ⟨w4.heap.size, 0, none⟩ = some (.int .i64 1) ∧ w'.cell? ⟨w4.heap.size, 1, none⟩ = some (.int .i64 0) ∧ w'.cell? ⟨w4.heap.size, 2, none⟩ = some (.slice a 1 c) ∧ Below w5.heap.size w5 w')) (with_reducible first | exact keepD _ (by assumption) | exact keepE _ _ (by assumption) | assumption | exact keepS _ _ (by assumption) hby | exact keepS _ _ (by assumption) hbx | exact keepA _ _ (by assumption) | exact keepA _ _ hSv | exact keepB _ _ (by assumption) ((((Below.refl _ _).setCell (by first | exact sz6 | exact szy | exact szv) _).setCell (by first | exact sz6 | exact szy | exact szv) _).setCell (by first | exact sz6 | exact szy | exact szv) _)) (first | (go_at_call 30; with_reducible refine Calls.mono (cS2 _ _ _ (toB _ (by assumption)) (by first | exact oC | exact oC.below ((Below.refl _ _).alloc (Nat.le_refl _) _))) ?_; rintro e wv ⟨a', c', rfl, hbx⟩; have hSv := keepS _ _ (by assumption) hbx; have szv := Nat.le_trans (toB _ (by assumption)).size hbx.size; (first | have nv := kept_new hbx | have nv := kept_more ny hbx | skip); (first | (have hnf := new_facts nv; obtain ⟨⟨r0, r1, r2⟩, f0, f1, f2⟩ := hnf) | skip)) | (go_at_call 20; with_reducible refine Calls.mono (cO2 _ (toB _ (by assumption))) ?_; rintro e wy ⟨v, rfl, oC, hby⟩; have szy := Nat.le_trans (toB _ (by assumption)).size hby.size; (first | have ny := kept_drew hby | skip)))
    all_goals have HF := toB _ (by assumption)
    all_goals go_wp2_with fail
    all_goals go_ret
    all_goals exact ⟨rfl, below_two HB HF (Nat.le_refl _)⟩
  · generalize (((wv.setCell ⟨wz.heap.size, 0, none⟩ (.int .i64 0)).setCell ⟨wz.heap.size, 1, none⟩ (.int .i64 0)).setCell ⟨wz.heap.size, 2, none⟩ (.slice none 0 0)) = w6 at *
    clear hbz hby hbx szz szy szv oZ cP cO cS
    have sz6 := (toB w6 (by assumption)).size
    go_wp2_with fail
    go_region_held3 (fun w' => (w'.cell? ⟨w4.heap.size, 0, none⟩ = some (.int .i64 1) ∧ w'.cell? ⟨w4.heap.size, 1, none⟩ = some (.int .i64 0) ∧ w'.cell? ⟨w4.heap.size, 2, none⟩ = some (.slice a 1 c) ∧ Below w5.heap.size w5 w')) (with_reducible first | exact keepD _ (by assumption) | exact keepE _ _ (by assumption) | assumption | exact keepS _ _ (by assumption) hby | exact keepS _ _ (by assumption) hbx | exact keepA _ _ (by assumption) | exact keepA _ _ hSv | exact keepB _ _ (by assumption) ((((Below.refl _ _).setCell (by first | exact sz6 | exact szy | exact szv) _).setCell (by first | exact sz6 | exact szy | exact szv) _).setCell (by first | exact sz6 | exact szy | exact szv) _)) (first | (go_at_call 30; with_reducible refine Calls.mono (cS2 _ _ _ (toB _ (by assumption)) (by first | exact oC | exact oC.below ((Below.refl _ _).alloc (Nat.le_refl _) _))) ?_; rintro e wv ⟨a', c', rfl, hbx⟩; have hSv := keepS _ _ (by assumption) hbx; have szv := Nat.le_trans (toB _ (by assumption)).size hbx.size; (first | have nv := kept_new hbx | have nv := kept_more ny hbx | skip); (first | (have hnf := new_facts nv; obtain ⟨⟨r0, r1, r2⟩, f0, f1, f2⟩ := hnf) | skip)) | (go_at_call 20; with_reducible refine Calls.mono (cO2 _ (toB _ (by assumption))) ?_; rintro e wy ⟨v, rfl, oC, hby⟩; have szy := Nat.le_trans (toB _ (by assumption)).size hby.size; (first | have ny := kept_drew hby | skip)))
    all_goals have HF := toB _ (by assumption)
    all_goals go_wp2_with fail
    all_goals go_ret
    all_goals exact ⟨rfl, below_two HB HF (Nat.le_refl _)⟩
  · generalize (((wv.setCell ⟨w5.heap.size, 0, none⟩ (.int .i64 0)).setCell ⟨w5.heap.size, 1, none⟩ (.int .i64 0)).setCell ⟨w5.heap.size, 2, none⟩ (.slice none 0 0)) = w6 at *
    clear hbz hby hbx szz szy szv oZ cP cO cS
    have sz6 := (toB w6 (by assumption)).size
    go_wp2_with fail
    go_region_held3 (fun w' => (w'.cell? ⟨w4.heap.size, 0, none⟩ = some (.int .i64 1) ∧ w'.cell? ⟨w4.heap.size, 1, none⟩ = some (.int .i64 0) ∧ w'.cell? ⟨w4.heap.size, 2, none⟩ = some (.slice a 1 c) ∧ Below w5.heap.size w5 w')) (with_reducible first | exact keepD _ (by assumption) | exact keepE _ _ (by assumption) | assumption | exact keepS _ _ (by assumption) hby | exact keepS _ _ (by assumption) hbx | exact keepA _ _ (by assumption) | exact keepA _ _ hSv | exact keepB _ _ (by assumption) ((((Below.refl _ _).setCell (by first | exact sz6 | exact szy | exact szv) _).setCell (by first | exact sz6 | exact szy | exact szv) _).setCell (by first | exact sz6 | exact szy | exact szv) _)) (first | (go_at_call 30; with_reducible refine Calls.mono (cS2 _ _ _ (toB _ (by assumption)) (by first | exact oC | exact oC.below ((Below.refl _ _).alloc (Nat.le_refl _) _))) ?_; rintro e wv ⟨a', c', rfl, hbx⟩; have hSv := keepS _ _ (by assumption) hbx; have szv := Nat.le_trans (toB _ (by assumption)).size hbx.size; (first | have nv := kept_new hbx | have nv := kept_more ny hbx | skip); (first | (have hnf := new_facts nv; obtain ⟨⟨r0, r1, r2⟩, f0, f1, f2⟩ := hnf) | skip)) | (go_at_call 20; with_reducible refine Calls.mono (cO2 _ (toB _ (by assumption))) ?_; rintro e wy ⟨v, rfl, oC, hby⟩; have szy := Nat.le_trans (toB _ (by assumption)).size hby.size; (first | have ny := kept_drew hby | skip)))
    all_goals have HF := toB _ (by assumption)
    all_goals go_wp2_with fail
    all_goals go_ret
    all_goals exact ⟨rfl, below_two HB HF (Nat.le_refl _)⟩
  · generalize (wv.alloc (.cells #[.int .i64 0, .int .i64 0, .slice none 0 0] 51)) = w6 at *
    clear hbz hby hbx szz szy szv oZ cP cO cS
    have sz6 := (toB w6 (by assumption)).size
    go_wp2_with fail
    go_region_held3 (fun w' => (w'.cell? ⟨w4.heap.size, 0, none⟩ = some (.int .i64 1) ∧ w'.cell? ⟨w4.heap.size, 1, none⟩ = some (.int .i64 0) ∧ w'.cell? ⟨w4.heap.size, 2, none⟩ = some (.slice a 1 c) ∧ Below w5.heap.size w5 w')) (with_reducible first | exact keepD _ (by assumption) | exact keepE _ _ (by assumption) | assumption | exact keepS _ _ (by assumption) hby | exact keepS _ _ (by assumption) hbx | exact keepA _ _ (by assumption) | exact keepA _ _ hSv | exact keepB _ _ (by assumption) ((((Below.refl _ _).setCell (by first | exact sz6 | exact szy | exact szv) _).setCell (by first | exact sz6 | exact szy | exact szv) _).setCell (by first | exact sz6 | exact szy | exact szv) _)) (first | (go_at_call 30; with_reducible refine Calls.mono (cS2 _ _ _ (toB _ (by assumption)) (by first | exact oC | exact oC.below ((Below.refl _ _).alloc (Nat.le_refl _) _))) ?_; rintro e wv ⟨a', c', rfl, hbx⟩; have hSv := keepS _ _ (by assumption) hbx; have szv := Nat.le_trans (toB _ (by assumption)).size hbx.size; (first | have nv := kept_new hbx | have nv := kept_more ny hbx | skip); (first | (have hnf := new_facts nv; obtain ⟨⟨r0, r1, r2⟩, f0, f1, f2⟩ := hnf) | skip)) | (go_at_call 20; with_reducible refine Calls.mono (cO2 _ (toB _ (by assumption))) ?_; rintro e wy ⟨v, rfl, oC, hby⟩; have szy := Nat.le_trans (toB _ (by assumption)).size hby.size; (first | have ny := kept_drew hby | skip)))
    all_goals have HF := toB _ (by assumption)
    all_goals go_wp2_with fail
    all_goals go_ret
    all_goals exact ⟨rfl, below_two HB HF (Nat.le_refl _)⟩

end Go.Proofs.YtepehgjdepioeabDoor
-- x
