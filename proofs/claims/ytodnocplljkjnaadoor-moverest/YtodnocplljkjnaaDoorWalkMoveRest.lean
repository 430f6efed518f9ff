/-
  Walk: wherrykeep.MoveRest.
-/
import Derived.Test.YtodnocplljkjnaaDoorKMove
import Derived.Test.YtodnocplljkjnaaDoorKHere
import Derived.Test.YtodnocplljkjnaaDoorKApart
import Derived.Test.YtodnocplljkjnaaDoorPureRest
import Derived.Deep.RegionHeld3
namespace Go.Proofs.YtodnocplljkjnaaDoor
open Go.RowKit Go.Lib

theorem cp_small {r : Nat} (h : r < 128) : CP r := by unfold CP; omega
theorem cp_append {a b : List Nat} (ha : ∀ r ∈ a, CP r) (hb : ∀ r ∈ b, CP r) : ∀ r ∈ a ++ b, CP r := fun r hr => by
  rcases List.mem_append.1 hr with h | h
  · exact ha r h
  · exact hb r h
theorem cp_one {r : Nat} (h : r < 128) : ∀ x ∈ [r], CP x := fun x hx => by
  rw [List.mem_singleton] at hx
  rw [hx]
  exact cp_small h

/-- a text that is turned into runes inside a region -/
theorem upon_conv {o : Oper} {a : Act} {w : World} {K : Act → World → Prop} {Q : Exit → Act → World → Prop} (s : ByteArray) (n : Nat) (hs : s.size ≤ 70368744177664) (hn : (runes s).length = n)
    (h : ∀ G m w', n ≤ m → w'.heap[G]? = some (.cells (runeRow s m) 21 (0, 0)) → w.heap.size ≤ G → Below w.heap.size w w' → K (a.put o.dst (.slice (some ⟨G, 0, none⟩) n m)) w') :
    o.upon Tryd.prog a K Q (((convert 9 40 (.string s)).run Tryd.prog w).andThen fun a w' => .ok (.value a) w') := by
  subst hn
  rw [conv_runes s hs w]
  exact h _ _ _ (grownCap_ge w _ 0 21) (heap_alloc_new w.drew _) (Nat.le_refl _) ((Below.refl w.heap.size w).drew.alloc (Nat.le_refl _) _)

set_option maxRecDepth 100000 in
set_option maxHeartbeats 4000000 in
theorem moveRest_walk (s : ByteArray) (l : List RawV) (al : Option Addr) (cl : Nat) (i : Int) (w : World) (hs : s.size ≤ 9223372036854775807) (hl : RawsAt w al l) (kl : ∀ r ∈ l, RawOk r) (ll : l.length ≤ 9223372036854775807) (hi : I64 i) (hT : Tabs w) :
    Calls Tryd.prog 3 #[.string s, .slice al l.length cl, .int .i64 i] w fun e w' => e = .returned (.bool true) ∧ Below w.heap.size w w' := by
  have HB : Below w.heap.size w w := Below.refl _ _
  go_enter Tryd.func3, Tryd.ntmps3
  go_wp2_with fail
  refine (letters_any s 30 _ hs (by omega)).mono ?_
  rintro e w1 ⟨a, cpa, lha, rfl, hb⟩
  replace HB := below_two HB hb (Nat.le_refl _)
  clear hb
  have hsz := str_le cpa
  have hsum : (str a).size + 1 ≤ 9223372036854775807 := by omega
  have hx : str a ++ ⟨#[33]⟩ = str (a ++ [33]) := by rw [str_append]; rfl
  have cpt : ∀ r ∈ a ++ [33], CP r := cp_append cpa (cp_one (by omega))
  have lht : (a ++ [33]).length ≤ 31 := by simp; omega
  have lht1 : 1 ≤ (a ++ [33]).length := by simp
  generalize a ++ [33] = t at *
  go_wp2_with fail
  refine (runesCall t _ cpt (by omega)).mono ?_
  rintro e w2 ⟨rfl, hb⟩
  replace HB := below_two HB hb (Nat.le_refl _)
  clear hb
  go_wp2_with fail
  refine (picked_any i (t.length : Int) _ hi (by omega) (by omega)).mono ?_
  rintro e w3 ⟨k, hk, rfl, hb⟩
  replace HB := below_two HB hb (Nat.le_refl _)
  clear hb
  have hz0 := HB.size
  have hm0 := mason_new w3 0
  have hd0 := (Below.refl w3.heap.size w3).alloc (Nat.le_refl _) (.cells #[.slice none 0 0, .int .i64 0] 30)
  replace HB := below_two HB hd0 (Nat.le_refl _)
  go_wp2_with fail
  refine (opCall k l al cl _ (hl.below HB (Nat.le_refl _)) kl ll (by omega)).mono ?_
  rintro e x1 ⟨v, A, rfl, oA, eA, nA, hb, _⟩
  replace HB := below_two HB hb (Nat.le_refl _)
  have hm1 := hm0.kept' hb
  have hap : Apart w3.heap.size (.slice none 0 0) v := by
    rintro j (rfl | hj) hv
    · have := (oA.own.lt _ hv).1; simp at this; omega
    · simp [Value.ownBlock] at hj
  have hzb := (hm1.lt w3.heap.size (.inl rfl)).2
  clear hb hm0 hd0
  obtain ⟨va, vc, rfl, hvo, _⟩ := own_opAt' oA.own
  go_wp2_with fail
  go_loopw [33] (fun i wr => ∃ (j : Nat) (ov : Value), j ≤ (group A).length ∧ i = .int .i64 j ∧ MasonAt wr w3.heap.size w3.heap.size ov (group (steps ((group A).take j))) 0 ∧ OpS wr _ (.slice va (group A).length vc) A ∧ Apart w3.heap.size ov (.slice va (group A).length vc) ∧ Below w.heap.size w wr) (fun i _ => (group A).length - (RowKit.intOf i).toNat)
  case atStart => exact ⟨0, _, Nat.zero_le _, rfl, hm1, oA, hap, HB⟩
  case round =>
    obtain ⟨j, ov, hj, rfl, hm, ho, hap, hbr⟩ := hrel
    have hbz := hbr.size
    have hgm := group_many (S := A) (by omega)
    by_cases hlt : j < (group A).length
    · have hjz : (j : Int) < ((group A).length : Int) := by omega
      obtain ⟨a', c', he, hop, _⟩ := own_opAt' ho.own
      simp only [Value.slice.injEq, true_and] at he
      obtain ⟨rfl, rfl⟩ := he
      have cA := fun (o : Obj) => addPart (wr.alloc o) w3.heap.size w3.heap.size ov A j hlt 0 (hm.kept (F := fun _ => False) ((Chg.refl _ _).alloc _) (fun _ _ h => h)) (by have := (hm.lt w3.heap.size (.inl rfl)).2; simp; omega) ho.ok ho.canon (by omega)
      have hma := fun (o : Obj) => hm.kept (F := fun _ => False) ((Chg.refl (fun _ => False) wr).alloc o) (fun _ _ h => h)
      have hoa := fun (o : Obj) => ho.below ((Below.refl wr.heap.size wr).alloc (Nat.le_refl _) o)
      have hba := fun (o : Obj) => hbr.alloc hbz o
      rcases hop with h0 | ⟨g, off, rfl, hgl, hcell⟩
      · rw [h0] at hlt; simp at hlt
      · obtain ⟨q0, q1, q2⟩ := hcell j hlt
        generalize (group A)[j] = p at *
        obtain ⟨pk, pn, pt⟩ := p
        simp only at q0 q1 q2 cA
        clear hcell
        go_wp2_with fail
        refine (cA _).mono ?_
        rintro e w5 ⟨rfl, ov5, hm5, hst5⟩
        have ho5 := (hoa _).apart hap hst5
        have hap5 := hap.step hst5 (hoa _)
        have hb5 := below_two'' (hba _) hst5 (hma _) hz0
        clear cA hma hoa hba
        go_wp2_with fail
        go_roundw
        case rel => exact ⟨j + 1, ov5, hlt, by go_num, hm5, ho5, hap5, hb5⟩
        case measure => simp [RowKit.intOf]; omega
    · obtain rfl : j = (group A).length := by omega
      rw [List.take_of_length_le (Nat.le_refl _), ho.canon] at hm
      have hzb2 := (hm.lt w3.heap.size (.inl rfl)).2
      have hnk : ((t.length : Int) - (k : Int)) = ((t.length - k : Nat) : Int) := by omega
      obtain ⟨R1, R2, R3⟩ := rest_pure A t ho.ok (by omega)
      rw [eA] at R1 R2 R3
      have hcan := keeps_canon ho.ok ho.canon (t.length - k) (by omega)
      have hokk : StepsOk (A ++ List.replicate (t.length - k) (1, 0)) := ho.ok.append (.keeps _)
      have holdk : oldN (A ++ List.replicate (t.length - k) ((1 : Int), (0 : Int))) = t.length := by rw [oldN_append, oldN_rep _ _ _ (by decide)]; omega
      have hlk : (A ++ List.replicate (t.length - k) ((1 : Int), (0 : Int))).length ≤ 4000 := by simp; omega
      obtain ⟨M, hM⟩ : ∃ M, M = A ++ List.replicate (t.length - k) ((1 : Int), (0 : Int)) := ⟨_, rfl⟩
      rw [← hM] at R1 R3 hcan hokk holdk hlk
      have HM : Hid (A ++ List.replicate (t.length - k) ((1 : Int), (0 : Int)) = M) := hM.symm
      have HC : Hid (steps (group M) = M) := hcan
      have HR1 : Hid (applyS t M = applyS (t.take k) A ++ t.drop k) := R1
      have HR3 : Hid ((moveAll k true M).2 = newN A) := R3
      clear hM hcan R1 R3
      go_wp2_with fail
      refine (addK wr w3.heap.size w3.heap.size ov A 0 (t.length - k) hm (by omega) ho.ok (by omega) (by omega)).mono ?_
      rintro e w5 ⟨rfl, ov5, hm5, hst5⟩
      rw [HM.out] at hm5
      have HB5 := below_two'' hbr hst5 hm hz0
      have oM : OpS w5 _ ov5 M := ⟨hm5.own, hokk, HC.out⟩
      obtain ⟨c0, _⟩ := hm5.cells
      have hbl := (hm5.lt w3.heap.size (.inl rfl)).2
      have hokA := ho.ok
      clear hm hst5 hm5 ho hap
      go_wp2_with fail
      refine (applyCall t M ov5 _ _ cpt oM hlk holdk (hT.below HB5)).mono ?_
      rintro e w6 ⟨rfl, hb⟩
      have c06 : w6.cell? ⟨w3.heap.size, 0, none⟩ = some ov5 := (hb.cell (p := ⟨w3.heap.size, 0, none⟩) hbl).trans c0
      replace HB5 := below_two HB5 hb (Nat.le_refl _)
      replace oM := oM.below hb
      clear hb c0
      rw [HR1.out]
      go_wp2_with fail
      refine (moveCall k true M ov5 _ _ oM hlk (by omega) (hT.below HB5)).mono ?_
      rintro e w7 ⟨rfl, hb⟩
      replace HB5 := below_two HB5 hb (Nat.le_refl _)
      clear hb c06 oM
      rw [HR3.out]
      have cU0 : ∀ r ∈ applyS (t.take k) A ++ t.drop k, CP r := cp_append (applyS_ok hokA (fun r hr => cpt r (List.mem_of_mem_take hr))) (fun r hr => cpt r (List.mem_of_mem_drop hr))
      have lU0 : (applyS (t.take k) A ++ t.drop k).length = newN A + (t.length - k) := by rw [List.length_append, R2, List.length_drop]
      have dU0 : (applyS (t.take k) A ++ t.drop k).drop (newN A) = t.drop k := by rw [← R2, List.drop_left]
      generalize applyS (t.take k) A ++ t.drop k = U at *
      have hrU := runes_str cU0
      have hrT := runes_str cpt
      have hnA := newN_le A
      have fU : (str U).size ≤ 70368744177664 := by have := str_le cU0; omega
      have fT : (str t).size ≤ 70368744177664 := by have := str_le cpt; omega
      have nU : (runes (str U)).length = U.length := by rw [hrU]
      have nT : (runes (str t)).length = t.length := by rw [hrT]
      have bU : ∀ (wx : World) (G m : Nat), wx.heap[G]? = some (.cells (runeRow (str U) m) 21 (0, 0)) → U.length ≤ m → (convert 40 9 (cutV G (newN A) U.length m)).run Tryd.prog wx = .ok (.string (str (t.drop k))) wx := fun wx G m h1 h2 => by
        have := conv_tail wx (str U) m G (newN A) U.length m h1 (by rw [hrU]) (by omega) h2
        rw [hrU, dU0] at this
        exact this
      have bT : ∀ (wx : World) (G m : Nat), wx.heap[G]? = some (.cells (runeRow (str t) m) 21 (0, 0)) → t.length ≤ m → (convert 40 9 (cutV G k t.length m)).run Tryd.prog wx = .ok (.string (str (t.drop k))) wx := fun wx G m h1 h2 => by
        have := conv_tail wx (str t) m G k t.length m h1 (by rw [hrT]) (by omega) h2
        rw [hrT] at this
        exact this
      have z1 : (newN A : Int) ≤ (U.length : Int) := by omega
      have z2 : (k : Int) ≤ (t.length : Int) := by omega
      have sU := fun (wx : World) (G m : Nat) => run_cutV wx G (newN A) U.length m z1
      have sT := fun (wx : World) (G m : Nat) => run_cutV wx G k t.length m z2
      generalize str (t.drop k) = TD at *
      clear dU0 hrU hrT cU0 lU0 R2 hap HB hm1 oA HC HM HR1 HR3
      have hS0 : Below w.heap.size w w7.drew := HB5.drew
      obtain ⟨SU, hSU⟩ : ∃ SU, str U = SU := ⟨_, rfl⟩
      rw [hSU] at fU nU bU ⊢
      obtain ⟨ST, hST⟩ : ∃ ST, str t = ST := ⟨_, rfl⟩
      rw [hST] at fT nT bT ⊢
      clear hSU hST
      go_wp2_with fail
      go_region_held (fun w' => Below w.heap.size w w') (with_reducible first | exact hS0 | assumption | exact below_two (by assumption) hbz (Nat.le_refl _) | exact below_two (by assumption) hby (Nat.le_refl _)) (first | (refine upon_conv SU U.length fU nU ?_; intro G1 m1 wz hm1 hG1 hg1 hbz; have HZ : Below w.heap.size w wz := below_two (by assumption) hbz (Nat.le_refl _); have e1 := bU _ _ _ hG1 hm1; (first | have e2' := bT _ _ _ ((hbz.block _ (Array.getElem?_eq_some_iff.1 hG2).1).trans hG2) hm2 | skip)) | (refine upon_conv ST t.length fT nT ?_; intro G2 m2 wy hm2 hG2 hg2 hby; have HY : Below w.heap.size w wy := below_two (by assumption) hby (Nat.le_refl _); have e2 := bT _ _ _ hG2 hm2; (first | have e1' := bU _ _ _ ((hby.block _ (Array.getElem?_eq_some_iff.1 hG1).1).trans hG1) hm1 | skip)))
      all_goals
        as_aux_lemma =>
          go_wp2_with fail
          go_ret
          exact ⟨rfl, by assumption⟩

end Go.Proofs.YtodnocplljkjnaaDoor
