/-
  Walk: wherrykeep.TreeBad.
-/
import Derived.Test.YtnjhcnfnllojpaaSKTree
namespace Go.Proofs.Ytnjhcnfnllojpaa
open Go.RowKit Go.Lib

set_option maxRecDepth 100000 in
set_option maxHeartbeats 2000000 in
theorem treeBad_walk (l : List Int) (a : Option Addr) (c : Nat) (x y : Int) (w : World) (h : Ints w a l) (hok : ∀ n ∈ l, I64 n) (hl : l.length ≤ 9223372036854775807) (_hc : l.length ≤ c) (hx : I64 x) (hy : I64 y) :
    Calls Try.prog 4 #[.slice a l.length c, .int .i64 x, .int .i64 y] w fun e w' => e = .returned (.bool true) ∧ Below w.heap.size w w' := by
  have cT := ktree_any l a c w h hok hl
  go_enter Try.func4, Try.ntmps4
  go_wp2_with fail
  refine cT.mono ?_
  rintro r w1 ⟨v, rfl, T, hown, hT, hTl, hb1⟩
  clear cT h hok hTl
  obtain ⟨ta, tc, rfl⟩ := own_form hown
  obtain ⟨hs, _⟩ := treeErr_zero hT
  have HT : Hid (treeErr T = 0) := hT
  clear hT
  have cK := fun wx => picked_same x (T.length : Int) wx hx (by omega) (by omega)
  have hk := pick_lt x (T.length : Int) (by omega)
  generalize pick x (T.length : Int) = k at *
  have cN := fun wx => picked_same y 12 wx hy (by omega) (by omega)
  have hn := pick_lt y 12 (by omega)
  generalize pick y 12 = n at *
  have hz1 := hb1.size
  go_wp2_with fail
  refine (cK _).mono ?_
  rintro r wx ⟨rfl, hwx⟩
  rw [hwx]
  clear hwx wx
  go_wp2_with fail
  refine (cN _).mono ?_
  rintro r wx ⟨rfl, hwx⟩
  rw [hwx]
  clear hwx wx
  clear cK cN
  have hsrc := srcI_own hown
  have hit := ints_own hown
  obtain ⟨E, hE⟩ : ∃ E, treeErr (T.set k ((n : Int) - 2)) = E := ⟨_, rfl⟩
  have HE : Hid (treeErr (T.set k ((n : Int) - 2)) = E) := hE
  rw [treeErr_set HT.out (by omega)] at hE
  have hcase : ((k : Int) == 0) = true ∧ ((n : Int) - 2 == -1) = true ∧ E = 0 ∨ ((k : Int) == 0) = true ∧ ((n : Int) - 2 == -1) = false ∧ ¬ (0 : Int) < (k : Int) ∧ E = 4 ∨ ((k : Int) == 0) = false ∧ (0 : Int) < (k : Int) ∧ (n : Int) - 2 < 0 ∧ E = 4 ∨ ((k : Int) == 0) = false ∧ (0 : Int) < (k : Int) ∧ (¬ (n : Int) - 2 < 0) ∧ (¬ (n : Int) - 2 < (k : Int)) ∧ E = 4 ∨ ((k : Int) == 0) = false ∧ (0 : Int) < (k : Int) ∧ (¬ (n : Int) - 2 < 0) ∧ (n : Int) - 2 < (k : Int) ∧ E = 0 := by
    unfold treeAt at hE
    by_cases hk0 : k = 0
    · rw [if_pos hk0] at hE
      by_cases hn1 : (n : Int) - 2 = -1
      · left; exact ⟨by simp; omega, by simp; omega, by rw [← hE, if_pos (decide_eq_true hn1)]⟩
      · right; left; exact ⟨by simp; omega, by simp; omega, by omega, by rw [← hE, if_neg (by simpa using hn1)]⟩
    · right; right
      rw [if_neg hk0] at hE
      by_cases h1 : (n : Int) - 2 < 0
      · left; exact ⟨by simp; omega, by omega, h1, by rw [← hE, if_neg (by simp; omega)]⟩
      · right
        by_cases h2 : (n : Int) - 2 < (k : Int)
        · right; exact ⟨by simp; omega, by omega, h1, h2, by rw [← hE, if_pos (decide_eq_true (by omega))]⟩
        · left; exact ⟨by simp; omega, by omega, h1, h2, by rw [← hE, if_neg (by simp; omega)]⟩
  clear hE
  have hkl : (k : Int) < (T.length : Int) := hk
  have hk0 : (0 : Int) ≤ (k : Int) := by omega
  have cT : ∀ wz, Below w1.heap.size w1 wz → Calls Try.prog 5 #[.slice ta T.length tc] wz fun r w' => r = .returned (.int .i64 0) ∧ w' = wz := fun wz hz => by
    have := checkTree_any T ta tc wz (hit.below hz)
    rw [HT.out] at this
    exact this
  have c0 : ∀ wz, Calls Try.prog 5 #[.slice none 0 0] wz fun r w' => r = .returned (.int .i64 1) ∧ w' = wz := fun wz => checkTree_any [] none 0 wz (.inl rfl)
  rcases hcase with ⟨g1, g2, hE⟩ | ⟨g1, g2, g3, hE⟩ | ⟨g1, g2, g3, hE⟩ | ⟨g1, g2, g3, g4, hE⟩ | ⟨g1, g2, g3, g4, hE⟩
  all_goals
    subst hE
    go_wp2_with (at_builtin; refine wpList_append_ints rfl _ _ rfl w1.heap.size (Nat.le_refl _) (.slice none 0 0) 0 [] (by rfl) (World.ownsRow_nil _ _ _ _) ta tc T (by rfl) hsrc (by omega) ?_; intro v2 w2 hown2 hgr2 hmv2; rw [Nat.zero_add, List.nil_append] at hown2; have hfm := World.ownsRow.form hown2 (by omega); obtain ⟨g, cap, rfl, hbg, _⟩ := hfm; have hfz := hown2.frozenAt k; have hcl := (hown2.cellAt k (by omega)).trans (intVals_get (show k < T.length by omega)); have hst := hown2.stored k (.int .i64 ((n : Int) - 2)))
    obtain ⟨hown3, hgr3⟩ := hst
    have HB2 : Below w1.heap.size w1 w2 := (Below.refl _ _).grown hgr2 (Nat.le_refl _) (fun j e => by simp [Value.ownBlock] at e)
    have HB3 := HB2.grown hgr3 HB2.size (fun j e => by cases e; exact hbg)
    have hlen : (T.set k ((n : Int) - 2)).length = T.length := List.length_set
    have hitu := ints_own (l := T.set k ((n : Int) - 2)) (by rw [hlen, intVals_set]; exact hown3)
    have cU := checkTree_any (T.set k ((n : Int) - 2)) (some ⟨g, 0, none⟩) cap _ hitu
    rw [hlen, HE.out] at cU
    clear hown3 hgr3 hcl hfz hown2 hgr2 hmv2 hitu hlen HE HT hsrc hit hown HB2
    generalize (w2.setCell ⟨g, k, none⟩ (.int .i64 ((n : Int) - 2))) = w3 at *
    refine cU.mono ?_
    rintro r w4 ⟨rfl, hw4⟩
    rw [hw4]
    clear hw4 w4 cU
    go_wp2_with fail
    refine (cT _ HB3).mono ?_
    rintro r w4 ⟨rfl, hw4⟩
    rw [hw4]
    clear hw4 w4 cT
    go_wp2_with fail
    refine (c0 _).mono ?_
    rintro r w4 ⟨rfl, hw4⟩
    rw [hw4]
    clear hw4 w4 c0
    go_wp2_with fail
    go_ret
    exact ⟨by first | rfl | (rw [decide_eq_false (by omega : ¬ (n : Int) - 2 < (k : Int))]; rfl) | (rw [decide_eq_true (by omega : (n : Int) - 2 < (k : Int))]; rfl), below_two hb1 HB3 (Nat.le_refl _)⟩

end Go.Proofs.Ytnjhcnfnllojpaa
