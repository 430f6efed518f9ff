/-
  Walk: wherrykeep.LinesFixed.
-/
import Derived.Test.YtiekmcoadmpkjaaDoorLineS
import Derived.Test.YtiekmcoadmpkjaaDoorReadF
import Derived.Test.YtiekmcoadmpkjaaDoorKTree
namespace Go.Proofs.YtiekmcoadmpkjaaDoor
open Go.RowKit Go.Lib

set_option maxRecDepth 100000 in
set_option maxHeartbeats 2000000 in
theorem linesFixed_walk (l : List Int) (a : Option Addr) (c : Nat) (s : ByteArray) (w : World) (h : Ints w a l) (hok : ∀ n ∈ l, I64 n) (hl : l.length ≤ 9223372036854775807) (_hc : l.length ≤ c) (hs : s.size ≤ 1048576) (hT : RTabs w) :
    Calls Tryd.prog 6 #[.slice a l.length c, .string s] w fun e w' => e = .returned (.bool true) ∧ Below w.heap.size w w' := by
  have cT := ktree_any l a c w h hok hl
  clear h hok
  go_enter Tryd.func6, Tryd.ntmps6
  go_wp2_with fail
  refine cT.mono ?_
  rintro r w1 ⟨v, rfl, T, hown, hTT, _, hb1⟩
  obtain ⟨ta, tc, rfl⟩ := own_form hown
  have hit : Ints w1 ta T := ints_own hown
  obtain ⟨R, hR⟩ : ∃ R, R = readX T s.data.toList := ⟨_, rfl⟩
  have c1 := read_any T ta tc s w1 hit hs (hT.below hb1) R hR
  have c2 := fun (wx : World) (hx : Below w1.heap.size w1 wx) => read_any T ta tc ⟨#[116, 105, 99, 107, 10, 116, 111, 99, 107, 10]⟩ wx (hit.below hx) (by decide) ((hT.below hb1).below hx) ([], 1, 4) (readX_tock hTT).symm
  have c3 := fun (K : List ActK) (la : Option Addr) (lc : Nat) (wx : World) (hx : Below w1.heap.size w1 wx) (hK : InK actS wx 0 (.slice la K.length lc) K) (hsm : ∀ x ∈ K, ActSmall x.1) (hl : K.length ≤ 3000) => show_any T ta tc K la lc wx (hit.below hx) hK hsm (by omega) ((hT.below hb1).below hx).l
  obtain ⟨L, i, E⟩ := R
  have hgood : E = 0 → Hid (i = 0 ∧ showR T L = (nats s.data.toList, 0, 0)) := fun e => by subst e; exact readX_back hR.symm
  have hbad : E ≠ 0 → L = [] := fun e => readX_bad hR.symm e
  clear hR hit hT hTT cT
  simp only at c1
  go_wp2_with fail
  refine c1.mono ?_
  clear c1
  rintro r w2 ⟨⟨K, v, rfl, hK, hKL, hK3, hsm⟩, hb2⟩
  obtain ⟨la, lc, rfl⟩ := own_form hK.row
  replace c2 := c2 w2 hb2
  go_wp2_with fail
  refine c2.mono ?_
  clear c2
  rintro r w3 ⟨⟨K', v', rfl, _, _, _, _⟩, hb3⟩
  have HB12 := below_two hb2 hb3 (Nat.le_refl _)
  have HB3 := below_two hb1 HB12 (Nat.le_refl _)
  have hK' := (hK.below hb3).inK.base (Nat.zero_le _)
  by_cases hE : E = 0
  · subst hE
    have hg := hgood rfl
    have c4 := c3 K la lc w3 HB12 hK' hsm hK3
    rw [hKL, hg.out.2] at c4
    simp only [bstr_nats] at c4
    have hi : i = 0 := hg.out.1
    subst hi
    have g2 : (s.toList == s.toList) = true := by simp
    clear hgood hbad hg c3 hK hK' hKL hsm HB12
    go_wp2_with fail
    refine c4.mono ?_
    clear c4
    rintro r w4 ⟨rfl, hb4⟩
    have HB4 := below_two HB3 hb4 (Nat.le_refl _)
    go_wp2_with fail
    go_ret
    exact ⟨by simp, HB4⟩
  · have hL : L = [] := hbad hE
    subst hL
    have hk0 : K = [] := List.map_eq_nil_iff.1 hKL
    subst hk0
    have hEz : (E != 0) = true := by simpa using hE
    have hi0 : (0 : Int) ≤ (i : Int) := by omega
    clear hgood hbad c3 hK hK' hKL hsm HB12 hE
    go_wp2_with fail
    go_ret
    exact ⟨by simp, HB3⟩
end Go.Proofs.YtiekmcoadmpkjaaDoor
