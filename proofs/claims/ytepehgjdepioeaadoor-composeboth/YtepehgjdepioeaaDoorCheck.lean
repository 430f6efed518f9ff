/-
  Walks: text.Check.
-/
import Derived.Test.YtepehgjdepioeaaDoorCheckPart
import Derived.Test.YtepehgjdepioeaaDoorLens
namespace Go.Proofs.YtepehgjdepioeaaDoor
open Go.RowKit

theorem OpAt.below {w w' : World} {a : Option Addr} {ps : List Part} (h : OpAt w a ps) (hb : Below w.heap.size w w') : OpAt w' a ps := by
  rcases h with rfl | ⟨b, off, rfl, hbs, hc⟩
  · exact .inl rfl
  · refine .inr ⟨b, off, rfl, Nat.lt_of_lt_of_le hbs hb.size, fun i hi => ?_⟩
    obtain ⟨c0, c1, c2⟩ := hc i hi
    rw [bcell hb _ _ hbs, bcell hb _ _ hbs, bcell hb _ _ hbs]
    exact ⟨c0, c1, c2⟩

theorem partsErr_drop (ah : Int) (ps : List Part) (k : Nat) (h : k < ps.length) :
    partsErr ah (ps.drop k) = if partErr ah ps[k] ≠ 0 then partErr ah ps[k] else partsErr ps[k].kind (ps.drop (k + 1)) := by
  rw [List.drop_eq_getElem_cons h]
  rfl

set_option maxHeartbeats 400000 in
theorem check_any (ps : List Part) (a : Option Addr) (cap : Nat) (w : World) (hop : OpAt w a ps) (hn : ps.length ≤ 9223372036854775806) (hs : ∀ p ∈ ps, p.text.size < 9223372036854775807) (hT : Tabs w) :
    Calls Tryd.prog 21 #[.slice a ps.length cap] w fun e w' => e = .returned (.int .i64 (opErr ps)) ∧ Below w.heap.size w w' := by
  unfold opErr
  by_cases h8 : 8001 < ps.length
  · have h8z : (8001 : Int) < (ps.length : Int) := by omega
    rw [if_pos h8]
    clear h8
    go_enter Tryd.func21, Tryd.ntmps21
    go_wp2
    go_ret
    exact ⟨rfl, Below.refl _ _⟩
  · have h8z : ¬ (8001 : Int) < (ps.length : Int) := by omega
    rw [if_neg h8]
    clear h8
    obtain ⟨R, hR⟩ : ∃ R, (if partsErr 0 ps ≠ 0 then partsErr 0 ps else if 4000 < (lens ps).1 ∨ 4000 < (lens ps).2 then 1 else 0) = R := ⟨_, rfl⟩
    rw [hR]
    have HR : Hid ((if partsErr 0 ps ≠ 0 then partsErr 0 ps else if 4000 < (lens ps).1 ∨ 4000 < (lens ps).2 then 1 else 0) = R) := hR
    clear hR
    go_enter Tryd.func21, Tryd.ntmps21
    go_wp2
    go_loopw [3, 14] (fun ahv i wr => ∃ (k : Nat) (ah : Int), k ≤ ps.length ∧ i = .int .i64 k ∧ ahv = .int .i64 ah ∧ Hid (partsErr 0 ps = partsErr ah (ps.drop k)) ∧ Below w.heap.size w wr) (fun _ i _ => ps.length - (intOf i).toNat)
    case atStart => exact ⟨0, 0, Nat.zero_le _, rfl, rfl, rfl, Below.refl _ _⟩
    case round =>
      obtain ⟨k, ah, hk, rfl, rfl, HP, hb⟩ := hrel
      by_cases hlt : k < ps.length
      · have HD : Hid (partsErr ah (ps.drop k) = if partErr ah ps[k] ≠ 0 then partErr ah ps[k] else partsErr ps[k].kind (ps.drop (k + 1))) := partsErr_drop ah ps k hlt
        rcases hop with rfl | ⟨b, off, rfl, hbs, hcell⟩
        · simp at hlt
        · obtain ⟨c0, c1, c2⟩ := hcell k hlt
          rw [← bcell hb _ _ hbs] at c0 c1 c2
          clear hcell
          have hsz : ps[k].text.size < 9223372036854775807 := hs _ (List.getElem_mem hlt)
          clear hs
          generalize ps[k] = p at *
          have b1 : Below w.heap.size w (wr.alloc (.cells #[.int .i64 p.kind, .int .i64 p.n, .string p.text] 42)) := hb.alloc hb.size _
          have cP := checkPart_any ah p _ hsz (hT.below b1)
          obtain ⟨kd, n, tx⟩ := p
          simp only at c0 c1 c2 cP b1 HD
          generalize partErr ah ⟨kd, n, tx⟩ = E at *
          by_cases h0 : E = 0
          · subst h0
            go_wp2_with (go_at_call 40; refine cP.mono ?_; rintro e w' ⟨rfl, hb'⟩; have c0 := hb'.cell (p := ⟨wr.heap.size, 0, none⟩) (by simp); simp at c0)
            go_roundw
            case rel => exact ⟨k + 1, kd, hlt, by go_num, rfl, HP.out.trans HD.out, below_two b1 hb' (Nat.le_refl _)⟩
            case measure => simp [intOf]; omega
          · have g0 : (E != 0) = true := by simpa using h0
            have hfin : Hid (E = R) := by
              have h1 := HP.out.trans HD.out
              rw [if_pos h0] at h1
              have h2 := HR.out
              rw [h1, if_pos h0] at h2
              exact h2
            clear h0
            go_wp2_with (go_at_call 40; refine cP.mono ?_; rintro e w' ⟨rfl, hb'⟩)
            go_ret
            exact ⟨ret_int hfin.out, below_two b1 hb' (Nat.le_refl _)⟩
      · have hz : partsErr 0 ps = 0 := by rw [HP.out, List.drop_of_length_le (by omega)]; rfl
        have hfin : Hid ((if 4000 < (lens ps).1 ∨ 4000 < (lens ps).2 then 1 else 0) = R) := by
          have h2 := HR.out
          rw [hz, if_neg (by omega)] at h2
          exact h2
        clear hz HP HR
        have cL := lengths_any ps a cap wr (hop.below hb) hn hs
        generalize lens ps = L at *
        obtain ⟨f, t⟩ := L
        simp only at cL hfin
        clear hop hs
        by_cases hf : 4000 < f
        · go_wp2_with (go_at_call 18; refine cL.mono ?_; rintro e w' ⟨rfl, hb'⟩)
          go_ret
          exact ⟨ret_int (by rw [← hfin.out, if_pos (.inl hf)]), below_two hb hb' (Nat.le_refl _)⟩
        · by_cases ht : 4000 < t
          · go_wp2_with (go_at_call 18; refine cL.mono ?_; rintro e w' ⟨rfl, hb'⟩)
            go_ret
            exact ⟨ret_int (by rw [← hfin.out, if_pos (.inr ht)]), below_two hb hb' (Nat.le_refl _)⟩
          · go_wp2_with (go_at_call 18; refine cL.mono ?_; rintro e w' ⟨rfl, hb'⟩)
            go_ret
            exact ⟨ret_int (by rw [← hfin.out, if_neg (by omega)]), below_two hb hb' (Nat.le_refl _)⟩

end Go.Proofs.YtepehgjdepioeaaDoor
