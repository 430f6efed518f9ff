/-
  Walk: wherrykeep.TapeLengths.
-/
import Derived.Test.YtknjnfknalfbdaaDoorKTaped
import Derived.Test.YtknjnfknalfbdaaDoorTapeFirst
namespace Go.Proofs.YtknjnfknalfbdaaDoor
open Go.RowKit Go.Lib

theorem kmap_okL {K : List RecC} (h : RecsOk K) : ∀ r ∈ K.map (·.1), RecOk r.1 r.2 := by
  intro r hr
  obtain ⟨x, hx, rfl⟩ := List.mem_map.1 hr
  exact h x hx

set_option maxRecDepth 100000 in
set_option maxHeartbeats 2000000 in
theorem tapeLengths_walk (rs : List RawV) (a : Option Addr) (cap : Nat) (w : World) (hr : RawsAt w a rs) (hok : ∀ r ∈ rs, RawOk r) (hlen : rs.length ≤ 9223372036854775807) (hcap : rs.length ≤ cap) (hT : Tabs w) :
    Calls Tryd.prog 18 #[.slice a rs.length cap] w fun e w' => e = .returned (.bool true) ∧ Below w.heap.size w w' := by
  have cR := records_any rs a cap 10 w hr hok hlen hcap (by decide)
  clear hr hok
  go_enter Tryd.func18, Tryd.ntmps18
  go_wp2_with fail
  refine cR.mono ?_
  rintro e w1 ⟨v1, rfl, K, hK, hKok, hKl, hb1⟩
  obtain ⟨ka, kc, rfl, -, -, hKa⟩ := hK.recs
  have hRok := kmap_okL hKok
  have hRl : (K.map (·.1)).length ≤ 10 := by rw [List.length_map]; exact hKl
  clear hK hKok hKl cR
  generalize K.map (·.1) = R at *
  have cT := taped_any R ka kc w1 hKa hRok (by omega) (hT.below hb1)
  have hL : (tapeT R).length ≤ 2000150 := by
    have h1 := tapeT_bound R hRok
    omega
  go_wp2_with fail
  refine cT.mono ?_
  rintro e w2 ⟨v2, rfl, hown2, hb2⟩
  obtain ⟨va, vc, rfl, hA⟩ := bArg_own hown2
  have HB2 := below_two hb1 hb2 (Nat.le_refl _)
  have ht := heap_alloc_new w2 (.cells #[.slice va (tapeT R).length vc, .int .i64 0] 80)
  have hba := (Below.refl w2.heap.size w2).alloc (Nat.le_refl _) (.cells #[.slice va (tapeT R).length vc, .int .i64 0] 80)
  have HB3 := below_two HB2 hba (Nat.le_refl _)
  have hA3 := hA.below hba
  have hK3 := (hKa.below hb2).below hba
  have hT3 := hT.below HB3
  have hz3 := HB2.size
  clear cT hown2 hA hba hb1 hb2 HB2 hKa
  go_wp2_with fail
  generalize (w2.alloc (.cells #[.slice va (tapeT R).length vc, .int .i64 0] 80)) = w3 at *
  go_loopg [6, 22] R.length (fun g nv iv wr => ∃ i : Nat, i + g = R.length ∧ iv = .int .i64 (i : Int) ∧ nv = .int .i64 ((tapeT (R.take i)).length : Int) ∧ Below w3.heap.size w3 wr)
  case atStart => exact ⟨0, by omega, rfl, rfl, Below.refl _ _⟩
  case round =>
    obtain ⟨i, hi, rfl, rfl, hb⟩ := hrel
    have ht' := (hb.block _ (Array.getElem?_eq_some_iff.1 ht).1).trans ht
    by_cases hlt : i < R.length
    · have hiz : (i : Int) < (R.length : Int) := by omega
      have hi0 : (0 : Int) ≤ (i : Int) := by omega
      have hrk := hRok R[i] (List.getElem_mem hlt)
      have hnx := tapeT_next R hlt
      have hml := recT_many hrk
      have hrl := recT_length R[i]
      have hle := tapeT_take_mono R (show i + 1 ≤ R.length by omega)
      rw [List.take_length] at hle
      have hpre : ∀ m, m < (tapeT (R.take (i + 1))).length → (tapeT R)[m]? = (tapeT (R.take (i + 1)))[m]? := by
        intro m hm
        have e : tapeT R = tapeT (R.take (i + 1)) ++ tapeT (R.drop (i + 1)) := by rw [← tapeT_append, List.take_append_drop]
        rw [e, List.getElem?_append_left hm]
      have hll : (tapeT (R.take (i + 1))).length = (tapeT (R.take i)).length + 3 + (recW R[i].1 R[i].2).length := by rw [hnx, List.length_append, hrl]; omega
      have hhead : ∀ m, m < 3 → (tapeT R)[(tapeT (R.take i)).length + m]? = (head3 (recW R[i].1 R[i].2).length)[m]? := by
        intro m hm
        rw [hpre _ (by omega), hnx, List.getElem?_append_right (by omega), Nat.add_sub_cancel_left]
        unfold recT
        rw [List.getElem?_append_left (by simp [head3]; omega)]
      have HN : Hid ((tapeT (R.take (i + 1))).length = (tapeT (R.take i)).length + 3 + (recW R[i].1 R[i].2).length) := hll
      have hmany := hrk.many
      rcases hA3.by_ with h0 | ⟨g, off, rfl, hgl, hx⟩
      · exfalso
        have : (tapeT R).length = 0 := by rw [h0]; rfl
        omega
      · have hxk : ∀ m (hm : m < 3) (v : Nat), (head3 (recW R[i].1 R[i].2).length)[m]? = some v → wr.cell? ⟨g, off + ((tapeT (R.take i)).length + m), none⟩ = some (.int .u8 (v : Int)) := by
          intro m hm v hv
          rw [hb.cell (p := ⟨g, off + ((tapeT (R.take i)).length + m), none⟩) hgl, hx _ (by omega)]
          have := hhead m hm
          rw [hv, List.getElem?_eq_getElem (by omega)] at this
          rw [Option.some.inj this]
        have c0 := hxk 0 (by omega) _ rfl
        have c1 := hxk 1 (by omega) _ rfl
        have c2 := hxk 2 (by omega) _ rfl
        rw [Nat.add_zero] at c0
        rcases hK3 with hz | ⟨rb, roff, rfl, hrbl, hrc⟩
        · rw [hz] at hlt; simp at hlt
        · obtain ⟨oa, oc, d0, d1, hop⟩ := hrc i hlt
          replace d0 := (hb.cell (p := ⟨rb, roff + i * 2, none⟩) hrbl).trans d0
          replace d1 := (hb.cell (p := ⟨rb, roff + i * 2 + 1, none⟩) hrbl).trans d1
          have hba := (Below.refl wr.heap.size wr).alloc (Nat.le_refl _) (.cells #[.int .i64 (R[i].1 : Int), .slice oa R[i].2.length oc] 74)
          have hbb := below_two hb hba (Nat.le_refl _)
          have cE := encodeRecord_ok (R[i].1 : Int) R[i].2 oa oc _ (hop.below hbb) hrk.text (hT3.below hbb) hrk.err
          rw [show ((R[i].1 : Nat) : Int).toNat = R[i].1 by omega] at cE
          have hxl : (tapeT (R.take i)).length + 3 + (recW R[i].1 R[i].2).length ≤ (tapeT R).length := by omega
          clear hx hxk hhead hpre hrc hnx hll hml hrl hle hrk hop hbb
          generalize (tapeT (R.take i)).length = N at *
          generalize recW R[i].1 R[i].2 = rw_ at *
          generalize R[i] = rc at *
          obtain ⟨en, ps⟩ := rc
          simp only at d0 d1 cE
          have htb := row_old ht' (.cells #[.int .i64 (en : Int), .slice oa ps.length oc] 74)
          have hrb := heap_alloc_new wr (.cells #[.int .i64 (en : Int), .slice oa ps.length oc] 74)
          obtain ⟨q0, ql0, _⟩ := blk hrb
          clear ht'
          go_wp2_with fail
          refine cE.mono ?_
          rintro r w5 ⟨v5, rfl, hown5, hb5⟩
          obtain ⟨ba, bc, rfl⟩ := own_form hown5
          have hb6 := below_two hba hb5 (Nat.le_refl _)
          have hb7 := below_two hb hb6 (Nat.le_refl _)
          replace htb := (hb5.block _ (Array.getElem?_eq_some_iff.1 htb).1).trans htb
          replace c0 := (hb6.cell (p := ⟨g, off + N, none⟩) (World.block_lt_of_cell? wr _ c0)).trans c0
          replace c1 := (hb6.cell (p := ⟨g, off + (N + 1), none⟩) (World.block_lt_of_cell? wr _ c1)).trans c1
          replace c2 := (hb6.cell (p := ⟨g, off + (N + 2), none⟩) (World.block_lt_of_cell? wr _ c2)).trans c2
          clear cE q0 ql0 hrb hown5 hb5 hb6 hba d0 d1
          generalize rw_.length = M at *
          have hor : ∀ x0 x1 x2 : Nat, x0 = M / 65536 → x1 = M / 256 % 256 → x2 = M % 256 → bits BinOp.or IntKind.i64 (bits BinOp.or IntKind.i64 (IntKind.i64.wrap (IntKind.i64.wrap (x0 : Int) * 65536)) (IntKind.i64.wrap (IntKind.i64.wrap (x1 : Int) * 256))) (IntKind.i64.wrap (x2 : Int)) = (M : Int) := by
            intro x0 x1 x2 e0 e1 e2
            rw [or_num (by omega) (by omega) (by omega)]
            omega
          obtain ⟨x0, hx0⟩ : ∃ x0, x0 = M / 65536 := ⟨_, rfl⟩
          obtain ⟨x1, hx1⟩ : ∃ x1, x1 = M / 256 % 256 := ⟨_, rfl⟩
          obtain ⟨x2, hx2⟩ : ∃ x2, x2 = M % 256 := ⟨_, rfl⟩
          replace hor := hor x0 x1 x2 hx0 hx1 hx2
          rw [← hx0] at c0
          rw [← hx1] at c1
          rw [← hx2] at c2
          clear hx0 hx1 hx2
          have k0 := tp_of htb
          have hS0 : (fun w' : World => w'.cell? ⟨w2.heap.size, 0, none⟩ = some (.slice (some ⟨g, off, none⟩) (tapeT R).length vc) ∧ w'.cell? ⟨g, off + N, none⟩ = some (.int .u8 (x0 : Int)) ∧ w'.cell? ⟨g, off + (N + 1), none⟩ = some (.int .u8 (x1 : Int)) ∧ w'.cell? ⟨g, off + (N + 2), none⟩ = some (.int .u8 (x2 : Int))) w5.drew := ⟨k0.1, c0, c1, c2⟩
          have hw1 : IntKind.i64.wrap ((N : Int) + 1) = (N : Int) + 1 := by rw [IntKind.wrap_i64]; omega
          have hw2 : IntKind.i64.wrap ((N : Int) + 2) = (N : Int) + 2 := by rw [IntKind.wrap_i64]; omega
          have hw3 : IntKind.i64.wrap ((N : Int) + 3) = (N : Int) + 3 := by rw [IntKind.wrap_i64]; omega
          have ht1 : ((N : Int) + 1).toNat = N + 1 := by omega
          have ht2 : ((N : Int) + 2).toNat = N + 2 := by omega
          have hgd : decide (((tapeT R).length : Int) < (N : Int) + 3) = false := decide_eq_false (by omega)
          have hN0 : (N : Int) < ((tapeT R).length : Int) := by omega
          have hN1 : (N : Int) + 1 < ((tapeT R).length : Int) := by omega
          have hN2 : (N : Int) + 2 < ((tapeT R).length : Int) := by omega
          have hM0 : (0 : Int) ≤ (N : Int) := by omega
          have hM1 : (0 : Int) ≤ (N : Int) + 1 := by omega
          have hM2 : (0 : Int) ≤ (N : Int) + 2 := by omega
          go_wp2_with fail
          go_region_held3 (fun w' : World => w'.cell? ⟨w2.heap.size, 0, none⟩ = some (.slice (some ⟨g, off, none⟩) (tapeT R).length vc) ∧ w'.cell? ⟨g, off + N, none⟩ = some (.int .u8 (x0 : Int)) ∧ w'.cell? ⟨g, off + (N + 1), none⟩ = some (.int .u8 (x1 : Int)) ∧ w'.cell? ⟨g, off + (N + 2), none⟩ = some (.int .u8 (x2 : Int))) (with_reducible first | exact hS0 | assumption) (fail)
          have hb8 := below_two hb7 (below_drew w5) (Nat.le_refl _)
          clear hor hw1 hw2 hw3 ht1 ht2 hgd hS0 k0 c0 c1 c2 hb7
          go_wp2_with fail
          go_roundg (R.length - i - 1)
          case measure => omega
          case rel => exact ⟨i + 1, by omega, by go_num, by rw [HN.out]; go_num, hb8⟩
    · have hiz : ¬ (i : Int) < (R.length : Int) := by omega
      have HQ : Hid (R.take i = R) := List.take_of_length_le (by omega)
      rw [HQ.out]
      have hap : appendT [] 1 1 [] = ([], 0, 9) := by
        unfold appendT
        rw [if_neg (fun h => by have := h.2.2; simp at this)]
      have cA := append_any [] none 0 1 1 [] none 0 wr (bArg_nil wr) (by simp) (.inl rfl) (by simp) (by simp) (hT3.below hb)
      rw [hap] at cA
      simp only [List.length_nil] at cA
      obtain ⟨q0, ql0, _⟩ := blk ht'
      clear hap
      go_wp2_with fail
      refine cA.mono ?_
      rintro r w5 ⟨v5, rfl, hown5, hb5⟩
      obtain ⟨xa, xc, rfl⟩ := own_form hown5
      have htb := row_old ((hb5.block _ ql0).trans ht') (.cells #[.slice xa 0 xc, .int .i64 0] 80)
      have hbx := (Below.refl w5.heap.size w5).alloc (Nat.le_refl _) (.cells #[.slice xa 0 xc, .int .i64 0] 80)
      have HB9 := below_two (below_two (below_two HB3 hb (Nat.le_refl _)) hb5 (Nat.le_refl _)) hbx (Nat.le_refl _)
      clear cA q0 ql0 ht' hown5 hb5 hbx
      obtain ⟨q0, ql0, _⟩ := blk htb
      generalize tapeT R = L at *
      go_wp2_with fail
      go_ret
      exact ⟨by simp, HB9⟩

end Go.Proofs.YtknjnfknalfbdaaDoor
