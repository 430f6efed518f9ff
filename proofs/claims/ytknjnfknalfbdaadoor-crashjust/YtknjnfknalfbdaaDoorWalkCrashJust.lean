/-
  Walk: wherrykeep.CrashJust.
-/
import Derived.Test.YtknjnfknalfbdaaDoorKTaped
namespace Go.Proofs.YtknjnfknalfbdaaDoor
open Go.RowKit Go.Lib

theorem kmap_ok {K : List RecC} (h : RecsOk K) : ∀ r ∈ K.map (·.1), RecOk r.1 r.2 := by
  intro r hr
  obtain ⟨x, hx, rfl⟩ := List.mem_map.1 hr
  exact h x hx

set_option maxRecDepth 100000 in
set_option maxHeartbeats 2000000 in
theorem crashJust_walk (rs : List RawV) (a : Option Addr) (cap : Nat) (at_ keep : Int) (w : World) (hr : RawsAt w a rs) (hok : ∀ r ∈ rs, RawOk r) (hlen : rs.length ≤ 9223372036854775807) (hcap : rs.length ≤ cap) (ha : -9223372036854775808 ≤ at_ ∧ at_ ≤ 9223372036854775807) (hk : -9223372036854775808 ≤ keep ∧ keep ≤ 9223372036854775807) (hT : Tabs w) :
    Calls Tryd.prog 16 #[.slice a rs.length cap, .int .i64 at_, .int .i64 keep] w fun e w' => e = .returned (.bool true) ∧ Below w.heap.size w w' := by
  have cR := records_any rs a cap 15 w hr hok hlen hcap (by decide)
  clear hr hok
  go_enter Tryd.func16, Tryd.ntmps16
  go_wp2_with fail
  refine cR.mono ?_
  rintro e w1 ⟨v1, rfl, K, hK, hKok, hKl, hb1⟩
  obtain ⟨ka, kc, rfl, -, -, hKa⟩ := hK.recs
  have hRok := kmap_ok hKok
  have hRl : (K.map (·.1)).length ≤ 15 := by rw [List.length_map]; exact hKl
  clear hK hKok hKl cR
  generalize K.map (·.1) = R at *
  have cT := taped_any R ka kc w1 hKa hRok (by omega) (hT.below hb1)
  have hL : (tapeT R).length ≤ 2000150 := by
    have h1 := tapeT_bound R hRok
    omega
  generalize tapeT R = L at *
  clear hKa hRok
  go_wp2_with fail
  refine cT.mono ?_
  rintro e w2 ⟨v2, rfl, hown2, hb2⟩
  obtain ⟨va, vc, rfl, hA⟩ := bArg_own hown2
  have HB2 := below_two hb1 hb2 (Nat.le_refl _)
  have ht := heap_alloc_new w2 (.cells #[.slice va L.length vc, .int .i64 0] 80)
  have hba := (Below.refl w2.heap.size w2).alloc (Nat.le_refl _) (.cells #[.slice va L.length vc, .int .i64 0] 80)
  have HB3 := below_two HB2 hba (Nat.le_refl _)
  have hA3 := hA.below hba
  have hbw2 := hba
  have hp := pick_lt keep 200 (by omega)
  have cP := picked_same keep 200 (w2.alloc (.cells #[.slice va L.length vc, .int .i64 0] 80)) hk (by omega) (by omega)
  have hz2 := HB2.size
  clear cT hown2 hba hb1 hb2 HB2
  go_wp2_with fail
  refine cP.mono ?_
  generalize (w2.alloc (.cells #[.slice va L.length vc, .int .i64 0] 80)) = w3 at *
  rintro e w4 ⟨rfl, rfl⟩
  generalize pick keep 200 = k at *
  obtain ⟨q0, ql0, qf0⟩ := blk ht
  have cQ := picked_same at_ ((L.length : Int) + 1) w4 ha (by omega) (by omega)
  have hq := pick_lt at_ ((L.length : Int) + 1) (by omega)
  clear cP
  generalize pick at_ ((L.length : Int) + 1) = s at *
  go_wp2_with fail
  refine cQ.mono ?_
  rintro e w5 ⟨rfl, rfl⟩
  obtain ⟨hts, hch⟩ := blk_put ht 1 (.int .i64 (s : Int))
  simp only [List.setIfInBounds_toArray, List.set_cons_succ, List.set_cons_zero] at hts
  have HB5 := HB3.trans (hch.below (B := w.heap.size) (fun i e => by omega) HB3.size)
  have hA5 : BArg (w5.setCell ⟨w2.heap.size, 1, none⟩ (.int .i64 (s : Int))) va vc L := hA.below (hbw2.trans (hch.below (B := w2.heap.size) (fun i e => by omega) hbw2.size))
  clear cQ hA3 hch hA HB3 hbw2
  have hok : tapeOk L.length (s : Int) := ⟨by omega, by omega, by omega⟩
  obtain ⟨N, hN⟩ : ∃ N : Nat, (N : Int) = (s : Int) + min (k : Int) ((L.length : Int) - (s : Int)) := ⟨((s : Int) + min (k : Int) ((L.length : Int) - (s : Int))).toNat, by omega⟩
  have hR1 : crashT L (s : Int) (k : Int) = (L.take N, (N : Int), 0) := by unfold crashT; rw [if_pos hok, if_neg (by omega), ← hN, Int.toNat_natCast]
  have hR2 : crashT L (s : Int) (-1 - (k : Int)) = ([], 0, 2) := by unfold crashT; rw [if_pos hok, if_pos (by omega)]
  have hmin : min ((s : Int) + (k : Int)) (L.length : Int) = (N : Int) := by omega
  have hNl : N ≤ L.length := by omega
  have hln : (L.take N).length = N := by rw [List.length_take]; omega
  have c1 := crash_any L va vc (s : Int) (k : Int) (w5.setCell ⟨w2.heap.size, 1, none⟩ (.int .i64 (s : Int))) hA5 (by omega) (by omega)
  rw [hR1] at c1
  simp only at c1
  rw [hln] at c1
  have c2 := fun wx (hx : Below (w5.setCell ⟨w2.heap.size, 1, none⟩ (.int .i64 (s : Int))).heap.size (w5.setCell ⟨w2.heap.size, 1, none⟩ (.int .i64 (s : Int))) wx) => crash_any L va vc (s : Int) (-1 - (k : Int)) wx (hA5.below hx) (by omega) (by omega)
  rw [hR2] at c2
  simp only at c2
  have hcut := (cut_bytes va L.length vc N hNl hA5.cap (N : Int) rfl).1
  have hby := hA5.by_
  have hby2 := hA5.by_.take N
  clear hok hN hR1 hR2 hln hA5
  generalize L.take N = M at *
  obtain ⟨r0, rl0, _⟩ := blk hts
  go_wp2_with fail
  clear q0 ql0 qf0 ht
  generalize (w5.setCell ⟨w2.heap.size, 1, none⟩ (.int .i64 (s : Int))) = w6 at *
  refine c1.mono ?_
  rintro e w7 ⟨v7, rfl, hown7, hb7⟩
  obtain ⟨ua, uc, rfl⟩ := own_form hown7
  replace hts := row_old ((hb7.block _ rl0).trans hts) (.cells #[.slice ua N uc, .int .i64 (N : Int)] 80)
  have hu := heap_alloc_new w7 (.cells #[.slice ua N uc, .int .i64 (N : Int)] 80)
  have hba := (Below.refl w7.heap.size w7).alloc (Nat.le_refl _) (.cells #[.slice ua N uc, .int .i64 (N : Int)] 80)
  have hb8 := below_two hb7 hba (Nat.le_refl _)
  have hown8 := own_below hown7 hba
  have c2' := c2 _ hb8
  clear c1 c2 r0 rl0 hba hown7 hb7
  obtain ⟨q0, ql0, _⟩ := blk hts
  obtain ⟨q1, ql1, _⟩ := blk hu
  have hm1 : (-9223372036854775808 : Int) ≤ -1 - (k : Int) := by omega
  go_wp2_with fail
  refine c2'.mono ?_
  generalize (w7.alloc (.cells #[.slice ua N uc, .int .i64 (N : Int)] 80)) = w8 at *
  rintro e w9 ⟨v9, rfl, hown9, hb9⟩
  obtain ⟨xa, xc, rfl⟩ := own_form hown9
  simp only [List.length_nil] at hown9 ⊢
  replace hts := row_old ((hb9.block _ ql0).trans hts) (.cells #[.slice xa 0 xc, .int .i64 0] 80)
  replace hu := row_old ((hb9.block _ ql1).trans hu) (.cells #[.slice xa 0 xc, .int .i64 0] 80)
  have hbx := (Below.refl w9.heap.size w9).alloc (Nat.le_refl _) (.cells #[.slice xa 0 xc, .int .i64 0] 80)
  have hb10 := below_two (below_two hb8 hb9 (Nat.le_refl _)) hbx (Nat.le_refl _)
  have hown10 := own_below (own_below hown8 hb9) hbx
  have hsl : N = M.length := by
    have := hown10.1
    rw [octs_length] at this
    omega
  have hcv1 : ∀ wx : World, Bytes wx ua M → (convert 75 9 (.slice ua N uc)).run Tryd.prog wx = .ok (.string (bstr M)) wx := fun wx h => by rw [hsl]; exact conv_bytes h uc
  have hcv2 : ∀ wx : World, Bytes wx va M → (convert 75 9 (.slice va N vc)).run Tryd.prog wx = .ok (.string (bstr M)) wx := fun wx h => by rw [hsl]; exact conv_bytes h vc
  have hbu : Bytes (w9.alloc (.cells #[.slice xa 0 xc, .int .i64 0] 80)) ua M := by
    have h' := hown10
    rw [hsl] at h'
    obtain ⟨_, _, e1, b1⟩ := bArg_own h'
    simp only [Value.slice.injEq, true_and] at e1
    obtain ⟨rfl, rfl⟩ := e1
    exact b1.by_
  replace hcv1 := hcv1 (w9.alloc (.cells #[.slice xa 0 xc, .int .i64 0] 80)).drew (hbu.below (below_drew _))
  replace hcv2 := hcv2 (w9.alloc (.cells #[.slice xa 0 xc, .int .i64 0] 80)).drew ((hby2.below hb10).below (below_drew _))
  have HB9 := below_two HB5 hb10 (Nat.le_refl _)
  clear hsl hbx hown8 hown9 hown10 hby hby2 hbu hb8 hb9 hb10 c2' q0 q1 ql0 ql1
  have k0 := tp_of hts
  have k1 := tp_of hu
  have hS0 : (fun w' : World => w'.cell? ⟨w7.heap.size, 0, none⟩ = some (.slice ua N uc) ∧ w'.cell? ⟨w7.heap.size, 1, none⟩ = some (.int .i64 (N : Int)) ∧ w'.cell? ⟨w2.heap.size, 0, none⟩ = some (.slice va L.length vc) ∧ (convert 75 9 (.slice ua N uc)).run Tryd.prog w' = .ok (.string (bstr M)) w' ∧ (convert 75 9 (.slice va N vc)).run Tryd.prog w' = .ok (.string (bstr M)) w') (w9.alloc (.cells #[.slice xa 0 xc, .int .i64 0] 80)).drew := ⟨k1.1, k1.2, k0.1, hcv1, hcv2⟩
  have HB10 := below_two HB9 (below_drew _) (Nat.le_refl _)
  clear hcv1 hcv2 k0 k1 hts hu HB9
  go_wp2_with fail
  go_region_held3 (fun w' : World => w'.cell? ⟨w7.heap.size, 0, none⟩ = some (.slice ua N uc) ∧ w'.cell? ⟨w7.heap.size, 1, none⟩ = some (.int .i64 (N : Int)) ∧ w'.cell? ⟨w2.heap.size, 0, none⟩ = some (.slice va L.length vc) ∧ (convert 75 9 (.slice ua N uc)).run Tryd.prog w' = .ok (.string (bstr M)) w' ∧ (convert 75 9 (.slice va N vc)).run Tryd.prog w' = .ok (.string (bstr M)) w') (with_reducible first | exact hS0 | assumption) (fail)
  go_wp2_with fail
  go_ret
  exact ⟨by simp, HB10⟩

end Go.Proofs.YtknjnfknalfbdaaDoor
