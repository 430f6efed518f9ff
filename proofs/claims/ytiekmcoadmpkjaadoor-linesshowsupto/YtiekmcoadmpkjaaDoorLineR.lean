/-
  Walks: wherryref.Dec, hexDigit, hexOf.
-/
import Derived.Test.YtiekmcoadmpkjaaDoorLineS
import Derived.Deep.RegionLaw
namespace Go.Proofs.YtiekmcoadmpkjaaDoor
open Go.RowKit Go.Lib

theorem bytes_new (w : World) (c : Int) (x : Nat) (hc : c = (x : Int)) : Bytes (w.alloc (.cells #[.int .u8 c] 5)) (some ⟨w.heap.size, 0, none⟩) [x] := by
  subst hc
  refine .inr ⟨w.heap.size, 0, rfl, by simp, fun i hi => ?_⟩
  have : i = 0 := by simp at hi; omega
  subst this
  exact (blk (heap_alloc_new w (.cells #[.int .u8 (x : Int)] 5))).1 0
theorem conv_one (w : World) (c : Int) (x : Nat) (hc : c = (x : Int)) : (convert 44 9 (.slice (some ⟨w.heap.size, 0, none⟩) 1 1)).run Tryd.prog (w.alloc (.cells #[.int .u8 c] 5)) = .ok (.string (bstr [x])) (w.alloc (.cells #[.int .u8 c] 5)) := conv_bytes (l := [x]) (bytes_new w c x hc) 1
theorem conv_oneD (w : World) (c : Int) (x : Nat) (hc : c = (x : Int)) : (convert 44 9 (.slice (some ⟨w.heap.size, 0, none⟩) 1 1)).run Tryd.prog (w.alloc (.cells #[.int .u8 c] 5)).drew = .ok (.string (bstr [x])) (w.alloc (.cells #[.int .u8 c] 5)).drew := conv_bytes (w := (w.alloc (.cells #[.int .u8 c] 5)).drew) (l := [x]) (bytes_new w c x hc) 1
theorem conv_oneB (w w' : World) (n : Nat) (c : Int) (x : Nat) (hc : c = (x : Int)) (h : w.heap[n]? = some (.cells #[.int .u8 c] 5 (0, 0))) (hb : Below w.heap.size w w') : (convert 44 9 (.slice (some ⟨n, 0, none⟩) 1 1)).run Tryd.prog w' = .ok (.string (bstr [x])) w' := by
  refine conv_bytes (w := w') (l := [x]) (.inr ⟨n, 0, rfl, Nat.lt_of_lt_of_le (Array.getElem?_eq_some_iff.1 h).1 hb.size, fun i hi => ?_⟩) 1
  have : i = 0 := by simp at hi; omega
  subst this
  subst hc
  exact (hb.cell (p := ⟨n, 0, none⟩) (Array.getElem?_eq_some_iff.1 h).1).trans ((blk h).1 0)
theorem bstr_append (a b : List Nat) : bstr (a ++ b) = bstr a ++ bstr b := by
  have e : (bstr (a ++ b)).data.toList = (bstr a ++ bstr b).data.toList := by
    rw [ByteArray.toList_data_append]
    unfold bstr
    rw [strOfNums_data, strOfNums_data, strOfNums_data, List.map_append, List.map_append]
  have e2 : (bstr (a ++ b)).data = (bstr a ++ bstr b).data := Array.toList_inj.1 e
  exact ByteArray.ext e2
theorem decS_small {u : Nat} (h : u < 10) : decS (u : Int) = bstr [48 + u] := by
  have e : sbytes (decS (u : Int)) = [48 + u] := by
    rw [decS_bytes]
    unfold decL
    rw [Lib.itoa_nonneg, Lib.decDigits_one h]
    simp
    omega
  rw [← bstr_sbytes (decS (u : Int)), e]
theorem decS_step {u : Nat} (h : ¬ u < 10) : decS (u : Int) = decS ((u / 10 : Nat) : Int) ++ bstr [48 + u % 10] := by
  have e : sbytes (decS (u : Int)) = sbytes (decS ((u / 10 : Nat) : Int)) ++ [48 + u % 10] := by
    rw [decS_bytes, decS_bytes]
    unfold decL
    rw [Lib.itoa_nonneg, Lib.itoa_nonneg, Lib.decDigits, dif_neg h, List.map_append]
    simp
    omega
  rw [← bstr_sbytes (decS (u : Int)), e, bstr_append, bstr_sbytes]

set_option maxRecDepth 100000 in
set_option maxHeartbeats 1000000 in
theorem dec_one (u : Nat) (w : World) (hu : u < 10) :
    Calls Tryd.prog 39 #[.int .i64 (u : Int)] w fun r w' => r = .returned (.string (decS (u : Int))) ∧ Below w.heap.size w w' := by
  have hcv := conv_one w (48 + (u : Int)) (48 + u) (by omega)
  have hb := (Below.refl w.heap.size w).alloc (Nat.le_refl _) (.cells #[.int .u8 (48 + (u : Int))] 5)
  rw [decS_small hu]
  have h1 : ¬ (u : Int) < 0 := by omega
  have h2 : (u : Int) < 10 := by omega
  have h3 : (0 : Int) ≤ (u : Int) := by omega
  go_enter Tryd.func39, Tryd.ntmps39
  go_wp2_with fail
  go_ret
  exact ⟨rfl, hb⟩

set_option maxRecDepth 100000 in
set_option maxHeartbeats 1000000 in
theorem dec_any : ∀ (m u : Nat) (w : World), u ≤ m → u ≤ 9223372036854775807 →
    Calls Tryd.prog 39 #[.int .i64 (u : Int)] w fun r w' => r = .returned (.string (decS (u : Int))) ∧ Below w.heap.size w w' := by
  intro m
  induction m with
  | zero =>
    intro u w hu _
    exact dec_one u w (by omega)
  | succ m ih =>
    intro u w hu hm
    by_cases h10 : u < 10
    · exact dec_one u w h10
    rw [decS_step h10]
    have hwq : IntKind.i64.wrap ((u : Int) / 10) = ((u / 10 : Nat) : Int) := by rw [IntKind.wrap_i64]; omega
    have c1 : ∀ wx, Calls Tryd.prog 39 #[.int .i64 (IntKind.i64.wrap ((u : Int) / 10))] wx fun r w' => r = .returned (.string (decS ((u / 10 : Nat) : Int))) ∧ Below wx.heap.size wx w' := fun wx => by rw [hwq]; exact ih (u / 10) wx (by omega) (by omega)
    clear hwq
    have hD := decS_size ((u / 10 : Nat) : Int) (by omega) (by omega)
    generalize decS ((u / 10 : Nat) : Int) = D at *
    have hC : (IntKind.u8.wrap (IntKind.i64.wrap (48 + (u : Int).tmod 10))) = ((48 + u % 10 : Nat) : Int) := by
      rw [Int.tmod_eq_emod_of_nonneg (by omega), IntKind.wrap_i64, IntKind.wrap_u8]
      omega
    have HC : Hid ((IntKind.u8.wrap (IntKind.i64.wrap (48 + (u : Int).tmod 10))) = ((48 + u % 10 : Nat) : Int)) := hC
    have hcvD := fun wx : World => conv_oneD wx (IntKind.u8.wrap (IntKind.i64.wrap (48 + (u : Int).tmod 10))) (48 + u % 10) hC
    have hcvX := fun (wx wy : World) (n : Nat) h hb => conv_oneB wx wy n (IntKind.u8.wrap (IntKind.i64.wrap (48 + (u : Int).tmod 10))) (48 + u % 10) hC h hb
    have hcvN := fun wx : World => conv_one wx (IntKind.u8.wrap (IntKind.i64.wrap (48 + (u : Int).tmod 10))) (48 + u % 10) hC
    clear hC
    have hZ : (bstr [48 + u % 10]).size = 1 := bstr_size _
    generalize bstr [48 + u % 10] = Z at *
    have hsz : (9223372036854775807 < D.size + Z.size) = False := eq_false (by omega)
    clear hD hZ
    have h1 : ¬ (u : Int) < 0 := by omega
    have h2 : ¬ (u : Int) < 10 := by omega
    have h3 : (0 : Int) ≤ (u : Int) := by omega
    clear ih
    have hS0 : Below w.heap.size w w.drew := ⟨rfl, rfl, rfl, Nat.le_refl _, fun _ _ => rfl⟩
    go_enter Tryd.func39, Tryd.ntmps39
    go_wp2_with fail
    have hSa : Below w.heap.size w (w.alloc (.cells #[.int .u8 (IntKind.u8.wrap (IntKind.i64.wrap (48 + (u : Int).tmod 10)))] 5)).drew := ((Below.refl w.heap.size w).alloc (Nat.le_refl _) _).drew
    have hna : (w.alloc (.cells #[.int .u8 (IntKind.u8.wrap (IntKind.i64.wrap (48 + (u : Int).tmod 10)))] 5)).drew.heap[w.heap.size]? = some (.cells #[.int .u8 (IntKind.u8.wrap (IntKind.i64.wrap (48 + (u : Int).tmod 10)))] 5 (0, 0)) := heap_alloc_new w _
    go_region_law (first | (go_simp; go_at_call 39; with_reducible refine Calls.mono (c1 _) ?_; rintro e wy ⟨rfl, hby⟩; first | (have hS1 := below_two hS0 hby (Nat.le_refl _)) | (have hS1 := below_two hSa hby (Nat.le_refl _); have hcvB := hcvX _ _ _ hna hby)))
    all_goals
      go_wp2_with fail
      go_ret
      exact ⟨rfl, by first | assumption | exact hS1 | exact hS1.alloc hS1.size _⟩

theorem hexDigit_any (n : Nat) (w : World) (h : n < 16) :
    Calls Tryd.prog 58 #[.int .i64 (n : Int)] w fun r w' => r = .returned (.int .u8 (hexD n : Int)) ∧ w' = w := by
  have h0 : (0 : Int) ≤ (n : Int) := by omega
  by_cases h1 : n < 10
  · have h1z : (n : Int) < 10 := by omega
    have e : hexD n = 48 + n := by unfold hexD; rw [if_pos h1]
    rw [e]
    go_enter Tryd.func58, Tryd.ntmps58
    go_wp2_with fail
    go_ret
    exact ⟨by push_cast; rfl, rfl⟩
  · have h1z : ¬ (n : Int) < 10 := by omega
    have e : hexD n = 87 + n := by unfold hexD; rw [if_neg h1]
    rw [e]
    go_enter Tryd.func58, Tryd.ntmps58
    go_wp2_with fail
    go_ret
    refine ⟨?_, rfl⟩
    show Ending.returned (Value.int .u8 (97 + (n : Int) - 10)) = Ending.returned (Value.int .u8 ((87 + n : Nat) : Int))
    rw [show (97 + (n : Int) - 10) = ((87 + n : Nat) : Int) by omega]

theorem wrap_byte (x : Nat) (h : x < 256) : IntKind.i64.wrap (x : Int) = (x : Int) := by rw [IntKind.wrap_i64]; omega
theorem quo16 (x : Nat) (h : x < 256) : IntKind.i64.wrap ((IntKind.i64.wrap (x : Int)).tdiv 16) = ((x / 16 : Nat) : Int) := by
  rw [wrap_byte x h, Int.tdiv_eq_ediv_of_nonneg (by omega)]
  have e : (x : Int) / 16 = ((x / 16 : Nat) : Int) := by omega
  rw [e]
  exact wrap_byte _ (by omega)
theorem rem16 (x : Nat) (h : x < 256) : (IntKind.i64.wrap (x : Int)).tmod 16 = ((x % 16 : Nat) : Int) := by
  rw [wrap_byte x h, Int.tmod_eq_emod_of_nonneg (by omega)]
  omega

set_option maxRecDepth 100000 in
set_option maxHeartbeats 1000000 in
theorem hexOf_any (s : ByteArray) (w : World) (hs : s.size ≤ 1048576) :
    Calls Tryd.prog 40 #[.string s] w fun r w' => r = .returned (.string (bstr (hexL (sbytes s)))) ∧ Below w.heap.size w w' := by
  obtain ⟨i0, hi', hz0, hz1, hz2⟩ := info_parts info_byte
  have hls := sbytes_length s
  have hsm : ∀ i (h : i < (sbytes s).length), (sbytes s)[i] < 256 := fun i hi => sbytes_small s _ (List.getElem_mem hi)
  obtain ⟨R, hR⟩ : ∃ R, R = bstr (hexL (sbytes s)) := ⟨_, rfl⟩
  have HR : Hid (R = bstr (hexL (sbytes s))) := hR
  rw [← hR]
  clear hR
  go_enter Tryd.func40, Tryd.ntmps40
  go_wp2_with fail
  go_loopg [3, 4] s.size (fun g bv iv wr => ∃ i : Nat, i + g = s.size ∧ iv = .int .i64 (i : Int) ∧ wr.ownsRow w.heap.size 5 1 bv (2 * i) (octs (hexL ((sbytes s).take i))) ∧ Below w.heap.size w wr)
  case atStart => exact ⟨0, by omega, rfl, World.ownsRow_nil _ _ _ _, Below.refl _ _⟩
  case round =>
    obtain ⟨i, hi, rfl, ho, HB⟩ := hrel
    by_cases hlt : i < s.size
    · have hiz : (i : Int) < (s.size : Int) := by omega
      have hi0 : (0 : Int) ≤ (i : Int) := by omega
      have hx := hsm i (by omega)
      have hS0 : Below w.heap.size w wr.drew := HB.drew
      have hlb : i < (sbytes s).length := by omega
      have hT := hexL_take hlb
      have hxe : (sbytes s)[i] = (s[i]'hlt).toNat := by
        have h2 : i < s.data.toList.length := by simpa using hlt
        rw [sbytes_getL hlb h2]
        rfl
      rw [hxe] at hT hx
      have HT : Hid (hexL ((sbytes s).take (i + 1)) = hexL ((sbytes s).take i) ++ [hexD ((s[i]'hlt).toNat / 16), hexD ((s[i]'hlt).toNat % 16)]) := hT
      have hMl : (octs (hexL ((sbytes s).take i))).length = 2 * i := by rw [octs_length, hexL_length, List.length_take]; omega
      have c1 : ∀ wx, Calls Tryd.prog 58 #[.int .i64 (IntKind.i64.wrap ((IntKind.i64.wrap ((s[i]'hlt).toNat : Int)).tdiv 16))] wx fun r w' => r = .returned (.int .u8 (hexD ((s[i]'hlt).toNat / 16) : Int)) ∧ w' = wx := fun wx => by
        rw [quo16 _ hx]
        exact hexDigit_any _ wx (by omega)
      have c2 : ∀ wx, Calls Tryd.prog 58 #[.int .i64 ((IntKind.i64.wrap ((s[i]'hlt).toNat : Int)).tmod 16)] wx fun r w' => r = .returned (.int .u8 (hexD ((s[i]'hlt).toNat % 16) : Int)) ∧ w' = wx := fun wx => by
        rw [rem16 _ hx]
        exact hexDigit_any _ wx (by omega)
      obtain ⟨ba, bc, rfl⟩ := own_form ho
      generalize hexL ((sbytes s).take i) = M at *
      clear hT hx hxe hsm
      have hown : ((wr.alloc (.cells #[.int .u8 (hexD ((s[i]'hlt).toNat / 16) : Int), .int .u8 (hexD ((s[i]'hlt).toNat % 16) : Int)] 5)).drew).ownsRow w.heap.size 5 1 (.slice ba (2 * i) bc) (2 * i) (octs M) := own_below ho (((Below.refl wr.heap.size wr).alloc (Nat.le_refl _) _).drew)
      have hnw : ((wr.alloc (.cells #[.int .u8 (hexD ((s[i]'hlt).toNat / 16) : Int), .int .u8 (hexD ((s[i]'hlt).toNat % 16) : Int)] 5)).drew).heap[wr.heap.size]? = some (.cells #[.int .u8 (hexD ((s[i]'hlt).toNat / 16) : Int), .int .u8 (hexD ((s[i]'hlt).toNat % 16) : Int)] 5 (0, 0)) := heap_alloc_new wr _
      have hSa : Below w.heap.size w ((wr.alloc (.cells #[.int .u8 (hexD ((s[i]'hlt).toNat / 16) : Int), .int .u8 (hexD ((s[i]'hlt).toNat % 16) : Int)] 5)).drew) := (HB.alloc HB.size _).drew
      have hBs := hSa.size
      go_wp2_with fail
      go_region_held3 (fun w' => Below w.heap.size w w') (with_reducible first | exact hS0 | exact hSa | assumption) (first | (go_at_call 58; with_reducible refine Calls.mono (c1 _) ?_; rintro e wy ⟨rfl, rfl⟩) | (go_at_call 58; with_reducible refine Calls.mono (c2 _) ?_; rintro e wy ⟨rfl, rfl⟩) | (refine step_append_lies _ (by rfl) _ _ _ (by rfl) w.heap.size 5 i0 _ 1 1 Tryd.underlying44 hi' hz0 hz1 hz2 rfl (by omega) (.slice ba (2 * i) bc) (2 * i) (octs M) (by rfl) hown ⟨wr.heap.size, 0, none⟩ 2 2 [.int .u8 (hexD ((s[i]'hlt).toNat / 16) : Int), .int .u8 (hexD ((s[i]'hlt).toNat % 16) : Int)] (by rfl) (by rfl) (World.news_of_block hnw) (by simp [Value.oneCell']) (by omega) (by unfold maxLen; omega) (by omega) hBs _ rfl ?_; intro g1 cap1 w7 hown7 hgr7 hat7 hlt7; have hb8 := hSa.grown hgr7 hBs (fun k e => (hown.lt k e).1)))
      all_goals
        go_wp2_with fail
        go_roundg (s.size - i - 1)
        case measure => omega
        case rel => exact ⟨i + 1, by omega, by go_num, by rw [HT.out, octs_append, show 2 * (i + 1) = 2 * i + 2 by omega]; exact hown7, hb8⟩
    · obtain rfl : i = s.size := by omega
      have hiz : ¬ (s.size : Int) < (s.size : Int) := by omega
      rw [List.take_of_length_le (by omega)] at ho
      have hl2 : 2 * s.size = (hexL (sbytes s)).length := by rw [hexL_length]; omega
      rw [hl2] at ho
      obtain ⟨a, c, hv, _, hby, _⟩ := srcB_own ho
      subst hv
      have hcv := conv_bytes hby c
      rw [← HR.out] at hcv
      clear ho hsm hls hl2 hby
      go_wp2_with fail
      go_ret
      exact ⟨rfl, HB⟩

end Go.Proofs.YtiekmcoadmpkjaaDoor
