/-
  Walks: wherryref.actWords, actLine.
-/
import Derived.Test.YtiekmcoadmpkjaaDoorLineR
import Derived.Deep.RegionLaw
namespace Go.Proofs.YtiekmcoadmpkjaaDoor
open Go.RowKit Go.Lib

theorem sbytes_cat (a b : ByteArray) : sbytes (a ++ b) = sbytes a ++ sbytes b := by
  unfold sbytes
  rw [ByteArray.toList_data_append, List.map_append]
theorem str_eq {a : ByteArray} {l : List Nat} (h : sbytes a = l) : a = bstr l := by rw [← h, bstr_sbytes]
theorem bstr_cat (M : List Nat) (s : ByteArray) : bstr M ++ s = bstr (M ++ sbytes s) := by rw [bstr_append, bstr_sbytes]
theorem actWords_any (w : World) :
    Calls Tryd.prog 38 #[] w fun r w' => ∃ g, r = .returned (.slice (some ⟨g, 0, none⟩) 10 10) ∧ (∀ k, 1 ≤ k ∧ k ≤ 9 → w'.cell? ⟨g, k, none⟩ = some (.string (wordS k))) ∧ Below w.heap.size w w' := by
  have hb := (Below.refl w.heap.size w).alloc (Nat.le_refl _) (.cells #[.string ⟨#[]⟩, .string ⟨#[116, 121, 112, 101]⟩, .string ⟨#[117, 110, 100, 111]⟩, .string ⟨#[115, 101, 108, 101, 99, 116]⟩, .string ⟨#[100, 101, 108, 105, 118, 101, 114]⟩, .string ⟨#[100, 114, 111, 112]⟩, .string ⟨#[99, 111, 112, 121]⟩, .string ⟨#[116, 105, 99, 107]⟩, .string ⟨#[99, 114, 97, 115, 104]⟩, .string ⟨#[115, 116, 97, 114, 116]⟩] 9)
  have hn := heap_alloc_new w (.cells #[.string ⟨#[]⟩, .string ⟨#[116, 121, 112, 101]⟩, .string ⟨#[117, 110, 100, 111]⟩, .string ⟨#[115, 101, 108, 101, 99, 116]⟩, .string ⟨#[100, 101, 108, 105, 118, 101, 114]⟩, .string ⟨#[100, 114, 111, 112]⟩, .string ⟨#[99, 111, 112, 121]⟩, .string ⟨#[116, 105, 99, 107]⟩, .string ⟨#[99, 114, 97, 115, 104]⟩, .string ⟨#[115, 116, 97, 114, 116]⟩] 9)
  go_enter Tryd.func38, Tryd.ntmps38
  go_wp2_with fail
  go_ret
  refine ⟨_, rfl, fun k hk => ?_, hb⟩
  rw [(blk hn).1 k]
  obtain rfl | rfl | rfl | rfl | rfl | rfl | rfl | rfl | rfl : k = 1 ∨ k = 2 ∨ k = 3 ∨ k = 4 ∨ k = 5 ∨ k = 6 ∨ k = 7 ∨ k = 8 ∨ k = 9 := by omega
  all_goals rfl

/-- P7.2, as the reference writes it -/
def refL (k nd tw pk kp an hd : Nat) (op : List Part) : List Nat :=
  sbytes (wordS k) ++ (if k = 7 then [] else 32 :: decL (nd : Int)) ++ opTx op ++ (if k = 3 then 32 :: decL (an : Int) ++ 32 :: decL (hd : Int) else []) ++ (if 4 ≤ k ∧ k ≤ 6 then 32 :: decL (tw : Int) ++ 32 :: decL (pk : Int) else []) ++ (if k = 8 then 32 :: decL (kp : Int) else []) ++ [10]

set_option maxRecDepth 100000 in
set_option maxHeartbeats 4000000 in
theorem actLine_any (k nd tw pk kp an hd : Nat) (op : List Part) (oa : Option Addr) (oc : Nat) (w : World) (hk : 1 ≤ k ∧ k ≤ 9) (hop : OpAt w oa op) (h1 : k ≠ 1 → op = []) (hps : ∀ p ∈ op, (p.kind = 1 ∨ p.kind = 2 ∨ p.kind = 3) ∧ (0 ≤ p.n ∧ p.n ≤ 9223372036854775807) ∧ p.text.size ≤ 1048576) (hol : op.length ≤ 8001)
    (hnd : nd ≤ 9223372036854775807) (htw : tw ≤ 9223372036854775807) (hpk : pk ≤ 9223372036854775807) (hkp : kp ≤ 9223372036854775807) (han : an ≤ 9223372036854775807) (hhd : hd ≤ 9223372036854775807) :
    Calls Tryd.prog 24 #[.agg #[.int .i64 (k : Int), .int .i64 (nd : Int), .int .i64 (tw : Int), .int .i64 (pk : Int), .int .i64 (kp : Int), .slice oa op.length oc, .int .i64 (an : Int), .int .i64 (hd : Int)]] w fun r w' => r = .returned (.string (bstr (refL k nd tw pk kp an hd op))) ∧ Below w.heap.size w w' := by
  have hba := (Below.refl w.heap.size w).alloc (Nat.le_refl _) (.cells #[.int .i64 (k : Int), .int .i64 (nd : Int), .int .i64 (tw : Int), .int .i64 (pk : Int), .int .i64 (kp : Int), .slice oa op.length oc, .int .i64 (an : Int), .int .i64 (hd : Int)] 29)
  have hm := heap_alloc_new w (.cells #[.int .i64 (k : Int), .int .i64 (nd : Int), .int .i64 (tw : Int), .int .i64 (pk : Int), .int .i64 (kp : Int), .slice oa op.length oc, .int .i64 (an : Int), .int .i64 (hd : Int)] 29)
  have cW := actWords_any
  have cD := fun (u : Nat) (h : u ≤ 9223372036854775807) (wx : World) => dec_any u u wx (Nat.le_refl _) h
  have dS := fun (u : Nat) (h : u ≤ 9223372036854775807) => decS_size (u : Int) (by omega) (by omega)
  obtain ⟨m0, ml, _⟩ := blk hm
  have hk0 : (0 : Int) ≤ (k : Int) := by omega
  have hk9 : (k : Int) < 10 := by omega
  obtain ⟨R, hR⟩ : ∃ R, R = bstr (refL k nd tw pk kp an hd op) := ⟨_, rfl⟩
  have HR : Hid (R = bstr (refL k nd tw pk kp an hd op)) := hR
  rw [← hR]
  clear hR
  go_enter Tryd.func24, Tryd.ntmps24
  go_wp2_with fail
  generalize (w.alloc (.cells #[.int .i64 (k : Int), .int .i64 (nd : Int), .int .i64 (tw : Int), .int .i64 (pk : Int), .int .i64 (kp : Int), .slice oa op.length oc, .int .i64 (an : Int), .int .i64 (hd : Int)] 29)) = w0 at *
  have toSh : Hid (∀ w', Below w0.heap.size w0 w' → (fun w' => (∀ j, w'.cell? ⟨w.heap.size, j, none⟩ = (#[.int .i64 (k : Int), .int .i64 (nd : Int), .int .i64 (tw : Int), .int .i64 (pk : Int), .int .i64 (kp : Int), .slice oa op.length oc, .int .i64 (an : Int), .int .i64 (hd : Int)] : Array Value)[j]?) ∧ Below w0.heap.size w0 w') w') := fun w' hb => ⟨fun j => (hb.cell (p := ⟨w.heap.size, j, none⟩) ml).trans (m0 j), hb⟩
  have toBh : Hid (∀ w', (fun w' => (∀ j, w'.cell? ⟨w.heap.size, j, none⟩ = (#[.int .i64 (k : Int), .int .i64 (nd : Int), .int .i64 (tw : Int), .int .i64 (pk : Int), .int .i64 (kp : Int), .slice oa op.length oc, .int .i64 (an : Int), .int .i64 (hd : Int)] : Array Value)[j]?) ∧ Below w0.heap.size w0 w') w' → Below w0.heap.size w0 w') := fun _ h => h.2
  have hD0 : Below w0.heap.size w0 w0.drew := (Below.refl _ _).drew
  have hS0 := toSh.out _ hD0
  clear m0 hm
  obtain ⟨s0, _⟩ := hS0
  go_region_law (first | (go_simp; go_at_call 38; with_reducible refine Calls.mono (cW _) ?_; rintro e wy ⟨g, rfl, hgc, hby⟩; have hgk := hgc k hk; have hSy := toSh.out _ (below_two hD0 hby (Nat.le_refl _)); have hsy := hSy.1))
  all_goals
    clear hgc hgk hby s0 hD0 cW hsy
    have hB1 := toBh.out _ hSy
    have hX := wordS_size k
    obtain ⟨X, hX0⟩ : ∃ X, X = wordS k := ⟨_, rfl⟩
    have HX : Hid (X = wordS k) := hX0
    rw [← hX0] at hX ⊢
    clear hX0
    obtain ⟨s0, _⟩ := hSy
    by_cases h1k : k = 1
    · subst h1k
      clear h1
      go_wp2_with fail
      refine (cD nd hnd _).mono ?_
      rintro r w2 ⟨rfl, hb2⟩
      have hB2 := below_two hB1 hb2 (Nat.le_refl _)
      have hS2 := toSh.out _ hB2
      obtain ⟨s2, _⟩ := hS2
      have hd2 := dS nd hnd
      have HD : Hid (sbytes (decS (nd : Int)) = decL (nd : Int)) := decS_bytes _
      generalize decS (nd : Int) = D at *
      clear s0 hb2
      go_wp2_with fail
      have HY0 : Hid (sbytes (X ++ ⟨#[32]⟩ ++ D) = sbytes (wordS 1) ++ 32 :: decL (nd : Int)) := by
        show _ = _
        rw [sbytes_cat, sbytes_cat, HX.out, HD.out, show sbytes ⟨#[32]⟩ = [32] from rfl]; simp
      have hY0 : (X ++ ⟨#[32]⟩ ++ D).size ≤ 60 := by
        rw [ByteArray.size_append, ByteArray.size_append]
        have : (⟨#[32]⟩ : ByteArray).size = 1 := rfl
        omega
      generalize (X ++ ⟨#[32]⟩ ++ D) = Y0 at *
      clear HD hd2 hX HX s2
      go_loopg [3, 4] op.length (fun g sv iv wr => ∃ (i : Nat) (Y : ByteArray), i + g = op.length ∧ iv = .int .i64 (i : Int) ∧ sv = .string Y ∧ Hid (sbytes Y = sbytes Y0 ++ opTx (op.take i)) ∧ Y.size ≤ 60 + i * 2097200 ∧ Below w0.heap.size w0 wr)
      case atStart => exact ⟨0, Y0, by omega, rfl, rfl, by show _ = _; simp [opTx], by omega, hB2⟩
      case round =>
        obtain ⟨i, Y, hi, rfl, rfl, HY, hYs, HB⟩ := hrel
        obtain ⟨sr, _⟩ := toSh.out _ HB
        by_cases hlt : i < op.length
        · have hiz : (i : Int) < (op.length : Int) := by omega
          have hi0 : (0 : Int) ≤ (i : Int) := by omega
          have hT5 := opTx_take hlt
          have HH : Hid (opTx (op.take (i + 1)) = opTx (op.take i) ++ 32 :: partL op[i]) := hT5
          have hp := hps _ (List.getElem_mem hlt)
          have hwr := hba.trans (HB.mono hba.size)
          rcases hop.below hwr with rfl | ⟨ob, off, rfl, hob, hcell⟩
          · simp at hlt
          obtain ⟨c0, c1, c2⟩ := hcell i hlt
          clear hcell hT5 hps hop
          obtain ⟨q, hqe⟩ : ∃ q, q = op[i] := ⟨_, rfl⟩
          rw [← hqe] at c0 c1 c2 hp HH
          clear hqe
          obtain ⟨kd, pn, tx⟩ := q
          simp only at c0 c1 c2 hp
          obtain ⟨hpk, hpn, hpt⟩ := hp
          obtain ⟨pu, rfl⟩ : ∃ pu : Nat, pn = (pu : Int) := ⟨pn.toNat, by omega⟩
          have hal := (Below.refl wr.heap.size wr).alloc (Nat.le_refl _) (.cells #[.int .i64 kd, .int .i64 (pu : Int), .string tx] 63)
          have hm := heap_alloc_new wr (.cells #[.int .i64 kd, .int .i64 (pu : Int), .string tx] 63)
          have HBa := HB.trans (hal.mono HB.size)
          obtain ⟨q0, ql, _⟩ := blk hm
          have hpu : pu ≤ 9223372036854775807 := by omega
          rcases hpk with rfl | rfl | rfl
          · have HP : Hid (partL ⟨1, (pu : Int), tx⟩ = 107 :: decL (pu : Int)) := rfl
            go_wp2_with fail
            refine (cD pu hpu _).mono ?_
            rintro r w5 ⟨rfl, hb5⟩
            have hB5 := below_two HBa hb5 (Nat.le_refl _)
            have hd5 := dS pu hpu
            have HD5 : Hid (sbytes (decS (pu : Int)) = decL (pu : Int)) := decS_bytes _
            generalize decS (pu : Int) = D5 at *
            go_wp2_with fail
            go_roundg (op.length - i - 1)
            case measure => omega
            case rel =>
              refine ⟨i + 1, _, by omega, by go_num, rfl, ?_, ?_, hB5⟩
              · show _ = _
                rw [HH.out, HP.out, sbytes_cat, sbytes_cat, HY.out, HD5.out, show sbytes ⟨#[32, 107]⟩ = [32, 107] from rfl]; simp
              · rw [ByteArray.size_append, ByteArray.size_append]
                have : (⟨#[32, 107]⟩ : ByteArray).size = 2 := rfl
                omega
          · have HP : Hid (partL ⟨2, (pu : Int), tx⟩ = 105 :: hexL (sbytes tx)) := rfl
            go_wp2_with fail
            refine (hexOf_any tx _ hpt).mono ?_
            rintro r w5 ⟨rfl, hb5⟩
            have hB5 := below_two HBa hb5 (Nat.le_refl _)
            have hd5 : (bstr (hexL (sbytes tx))).size ≤ 2097152 := by rw [bstr_size, hexL_length, sbytes_length]; omega
            have HD5 : Hid (sbytes (bstr (hexL (sbytes tx))) = hexL (sbytes tx)) := sbytes_bstr (hexL_small (sbytes_small _))
            generalize bstr (hexL (sbytes tx)) = D5 at *
            go_wp2_with fail
            go_roundg (op.length - i - 1)
            case measure => omega
            case rel =>
              refine ⟨i + 1, _, by omega, by go_num, rfl, ?_, ?_, hB5⟩
              · show _ = _
                rw [HH.out, HP.out, sbytes_cat, sbytes_cat, HY.out, HD5.out, show sbytes ⟨#[32, 105]⟩ = [32, 105] from rfl]; simp
              · rw [ByteArray.size_append, ByteArray.size_append]
                have : (⟨#[32, 105]⟩ : ByteArray).size = 2 := rfl
                omega
          · have HP : Hid (partL ⟨3, (pu : Int), tx⟩ = 100 :: decL (pu : Int)) := rfl
            go_wp2_with fail
            refine (cD pu hpu _).mono ?_
            rintro r w5 ⟨rfl, hb5⟩
            have hB5 := below_two HBa hb5 (Nat.le_refl _)
            have hd5 := dS pu hpu
            have HD5 : Hid (sbytes (decS (pu : Int)) = decL (pu : Int)) := decS_bytes _
            generalize decS (pu : Int) = D5 at *
            go_wp2_with fail
            go_roundg (op.length - i - 1)
            case measure => omega
            case rel =>
              refine ⟨i + 1, _, by omega, by go_num, rfl, ?_, ?_, hB5⟩
              · show _ = _
                rw [HH.out, HP.out, sbytes_cat, sbytes_cat, HY.out, HD5.out, show sbytes ⟨#[32, 100]⟩ = [32, 100] from rfl]; simp
              · rw [ByteArray.size_append, ByteArray.size_append]
                have : (⟨#[32, 100]⟩ : ByteArray).size = 2 := rfl
                omega
        · obtain rfl : i = op.length := by omega
          have hiz : ¬ (op.length : Int) < (op.length : Int) := by omega
          have cI := fun wx => in_known (((1 : Nat) : Int)) 4 6 wx false (by decide)
          have hYl : Y.size ≤ 17000000000 := by omega
          clear hop hps
          go_wp2_with fail
          refine (cI _).mono ?_
          rintro r w5 ⟨rfl, hw5⟩
          rw [hw5]
          clear hw5 w5
          go_wp2_with fail
          go_ret
          refine ⟨?_, hba.trans (HB.mono hba.size)⟩
          rw [HR.out]
          refine congrArg (fun x => Ending.returned (Value.string x)) (str_eq ?_)
          rw [sbytes_cat, HY.out, HY0.out, List.take_length, show sbytes ⟨#[10]⟩ = [10] from rfl]
          unfold refL
          simp
    · obtain rfl := h1 h1k
      obtain rfl | rfl | rfl | rfl | rfl | rfl | rfl | rfl : k = 2 ∨ k = 3 ∨ k = 4 ∨ k = 5 ∨ k = 6 ∨ k = 7 ∨ k = 8 ∨ k = 9 := by omega
      · clear h1 hop hps h1k
        go_wp2_with fail
        refine (cD nd hnd _).mono ?_
        rintro r w2 ⟨rfl, hb2⟩
        have hB2 := below_two hB1 hb2 (Nat.le_refl _)
        have hS2 := toSh.out _ hB2
        obtain ⟨s2, _⟩ := hS2
        have hd2 := dS nd hnd
        have HD : Hid (sbytes (decS (nd : Int)) = decL (nd : Int)) := decS_bytes _
        generalize decS (nd : Int) = D at *
        clear s0 hb2
        go_wp2_with fail
        have HY0 : Hid (sbytes (X ++ ⟨#[32]⟩ ++ D) = sbytes (wordS 2) ++ 32 :: decL (nd : Int)) := by
          show _ = _
          rw [sbytes_cat, sbytes_cat, HX.out, HD.out, show sbytes ⟨#[32]⟩ = [32] from rfl]; simp
        have hY0 : (X ++ ⟨#[32]⟩ ++ D).size ≤ 60 := by
          rw [ByteArray.size_append, ByteArray.size_append]
          have : (⟨#[32]⟩ : ByteArray).size = 1 := rfl
          omega
        generalize (X ++ ⟨#[32]⟩ ++ D) = Y0 at *
        clear HD hd2 hX HX s2
        go_loopg [3, 4] 0 (fun g sv iv wr => g = 0 ∧ iv = .int .i64 0 ∧ sv = .string Y0 ∧ Below w0.heap.size w0 wr)
        case atStart => exact ⟨rfl, rfl, rfl, hB2⟩
        case round =>
          obtain ⟨hg, rfl, rfl, HB⟩ := hrel
          obtain ⟨sr, _⟩ := toSh.out _ HB
          have cI := fun wx => in_known (((2 : Nat) : Int)) 4 6 wx false (by decide)
          clear hg hB2
          go_wp2_with fail
          refine (cI _).mono ?_
          rintro r w5 ⟨rfl, hw5⟩
          rw [hw5]
          clear hw5 w5 cI
          go_wp2_with fail
          go_ret
          refine ⟨?_, hba.trans (HB.mono hba.size)⟩
          rw [HR.out]
          refine congrArg (fun x => Ending.returned (Value.string x)) (str_eq ?_)
          rw [sbytes_cat, HY0.out, show sbytes ⟨#[10]⟩ = [10] from rfl]
          unfold refL
          simp [opTx]
      · clear h1 hop hps h1k
        go_wp2_with fail
        refine (cD nd hnd _).mono ?_
        rintro r w2 ⟨rfl, hb2⟩
        have hB2 := below_two hB1 hb2 (Nat.le_refl _)
        have hS2 := toSh.out _ hB2
        obtain ⟨s2, _⟩ := hS2
        have hd2 := dS nd hnd
        have HD : Hid (sbytes (decS (nd : Int)) = decL (nd : Int)) := decS_bytes _
        generalize decS (nd : Int) = D at *
        clear s0 hb2
        go_wp2_with fail
        have HY0 : Hid (sbytes (X ++ ⟨#[32]⟩ ++ D) = sbytes (wordS 3) ++ 32 :: decL (nd : Int)) := by
          show _ = _
          rw [sbytes_cat, sbytes_cat, HX.out, HD.out, show sbytes ⟨#[32]⟩ = [32] from rfl]; simp
        have hY0 : (X ++ ⟨#[32]⟩ ++ D).size ≤ 60 := by
          rw [ByteArray.size_append, ByteArray.size_append]
          have : (⟨#[32]⟩ : ByteArray).size = 1 := rfl
          omega
        generalize (X ++ ⟨#[32]⟩ ++ D) = Y0 at *
        clear HD hd2 hX HX s2
        go_loopg [3, 4] 0 (fun g sv iv wr => g = 0 ∧ iv = .int .i64 0 ∧ sv = .string Y0 ∧ Below w0.heap.size w0 wr)
        case atStart => exact ⟨rfl, rfl, rfl, hB2⟩
        case round =>
          obtain ⟨hg, rfl, rfl, HB⟩ := hrel
          obtain ⟨sr, _⟩ := toSh.out _ HB
          have cI := fun wx => in_known (((3 : Nat) : Int)) 4 6 wx false (by decide)
          clear hg hB2
          go_wp2_with fail
          have cDa := cD an han
          have hd6 := dS an han
          have HD6 : Hid (sbytes (decS (an : Int)) = decL (an : Int)) := decS_bytes _
          generalize decS (an : Int) = D6 at *
          have cDb := cD hd hhd
          have hd7 := dS hd hhd
          have HD7 : Hid (sbytes (decS (hd : Int)) = decL (hd : Int)) := decS_bytes _
          generalize decS (hd : Int) = D7 at *
          have hDr : Below w0.heap.size w0 wr.drew := HB.drew
          have hSr := toSh.out _ hDr
          have hz1 : (9223372036854775807 < Y0.size + 1) = False := eq_false (by omega)
          have hz1a : (9223372036854775807 ≤ Y0.size) = False := eq_false (by omega)
          have hz2 : (9223372036854775807 < Y0.size + 1 + D6.size) = False := eq_false (by omega)
          have hz3 : (9223372036854775807 < Y0.size + 1 + D6.size + 1) = False := eq_false (by omega)
          have hz3a : (9223372036854775807 ≤ Y0.size + 1 + D6.size) = False := eq_false (by omega)
          have hz4 : (9223372036854775807 < Y0.size + 1 + D6.size + 1 + D7.size) = False := eq_false (by omega)
          obtain ⟨sr, _⟩ := hSr
          clear cD dS
          go_region_law (first | (go_simp; go_at_call 39; with_reducible refine Calls.mono (cDa _) ?_; rintro e w6 ⟨rfl, hb6⟩; have hB6 := below_two hDr hb6 (Nat.le_refl _); have hS6 := toSh.out _ hB6; have s6 := hS6.1) | (go_simp; go_at_call 39; with_reducible refine Calls.mono (cDb _) ?_; rintro e w7 ⟨rfl, hb7⟩; have hB7 := below_two hB6 hb7 (Nat.le_refl _); have hS7 := toSh.out _ hB7; have s7 := hS7.1))
          all_goals
            go_wp2_with fail
            refine (cI _).mono ?_
            rintro r w5 ⟨rfl, hw5⟩
            rw [hw5]
            clear hw5 w5 cI
            go_wp2_with fail
            go_ret
            refine ⟨?_, hba.trans (hB7.mono hba.size)⟩
            rw [HR.out]
            refine congrArg (fun x => Ending.returned (Value.string x)) (str_eq ?_)
            rw [sbytes_cat, sbytes_cat, sbytes_cat, sbytes_cat, sbytes_cat, HY0.out, HD6.out, HD7.out, show sbytes ⟨#[32]⟩ = [32] from rfl, show sbytes ⟨#[10]⟩ = [10] from rfl]
            unfold refL
            simp [opTx]
      · clear h1 hop hps h1k
        go_wp2_with fail
        refine (cD nd hnd _).mono ?_
        rintro r w2 ⟨rfl, hb2⟩
        have hB2 := below_two hB1 hb2 (Nat.le_refl _)
        have hS2 := toSh.out _ hB2
        obtain ⟨s2, _⟩ := hS2
        have hd2 := dS nd hnd
        have HD : Hid (sbytes (decS (nd : Int)) = decL (nd : Int)) := decS_bytes _
        generalize decS (nd : Int) = D at *
        clear s0 hb2
        go_wp2_with fail
        have HY0 : Hid (sbytes (X ++ ⟨#[32]⟩ ++ D) = sbytes (wordS 4) ++ 32 :: decL (nd : Int)) := by
          show _ = _
          rw [sbytes_cat, sbytes_cat, HX.out, HD.out, show sbytes ⟨#[32]⟩ = [32] from rfl]; simp
        have hY0 : (X ++ ⟨#[32]⟩ ++ D).size ≤ 60 := by
          rw [ByteArray.size_append, ByteArray.size_append]
          have : (⟨#[32]⟩ : ByteArray).size = 1 := rfl
          omega
        generalize (X ++ ⟨#[32]⟩ ++ D) = Y0 at *
        clear HD hd2 hX HX s2
        go_loopg [3, 4] 0 (fun g sv iv wr => g = 0 ∧ iv = .int .i64 0 ∧ sv = .string Y0 ∧ Below w0.heap.size w0 wr)
        case atStart => exact ⟨rfl, rfl, rfl, hB2⟩
        case round =>
          obtain ⟨hg, rfl, rfl, HB⟩ := hrel
          obtain ⟨sr, _⟩ := toSh.out _ HB
          have cI := fun wx => in_known (((4 : Nat) : Int)) 4 6 wx true (by decide)
          clear hg hB2
          go_wp2_with fail
          refine (cI _).mono ?_
          rintro r w5 ⟨rfl, hw5⟩
          rw [hw5]
          clear hw5 w5 cI
          go_wp2_with fail
          have cDa := cD tw htw
          have hd6 := dS tw htw
          have HD6 : Hid (sbytes (decS (tw : Int)) = decL (tw : Int)) := decS_bytes _
          generalize decS (tw : Int) = D6 at *
          have cDb := cD pk hpk
          have hd7 := dS pk hpk
          have HD7 : Hid (sbytes (decS (pk : Int)) = decL (pk : Int)) := decS_bytes _
          generalize decS (pk : Int) = D7 at *
          have hDr : Below w0.heap.size w0 wr.drew := HB.drew
          have hSr := toSh.out _ hDr
          have hz1 : (9223372036854775807 < Y0.size + 1) = False := eq_false (by omega)
          have hz1a : (9223372036854775807 ≤ Y0.size) = False := eq_false (by omega)
          have hz2 : (9223372036854775807 < Y0.size + 1 + D6.size) = False := eq_false (by omega)
          have hz3 : (9223372036854775807 < Y0.size + 1 + D6.size + 1) = False := eq_false (by omega)
          have hz3a : (9223372036854775807 ≤ Y0.size + 1 + D6.size) = False := eq_false (by omega)
          have hz4 : (9223372036854775807 < Y0.size + 1 + D6.size + 1 + D7.size) = False := eq_false (by omega)
          obtain ⟨sr, _⟩ := hSr
          clear cD dS
          go_region_law (first | (go_simp; go_at_call 39; with_reducible refine Calls.mono (cDa _) ?_; rintro e w6 ⟨rfl, hb6⟩; have hB6 := below_two hDr hb6 (Nat.le_refl _); have hS6 := toSh.out _ hB6; have s6 := hS6.1) | (go_simp; go_at_call 39; with_reducible refine Calls.mono (cDb _) ?_; rintro e w7 ⟨rfl, hb7⟩; have hB7 := below_two hB6 hb7 (Nat.le_refl _); have hS7 := toSh.out _ hB7; have s7 := hS7.1))
          all_goals
            go_wp2_with fail
            go_ret
            refine ⟨?_, hba.trans (hB7.mono hba.size)⟩
            rw [HR.out]
            refine congrArg (fun x => Ending.returned (Value.string x)) (str_eq ?_)
            rw [sbytes_cat, sbytes_cat, sbytes_cat, sbytes_cat, sbytes_cat, HY0.out, HD6.out, HD7.out, show sbytes ⟨#[32]⟩ = [32] from rfl, show sbytes ⟨#[10]⟩ = [10] from rfl]
            unfold refL
            simp [opTx]
      · clear h1 hop hps h1k
        go_wp2_with fail
        refine (cD nd hnd _).mono ?_
        rintro r w2 ⟨rfl, hb2⟩
        have hB2 := below_two hB1 hb2 (Nat.le_refl _)
        have hS2 := toSh.out _ hB2
        obtain ⟨s2, _⟩ := hS2
        have hd2 := dS nd hnd
        have HD : Hid (sbytes (decS (nd : Int)) = decL (nd : Int)) := decS_bytes _
        generalize decS (nd : Int) = D at *
        clear s0 hb2
        go_wp2_with fail
        have HY0 : Hid (sbytes (X ++ ⟨#[32]⟩ ++ D) = sbytes (wordS 5) ++ 32 :: decL (nd : Int)) := by
          show _ = _
          rw [sbytes_cat, sbytes_cat, HX.out, HD.out, show sbytes ⟨#[32]⟩ = [32] from rfl]; simp
        have hY0 : (X ++ ⟨#[32]⟩ ++ D).size ≤ 60 := by
          rw [ByteArray.size_append, ByteArray.size_append]
          have : (⟨#[32]⟩ : ByteArray).size = 1 := rfl
          omega
        generalize (X ++ ⟨#[32]⟩ ++ D) = Y0 at *
        clear HD hd2 hX HX s2
        go_loopg [3, 4] 0 (fun g sv iv wr => g = 0 ∧ iv = .int .i64 0 ∧ sv = .string Y0 ∧ Below w0.heap.size w0 wr)
        case atStart => exact ⟨rfl, rfl, rfl, hB2⟩
        case round =>
          obtain ⟨hg, rfl, rfl, HB⟩ := hrel
          obtain ⟨sr, _⟩ := toSh.out _ HB
          have cI := fun wx => in_known (((5 : Nat) : Int)) 4 6 wx true (by decide)
          clear hg hB2
          go_wp2_with fail
          refine (cI _).mono ?_
          rintro r w5 ⟨rfl, hw5⟩
          rw [hw5]
          clear hw5 w5 cI
          go_wp2_with fail
          have cDa := cD tw htw
          have hd6 := dS tw htw
          have HD6 : Hid (sbytes (decS (tw : Int)) = decL (tw : Int)) := decS_bytes _
          generalize decS (tw : Int) = D6 at *
          have cDb := cD pk hpk
          have hd7 := dS pk hpk
          have HD7 : Hid (sbytes (decS (pk : Int)) = decL (pk : Int)) := decS_bytes _
          generalize decS (pk : Int) = D7 at *
          have hDr : Below w0.heap.size w0 wr.drew := HB.drew
          have hSr := toSh.out _ hDr
          have hz1 : (9223372036854775807 < Y0.size + 1) = False := eq_false (by omega)
          have hz1a : (9223372036854775807 ≤ Y0.size) = False := eq_false (by omega)
          have hz2 : (9223372036854775807 < Y0.size + 1 + D6.size) = False := eq_false (by omega)
          have hz3 : (9223372036854775807 < Y0.size + 1 + D6.size + 1) = False := eq_false (by omega)
          have hz3a : (9223372036854775807 ≤ Y0.size + 1 + D6.size) = False := eq_false (by omega)
          have hz4 : (9223372036854775807 < Y0.size + 1 + D6.size + 1 + D7.size) = False := eq_false (by omega)
          obtain ⟨sr, _⟩ := hSr
          clear cD dS
          go_region_law (first | (go_simp; go_at_call 39; with_reducible refine Calls.mono (cDa _) ?_; rintro e w6 ⟨rfl, hb6⟩; have hB6 := below_two hDr hb6 (Nat.le_refl _); have hS6 := toSh.out _ hB6; have s6 := hS6.1) | (go_simp; go_at_call 39; with_reducible refine Calls.mono (cDb _) ?_; rintro e w7 ⟨rfl, hb7⟩; have hB7 := below_two hB6 hb7 (Nat.le_refl _); have hS7 := toSh.out _ hB7; have s7 := hS7.1))
          all_goals
            go_wp2_with fail
            go_ret
            refine ⟨?_, hba.trans (hB7.mono hba.size)⟩
            rw [HR.out]
            refine congrArg (fun x => Ending.returned (Value.string x)) (str_eq ?_)
            rw [sbytes_cat, sbytes_cat, sbytes_cat, sbytes_cat, sbytes_cat, HY0.out, HD6.out, HD7.out, show sbytes ⟨#[32]⟩ = [32] from rfl, show sbytes ⟨#[10]⟩ = [10] from rfl]
            unfold refL
            simp [opTx]
      · clear h1 hop hps h1k
        go_wp2_with fail
        refine (cD nd hnd _).mono ?_
        rintro r w2 ⟨rfl, hb2⟩
        have hB2 := below_two hB1 hb2 (Nat.le_refl _)
        have hS2 := toSh.out _ hB2
        obtain ⟨s2, _⟩ := hS2
        have hd2 := dS nd hnd
        have HD : Hid (sbytes (decS (nd : Int)) = decL (nd : Int)) := decS_bytes _
        generalize decS (nd : Int) = D at *
        clear s0 hb2
        go_wp2_with fail
        have HY0 : Hid (sbytes (X ++ ⟨#[32]⟩ ++ D) = sbytes (wordS 6) ++ 32 :: decL (nd : Int)) := by
          show _ = _
          rw [sbytes_cat, sbytes_cat, HX.out, HD.out, show sbytes ⟨#[32]⟩ = [32] from rfl]; simp
        have hY0 : (X ++ ⟨#[32]⟩ ++ D).size ≤ 60 := by
          rw [ByteArray.size_append, ByteArray.size_append]
          have : (⟨#[32]⟩ : ByteArray).size = 1 := rfl
          omega
        generalize (X ++ ⟨#[32]⟩ ++ D) = Y0 at *
        clear HD hd2 hX HX s2
        go_loopg [3, 4] 0 (fun g sv iv wr => g = 0 ∧ iv = .int .i64 0 ∧ sv = .string Y0 ∧ Below w0.heap.size w0 wr)
        case atStart => exact ⟨rfl, rfl, rfl, hB2⟩
        case round =>
          obtain ⟨hg, rfl, rfl, HB⟩ := hrel
          obtain ⟨sr, _⟩ := toSh.out _ HB
          have cI := fun wx => in_known (((6 : Nat) : Int)) 4 6 wx true (by decide)
          clear hg hB2
          go_wp2_with fail
          refine (cI _).mono ?_
          rintro r w5 ⟨rfl, hw5⟩
          rw [hw5]
          clear hw5 w5 cI
          go_wp2_with fail
          have cDa := cD tw htw
          have hd6 := dS tw htw
          have HD6 : Hid (sbytes (decS (tw : Int)) = decL (tw : Int)) := decS_bytes _
          generalize decS (tw : Int) = D6 at *
          have cDb := cD pk hpk
          have hd7 := dS pk hpk
          have HD7 : Hid (sbytes (decS (pk : Int)) = decL (pk : Int)) := decS_bytes _
          generalize decS (pk : Int) = D7 at *
          have hDr : Below w0.heap.size w0 wr.drew := HB.drew
          have hSr := toSh.out _ hDr
          have hz1 : (9223372036854775807 < Y0.size + 1) = False := eq_false (by omega)
          have hz1a : (9223372036854775807 ≤ Y0.size) = False := eq_false (by omega)
          have hz2 : (9223372036854775807 < Y0.size + 1 + D6.size) = False := eq_false (by omega)
          have hz3 : (9223372036854775807 < Y0.size + 1 + D6.size + 1) = False := eq_false (by omega)
          have hz3a : (9223372036854775807 ≤ Y0.size + 1 + D6.size) = False := eq_false (by omega)
          have hz4 : (9223372036854775807 < Y0.size + 1 + D6.size + 1 + D7.size) = False := eq_false (by omega)
          obtain ⟨sr, _⟩ := hSr
          clear cD dS
          go_region_law (first | (go_simp; go_at_call 39; with_reducible refine Calls.mono (cDa _) ?_; rintro e w6 ⟨rfl, hb6⟩; have hB6 := below_two hDr hb6 (Nat.le_refl _); have hS6 := toSh.out _ hB6; have s6 := hS6.1) | (go_simp; go_at_call 39; with_reducible refine Calls.mono (cDb _) ?_; rintro e w7 ⟨rfl, hb7⟩; have hB7 := below_two hB6 hb7 (Nat.le_refl _); have hS7 := toSh.out _ hB7; have s7 := hS7.1))
          all_goals
            go_wp2_with fail
            go_ret
            refine ⟨?_, hba.trans (hB7.mono hba.size)⟩
            rw [HR.out]
            refine congrArg (fun x => Ending.returned (Value.string x)) (str_eq ?_)
            rw [sbytes_cat, sbytes_cat, sbytes_cat, sbytes_cat, sbytes_cat, HY0.out, HD6.out, HD7.out, show sbytes ⟨#[32]⟩ = [32] from rfl, show sbytes ⟨#[10]⟩ = [10] from rfl]
            unfold refL
            simp [opTx]
      · clear h1 hop hps h1k
        go_wp2_with fail
        have hB2 := hB1
        have HY0 : Hid (sbytes X = sbytes (wordS 7)) := by show _ = _; rw [HX.out]
        have hY0 : X.size ≤ 60 := by omega
        obtain ⟨Y0, hYX⟩ : ∃ Y0, X = Y0 := ⟨_, rfl⟩
        subst hYX
        clear hX HX s0
        go_loopg [3, 4] 0 (fun g sv iv wr => g = 0 ∧ iv = .int .i64 0 ∧ sv = .string X ∧ Below w0.heap.size w0 wr)
        case atStart => exact ⟨rfl, rfl, rfl, hB2⟩
        case round =>
          obtain ⟨hg, rfl, rfl, HB⟩ := hrel
          obtain ⟨sr, _⟩ := toSh.out _ HB
          have cI := fun wx => in_known (((7 : Nat) : Int)) 4 6 wx false (by decide)
          clear hg hB2
          go_wp2_with fail
          refine (cI _).mono ?_
          rintro r w5 ⟨rfl, hw5⟩
          rw [hw5]
          clear hw5 w5 cI
          go_wp2_with fail
          go_ret
          refine ⟨?_, hba.trans (HB.mono hba.size)⟩
          rw [HR.out]
          refine congrArg (fun x => Ending.returned (Value.string x)) (str_eq ?_)
          rw [sbytes_cat, HY0.out, show sbytes ⟨#[10]⟩ = [10] from rfl]
          unfold refL
          simp [opTx]
      · clear h1 hop hps h1k
        go_wp2_with fail
        refine (cD nd hnd _).mono ?_
        rintro r w2 ⟨rfl, hb2⟩
        have hB2 := below_two hB1 hb2 (Nat.le_refl _)
        have hS2 := toSh.out _ hB2
        obtain ⟨s2, _⟩ := hS2
        have hd2 := dS nd hnd
        have HD : Hid (sbytes (decS (nd : Int)) = decL (nd : Int)) := decS_bytes _
        generalize decS (nd : Int) = D at *
        clear s0 hb2
        go_wp2_with fail
        have HY0 : Hid (sbytes (X ++ ⟨#[32]⟩ ++ D) = sbytes (wordS 8) ++ 32 :: decL (nd : Int)) := by
          show _ = _
          rw [sbytes_cat, sbytes_cat, HX.out, HD.out, show sbytes ⟨#[32]⟩ = [32] from rfl]; simp
        have hY0 : (X ++ ⟨#[32]⟩ ++ D).size ≤ 60 := by
          rw [ByteArray.size_append, ByteArray.size_append]
          have : (⟨#[32]⟩ : ByteArray).size = 1 := rfl
          omega
        generalize (X ++ ⟨#[32]⟩ ++ D) = Y0 at *
        clear HD hd2 hX HX s2
        go_loopg [3, 4] 0 (fun g sv iv wr => g = 0 ∧ iv = .int .i64 0 ∧ sv = .string Y0 ∧ Below w0.heap.size w0 wr)
        case atStart => exact ⟨rfl, rfl, rfl, hB2⟩
        case round =>
          obtain ⟨hg, rfl, rfl, HB⟩ := hrel
          obtain ⟨sr, _⟩ := toSh.out _ HB
          have cI := fun wx => in_known (((8 : Nat) : Int)) 4 6 wx false (by decide)
          clear hg hB2
          go_wp2_with fail
          refine (cI _).mono ?_
          rintro r w5 ⟨rfl, hw5⟩
          rw [hw5]
          clear hw5 w5 cI
          go_wp2_with fail
          refine (cD kp hkp _).mono ?_
          rintro r w6 ⟨rfl, hb6⟩
          have hB6 := below_two HB hb6 (Nat.le_refl _)
          have hd6 := dS kp hkp
          have HD6 : Hid (sbytes (decS (kp : Int)) = decL (kp : Int)) := decS_bytes _
          generalize decS (kp : Int) = D6 at *
          clear sr hb6
          go_wp2_with fail
          go_ret
          refine ⟨?_, hba.trans (hB6.mono hba.size)⟩
          rw [HR.out]
          refine congrArg (fun x => Ending.returned (Value.string x)) (str_eq ?_)
          rw [sbytes_cat, sbytes_cat, sbytes_cat, HY0.out, HD6.out, show sbytes ⟨#[32]⟩ = [32] from rfl, show sbytes ⟨#[10]⟩ = [10] from rfl]
          unfold refL
          simp [opTx]
      · clear h1 hop hps h1k
        go_wp2_with fail
        refine (cD nd hnd _).mono ?_
        rintro r w2 ⟨rfl, hb2⟩
        have hB2 := below_two hB1 hb2 (Nat.le_refl _)
        have hS2 := toSh.out _ hB2
        obtain ⟨s2, _⟩ := hS2
        have hd2 := dS nd hnd
        have HD : Hid (sbytes (decS (nd : Int)) = decL (nd : Int)) := decS_bytes _
        generalize decS (nd : Int) = D at *
        clear s0 hb2
        go_wp2_with fail
        have HY0 : Hid (sbytes (X ++ ⟨#[32]⟩ ++ D) = sbytes (wordS 9) ++ 32 :: decL (nd : Int)) := by
          show _ = _
          rw [sbytes_cat, sbytes_cat, HX.out, HD.out, show sbytes ⟨#[32]⟩ = [32] from rfl]; simp
        have hY0 : (X ++ ⟨#[32]⟩ ++ D).size ≤ 60 := by
          rw [ByteArray.size_append, ByteArray.size_append]
          have : (⟨#[32]⟩ : ByteArray).size = 1 := rfl
          omega
        generalize (X ++ ⟨#[32]⟩ ++ D) = Y0 at *
        clear HD hd2 hX HX s2
        go_loopg [3, 4] 0 (fun g sv iv wr => g = 0 ∧ iv = .int .i64 0 ∧ sv = .string Y0 ∧ Below w0.heap.size w0 wr)
        case atStart => exact ⟨rfl, rfl, rfl, hB2⟩
        case round =>
          obtain ⟨hg, rfl, rfl, HB⟩ := hrel
          obtain ⟨sr, _⟩ := toSh.out _ HB
          have cI := fun wx => in_known (((9 : Nat) : Int)) 4 6 wx false (by decide)
          clear hg hB2
          go_wp2_with fail
          refine (cI _).mono ?_
          rintro r w5 ⟨rfl, hw5⟩
          rw [hw5]
          clear hw5 w5 cI
          go_wp2_with fail
          go_ret
          refine ⟨?_, hba.trans (HB.mono hba.size)⟩
          rw [HR.out]
          refine congrArg (fun x => Ending.returned (Value.string x)) (str_eq ?_)
          rw [sbytes_cat, HY0.out, show sbytes ⟨#[10]⟩ = [10] from rfl]
          unfold refL
          simp [opTx]

end Go.Proofs.YtiekmcoadmpkjaaDoor
