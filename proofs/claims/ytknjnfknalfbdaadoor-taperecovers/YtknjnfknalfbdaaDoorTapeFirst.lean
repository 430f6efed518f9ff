/-
  Walks: tape.decodeLength, tape.first.
-/
import Derived.Test.YtknjnfknalfbdaaDoorTapeOps
import Derived.Test.YtknjnfknalfbdaaDoorTapeRow
import Derived.Deep.RegionHeld3
import Derived.Deep.LoopGhost
namespace Go.Proofs.YtknjnfknalfbdaaDoor
open Go.RowKit Go.Lib

theorem or3 {x y z : Nat} (hy : y < 256) (hz : z < 256) : (x <<< 16 ||| y <<< 8) ||| z = 65536 * x + 256 * y + z := by
  have h1 : x <<< 16 ||| y <<< 8 = x <<< 16 + y <<< 8 := by
    rw [Nat.shiftLeft_add_eq_or_of_lt (by rw [Nat.shiftLeft_eq]; omega)]
  have e : x <<< 16 + y <<< 8 = (256 * x + y) <<< 8 := by simp only [Nat.shiftLeft_eq]; omega
  rw [h1, e, ← Nat.shiftLeft_add_eq_or_of_lt (by omega)]
  simp only [Nat.shiftLeft_eq]
  omega

theorem bits_or_nat {a b : Nat} (ha : a < 2 ^ 63) (hb : b < 2 ^ 63) : bits BinOp.or IntKind.i64 (a : Int) (b : Int) = ((a ||| b : Nat) : Int) := by
  have hx : a ||| b < 2 ^ 63 := Nat.or_lt_two_pow ha hb
  have ho : ∀ c : Nat, c < 2 ^ 63 → (BitVec.ofInt 64 (c : Int)).toNat = c := fun c hc => by
    rw [BitVec.ofInt_natCast, BitVec.toNat_ofNat]
    exact Nat.mod_eq_of_lt (by omega)
  show IntKind.i64.wrap ((BitVec.ofInt 64 (a : Int) ||| BitVec.ofInt 64 (b : Int)).toNat : Int) = _
  rw [BitVec.toNat_or, ho a ha, ho b hb, IntKind.wrap_i64]
  omega
theorem or_num {x y z : Nat} (hx : x < 256) (hy : y < 256) (hz : z < 256) : bits BinOp.or IntKind.i64 (bits BinOp.or IntKind.i64 (IntKind.i64.wrap (IntKind.i64.wrap (x : Int) * 65536)) (IntKind.i64.wrap (IntKind.i64.wrap (y : Int) * 256))) (IntKind.i64.wrap (z : Int)) = ((65536 * x + 256 * y + z : Nat) : Int) := by
  have e1 : IntKind.i64.wrap (IntKind.i64.wrap (x : Int) * 65536) = ((x <<< 16 : Nat) : Int) := by
    have h1 : IntKind.i64.wrap (x : Int) = (x : Int) := by rw [IntKind.wrap_i64]; omega
    rw [h1, IntKind.wrap_i64, Nat.shiftLeft_eq]
    omega
  have e2 : IntKind.i64.wrap (IntKind.i64.wrap (y : Int) * 256) = ((y <<< 8 : Nat) : Int) := by
    have h1 : IntKind.i64.wrap (y : Int) = (y : Int) := by rw [IntKind.wrap_i64]; omega
    rw [h1, IntKind.wrap_i64, Nat.shiftLeft_eq]
    omega
  have e3 : IntKind.i64.wrap (z : Int) = (z : Int) := by rw [IntKind.wrap_i64]; omega
  have s1 : x <<< 16 < 2 ^ 24 := by rw [Nat.shiftLeft_eq]; omega
  have s2 : y <<< 8 < 2 ^ 24 := by rw [Nat.shiftLeft_eq]; omega
  rw [e1, e2, e3, bits_or_nat (by omega) (by omega), bits_or_nat (Nat.lt_trans (Nat.or_lt_two_pow s1 s2) (by decide)) (by omega), or3 hy hz]

set_option maxRecDepth 100000 in
set_option maxHeartbeats 1000000 in
theorem decodeLength_any (l : List Nat) (a : Option Addr) (c : Nat) (w : World) (h : BArg w a c l) (hl : ∀ x ∈ l, x < 256) (h3 : 3 ≤ l.length) :
    Calls Tryd.prog 107 #[.slice a l.length c] w fun r w' => r = .returned (.int .i64 (num3 l : Int)) ∧ Below w.heap.size w w' := by
  rcases h.by_ with h0 | ⟨g, off, rfl, hg, hx⟩
  · subst h0; simp at h3
  · obtain ⟨x, y, z, t, rfl⟩ : ∃ x y z t, l = x :: y :: z :: t := by
      match l, h3 with
      | x :: y :: z :: t, _ => exact ⟨x, y, z, t, rfl⟩
    have c0 : w.cell? ⟨g, off, none⟩ = some (.int .u8 (x : Int)) := hx 0 (by simp)
    have c1 : w.cell? ⟨g, off + 1, none⟩ = some (.int .u8 (y : Int)) := hx 1 (by simp)
    have c2 : w.cell? ⟨g, off + 2, none⟩ = some (.int .u8 (z : Int)) := hx 2 (by simp)
    have b0 := hl x (by simp)
    have b1 := hl y (by simp)
    have b2 := hl z (by simp)
    have hn : num3 (x :: y :: z :: t) = 65536 * x + 256 * y + z := rfl
    rw [hn]
    have hL : (2 : Int) < (((x :: y :: z :: t).length : Nat) : Int) := by simp; omega
    clear hx h hl hn h3
    generalize (x :: y :: z :: t).length = n at *
    have hL1 : (1 : Int) < (n : Int) := by omega
    have hL0 : (0 : Int) < (n : Int) := by omega
    have hN0 : 0 < n := by omega
    have hN1 : 1 < n := by omega
    have hN2 : 2 < n := by omega
    go_enter Tryd.func107, Tryd.ntmps107
    go_wp2_with fail
    have hS0 : (fun w' : World => w'.cell? ⟨g, off, none⟩ = some (.int .u8 (x : Int)) ∧ w'.cell? ⟨g, off + 1, none⟩ = some (.int .u8 (y : Int)) ∧ w'.cell? ⟨g, off + 2, none⟩ = some (.int .u8 (z : Int))) w.drew := ⟨c0, c1, c2⟩
    go_region_held3 (fun w' : World => w'.cell? ⟨g, off, none⟩ = some (.int .u8 (x : Int)) ∧ w'.cell? ⟨g, off + 1, none⟩ = some (.int .u8 (y : Int)) ∧ w'.cell? ⟨g, off + 2, none⟩ = some (.int .u8 (z : Int))) (with_reducible first | exact hS0 | assumption) (fail)
    go_wp2_with fail
    go_ret
    exact ⟨by rw [or_num b0 b1 b2]; rfl, below_drew w⟩

theorem BArg.mid {w : World} {a : Option Addr} {c : Nat} {l : List Nat} (h : BArg w a c l) (i j : Nat) (hj : j ≤ l.length) : BArg w (if j = i then a else a.map (·.add i)) (j - i) ((l.drop i).take (j - i)) := by
  have h1 := (h.take j hj).drop i
  have e : (l.take j).drop i = (l.drop i).take (j - i) := by rw [List.drop_take]
  rw [e] at h1
  exact h1

set_option maxRecDepth 100000 in
set_option maxHeartbeats 2000000 in
theorem first_none (l : List Nat) (a : Option Addr) (c : Nat) (w : World) (h : BArg w a c l) (hl : ∀ x ∈ l, x < 256) (hn : l.length ≤ 8388608) (hT : Tabs w) (hf : firstT l = none) :
    Calls Tryd.prog 89 #[.slice a l.length c] w fun r w' => r = .returned (.tuple #[.agg #[.int .i64 0, .slice none 0 0], .int .i64 0, .bool false]) ∧ Below w.heap.size w w' := by
  have hb0 := (Below.refl w.heap.size w).alloc (Nat.le_refl _) (.cells #[.int .i64 0, .slice none 0 0] 74)
  have hres := heap_alloc_new w (.cells #[.int .i64 0, .slice none 0 0] 74)
  by_cases h3 : l.length < 3
  · have h3z : (l.length : Int) < 3 := by omega
    clear hf h hl hT
    obtain ⟨q0, ql0, qf0⟩ := blk hres
    go_enter Tryd.func89, Tryd.ntmps89
    go_wp2_with fail
    refine bodyPost_ret (v := .tuple #[.agg #[.int .i64 0, .slice none 0 0], .int .i64 0, .bool false]) (by simp [results, Tryd.results89, go_sem, q0]) rfl ⟨rfl, hb0⟩
  · have h3z : ¬ (l.length : Int) < 3 := by omega
    have cL := decodeLength_any l a c _ (h.below hb0) hl (by omega)
    have hnum : num3 l < 16777216 := by
      match l, h3 with
      | x :: y :: z :: t, _ =>
        have b0 := hl x (by simp)
        have b1 := hl y (by simp)
        have b2 := hl z (by simp)
        show 65536 * x + 256 * y + z < _
        omega
      | [], h3 => simp at h3
      | [_], h3 => simp at h3
      | [_, _], h3 => simp at h3
    by_cases h4 : l.length < 3 + num3 l
    · generalize num3 l = N at *
      have h4z : (l.length : Int) < 3 + (N : Int) := by omega
      clear hf h hl hT
      obtain ⟨q0, ql0, qf0⟩ := blk hres
      go_enter Tryd.func89, Tryd.ntmps89
      go_wp2_with fail
      refine cL.mono ?_
      generalize (w.alloc (.cells #[.int .i64 0, .slice none 0 0] 74)) = w0 at *
      rintro r w1 ⟨rfl, hb1⟩
      have HB1 := below_two hb0 hb1 (Nat.le_refl _)
      replace hres := (hb1.block _ ql0).trans hres
      obtain ⟨hfin, hch⟩ := rec_store hres (x := .int .i64 0) (y := .slice none 0 0)
      clear q0 ql0 qf0 cL
      obtain ⟨q0, ql0, qf0⟩ := blk hres
      go_wp2_with fail
      generalize ((w1.setCell ⟨w.heap.size, 0, none⟩ (.int .i64 0)).setCell ⟨w.heap.size, 1, none⟩ (.slice none 0 0)) = w9 at *
      obtain ⟨t0, _, _⟩ := blk hfin
      refine bodyPost_ret (v := .tuple #[.agg #[.int .i64 0, .slice none 0 0], .int .i64 0, .bool false]) (by simp [results, Tryd.results89, go_sem, t0]) rfl ⟨rfl, HB1.trans (hch.below (fun i e => by omega) HB1.size)⟩
    · obtain ⟨N, hN⟩ : ∃ N, N = num3 l := ⟨_, rfl⟩
      have hff : recFault ((l.drop 3).take N) ≠ 0 := by
        intro h0
        unfold firstT at hf
        rw [if_neg h3, if_neg h4, ← hN, if_neg (by rw [h0]; simp)] at hf
        cases hf
      have hof : recOf ((l.drop 3).take N) = (0, []) := by unfold recOf; rw [if_pos hff]
      rw [← hN] at h4 hnum cL
      clear hN hf
      have h4z : ¬ (l.length : Int) < 3 + (N : Int) := by omega
      have hmid := h.mid 3 (3 + N) (by omega)
      rw [show 3 + N - 3 = N by omega] at hmid
      have hcut := cut_lhm a l.length c 3 (3 + N) (by omega) (by omega) h.cap 3 (3 + (N : Int)) rfl (by omega)
      rw [show 3 + N - 3 = N by omega] at hcut
      have hml : ((l.drop 3).take N).length = N := by rw [List.length_take, List.length_drop]; omega
      have hm256 : ∀ x ∈ (l.drop 3).take N, x < 256 := fun x hx => hl x (List.mem_of_mem_drop (List.mem_of_mem_take hx))
      generalize (if 3 + N = 3 then a else a.map (·.add 3)) = am at *
      have cD := fun w1 (hb : Below w.heap.size w w1) => decodeRecord_any ((l.drop 3).take N) am N w1 ((hmid.below hb).by_) hm256 (by omega) (hT.below hb)
      rw [hml] at cD
      rw [hof] at cD
      have g : (recFault ((l.drop 3).take N) != 0) = true := by simpa using hff
      generalize recFault ((l.drop 3).take N) = F at *
      clear hof hff hmid hml hm256 h hl hT
      simp only at cD
      obtain ⟨q0, ql0, qf0⟩ := blk hres
      go_enter Tryd.func89, Tryd.ntmps89
      go_wp2_with fail
      refine cL.mono ?_
      generalize (w.alloc (.cells #[.int .i64 0, .slice none 0 0] 74)) = w0 at *
      rintro r w1 ⟨rfl, hb1⟩
      have HB1 := below_two hb0 hb1 (Nat.le_refl _)
      replace hres := (hb1.block _ ql0).trans hres
      replace cD := cD w1 HB1
      have hB1 := HB1.size
      clear q0 ql0 qf0 cL
      obtain ⟨q0, ql0, qf0⟩ := blk hres
      go_wp2_with fail
      refine cD.mono ?_
      rintro r w2 ⟨v, rfl, hown, hb2⟩
      obtain ⟨va, vc, rfl⟩ := own_form hown
      have HB2 := below_two HB1 hb2 (Nat.le_refl _)
      replace hres := (hb2.block _ ql0).trans hres
      obtain ⟨hfin0, hch0⟩ := rec_store hres (x := .int .i64 0) (y := .slice va 0 vc)
      obtain ⟨hfin, hch⟩ := rec_store hfin0 (x := .int .i64 0) (y := .slice none 0 0)
      have HB3 := HB2.trans (hch0.below (fun i e => by omega) HB2.size)
      clear q0 ql0 qf0 cD
      obtain ⟨q0, ql0, qf0⟩ := blk hres
      go_wp2_with fail
      generalize ((((w2.setCell ⟨w.heap.size, 0, none⟩ (.int .i64 0)).setCell ⟨w.heap.size, 1, none⟩ (.slice va 0 vc)).setCell ⟨w.heap.size, 0, none⟩ (.int .i64 0)).setCell ⟨w.heap.size, 1, none⟩ (.slice none 0 0)) = w9 at *
      obtain ⟨t0, _, _⟩ := blk hfin
      refine bodyPost_ret (v := .tuple #[.agg #[.int .i64 0, .slice none 0 0], .int .i64 0, .bool false]) (by simp [results, Tryd.results89, go_sem, t0]) rfl ⟨rfl, HB3.trans (hch.below (fun i e => by omega) HB3.size)⟩

set_option maxRecDepth 100000 in
set_option maxHeartbeats 2000000 in
theorem first_some (l : List Nat) (a : Option Addr) (c : Nat) (w : World) (h : BArg w a c l) (hl : ∀ x ∈ l, x < 256) (hn : l.length ≤ 8388608) (hT : Tabs w) (n : Nat) (ps : List Part) (k : Nat) (hf : firstT l = some ((n, ps), k)) :
    Calls Tryd.prog 89 #[.slice a l.length c] w fun r w' => ∃ v, r = .returned (.tuple #[.agg #[.int .i64 (n : Int), v], .int .i64 (k : Int), .bool true]) ∧ w'.ownsRow w.heap.size 33 3 v ps.length (partCells ps) ∧ Below w.heap.size w w' := by
  have hb0 := (Below.refl w.heap.size w).alloc (Nat.le_refl _) (.cells #[.int .i64 0, .slice none 0 0] 74)
  have hres := heap_alloc_new w (.cells #[.int .i64 0, .slice none 0 0] 74)
  unfold firstT at hf
  split at hf
  · cases hf
  · rename_i h3
    split at hf
    · cases hf
    · rename_i h4
      split at hf
      · cases hf
      · rename_i hff
        have hff : recFault ((l.drop 3).take (num3 l)) = 0 := by simpa using hff
        simp only [Option.some.injEq, Prod.mk.injEq] at hf
        obtain ⟨hof, rfl⟩ := hf
        have cL := decodeLength_any l a c _ (h.below hb0) hl (by omega)
        generalize num3 l = N at *
        have h3z : ¬ (l.length : Int) < 3 := by omega
        have h4z : ¬ (l.length : Int) < 3 + (N : Int) := by omega
        have hmid := h.mid 3 (3 + N) (by omega)
        rw [show 3 + N - 3 = N by omega] at hmid
        have hcut := cut_lhm a l.length c 3 (3 + N) (by omega) (by omega) h.cap 3 (3 + (N : Int)) rfl (by omega)
        rw [show 3 + N - 3 = N by omega] at hcut
        have hml : ((l.drop 3).take N).length = N := by rw [List.length_take, List.length_drop]; omega
        have hm256 : ∀ x ∈ (l.drop 3).take N, x < 256 := fun x hx => hl x (List.mem_of_mem_drop (List.mem_of_mem_take hx))
        generalize (if 3 + N = 3 then a else a.map (·.add 3)) = am at *
        have cD := fun w1 (hb : Below w.heap.size w w1) => decodeRecord_any ((l.drop 3).take N) am N w1 ((hmid.below hb).by_) hm256 (by omega) (hT.below hb)
        rw [hml] at cD
        rw [hff, hof] at cD
        simp only at cD
        clear hof hff hmid hml hm256 h hl hT
        rw [show ((3 + N : Nat) : Int) = 3 + (N : Int) by omega]
        obtain ⟨q0, ql0, qf0⟩ := blk hres
        go_enter Tryd.func89, Tryd.ntmps89
        go_wp2_with fail
        refine cL.mono ?_
        generalize (w.alloc (.cells #[.int .i64 0, .slice none 0 0] 74)) = w0 at *
        rintro r w1 ⟨rfl, hb1⟩
        have HB1 := below_two hb0 hb1 (Nat.le_refl _)
        replace hres := (hb1.block _ ql0).trans hres
        replace cD := cD w1 HB1
        have hB1 := HB1.size
        clear q0 ql0 qf0 cL
        obtain ⟨q0, ql0, qf0⟩ := blk hres
        go_wp2_with fail
        refine cD.mono ?_
        rintro r w2 ⟨v, rfl, hown, hb2⟩
        obtain ⟨va, vc, rfl⟩ := own_form hown
        have HB2 := below_two HB1 hb2 (Nat.le_refl _)
        replace hres := (hb2.block _ ql0).trans hres
        obtain ⟨hfin0, hch0⟩ := rec_store hres (x := .int .i64 (n : Int)) (y := .slice va ps.length vc)
        have hown2 := own_chg hown hch0 (fun k hk e => row_ne hown hres (by decide) (by rw [← e]; exact hk.symm))
        have HB3 := HB2.trans (hch0.below (fun i e => by omega) HB2.size)
        obtain ⟨hfin, hch⟩ := rec_store hfin0 (x := .int .i64 (n : Int)) (y := .slice va ps.length vc)
        have hown3 := own_chg hown2 hch (fun k hk e => row_ne hown2 hfin0 (by decide) (by rw [← e]; exact hk.symm))
        clear q0 ql0 qf0 cD
        obtain ⟨q0, ql0, qf0⟩ := blk hres
        obtain ⟨s0, _, _⟩ := blk hfin0
        go_wp2_with fail
        generalize ((((w2.setCell ⟨w.heap.size, 0, none⟩ (.int .i64 (n : Int))).setCell ⟨w.heap.size, 1, none⟩ (.slice va ps.length vc)).setCell ⟨w.heap.size, 0, none⟩ (.int .i64 (n : Int))).setCell ⟨w.heap.size, 1, none⟩ (.slice va ps.length vc)) = w9 at *
        obtain ⟨t0, _, _⟩ := blk hfin
        refine bodyPost_ret (v := .tuple #[.agg #[.int .i64 (n : Int), .slice va ps.length vc], .int .i64 (3 + (N : Int)), .bool true]) (by simp [results, Tryd.results89, go_sem, t0]) rfl ⟨.slice va ps.length vc, rfl, own_base hown3 hB1, HB3.trans (hch.below (fun i e => by omega) HB3.size)⟩

end Go.Proofs.YtknjnfknalfbdaaDoor
