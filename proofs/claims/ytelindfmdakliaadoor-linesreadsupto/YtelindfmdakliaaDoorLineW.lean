/-
  Walk: lines.writeLine.
-/
import Derived.Test.YtelindfmdakliaaDoorLineP
import Derived.FnData
namespace Go.Proofs.YtelindfmdakliaaDoor
open Go.RowKit Go.Lib

/-- the words of the kinds -/
def wordS (k : Nat) : ByteArray := if k = 1 then ⟨#[116, 121, 112, 101]⟩ else if k = 2 then ⟨#[117, 110, 100, 111]⟩ else if k = 3 then ⟨#[115, 101, 108, 101, 99, 116]⟩ else if k = 4 then ⟨#[100, 101, 108, 105, 118, 101, 114]⟩ else if k = 5 then ⟨#[100, 114, 111, 112]⟩ else if k = 6 then ⟨#[99, 111, 112, 121]⟩ else if k = 7 then ⟨#[116, 105, 99, 107]⟩ else if k = 8 then ⟨#[99, 114, 97, 115, 104]⟩ else if k = 9 then ⟨#[115, 116, 97, 114, 116]⟩ else ⟨#[]⟩
theorem wordS_size (k : Nat) : (wordS k).size ≤ 7 := by unfold wordS; repeat' split
                                                        all_goals decide
theorem LTabs.word {w : World} (h : LTabs w) {k : Nat} (hk : 1 ≤ k ∧ k ≤ 9) : w.cell? ⟨0, k, none⟩ = some (.string (wordS k)) := by
  have hg : Tryd.prog.globalNamed "wherry/lines.words" = some 0 := by kernel_rfl
  obtain ⟨cs, hv, hc⟩ := h.words
  rw [World.var?_cell hg hv k]
  obtain ⟨l, h1, h2⟩ := hc k (by omega)
  rw [h2]
  obtain rfl | rfl | rfl | rfl | rfl | rfl | rfl | rfl | rfl : k = 1 ∨ k = 2 ∨ k = 3 ∨ k = 4 ∨ k = 5 ∨ k = 6 ∨ k = 7 ∨ k = 8 ∨ k = 9 := by omega
  all_goals
    cases h1
    rfl
/-- the number at a place of an act -/
def numAt (nd tw pk kp an hd : Int) (q : Nat) : Int := if q = 1 then nd else if q = 2 then tw else if q = 3 then pk else if q = 4 then kp else if q = 6 then an else hd
def numL (f : Nat → Int) (l : List Nat) : List Nat := l.flatMap fun q => 32 :: decL (f q)
/-- P7.2: the line of an act -/
def lineL (k : Nat) (f : Nat → Int) (op : List Part) : List Nat := sbytes (wordS k) ++ numL f (numsOf (k : Int)) ++ opTx op ++ [10]
def opTb (ps : List Part) : Nat := (ps.map fun p => 23 + 2 * p.text.size).sum
theorem opTb_take {ps : List Part} {i : Nat} (h : i < ps.length) : opTb (ps.take (i + 1)) = opTb (ps.take i) + (23 + 2 * ps[i].text.size) := by
  unfold opTb
  rw [List.take_succ_eq_append_getElem h, List.map_append, List.sum_append]; rfl
theorem opTb_le (ps : List Part) (i : Nat) : opTb (ps.take i) ≤ opTb ps := by
  have h : opTb ps = opTb (ps.take i) + opTb (ps.drop i) := by
    unfold opTb
    rw [← List.sum_append, ← List.map_append, List.take_append_drop]
  omega
theorem opTx_take {ps : List Part} {i : Nat} (h : i < ps.length) : opTx (ps.take (i + 1)) = opTx (ps.take i) ++ 32 :: partL ps[i] := by
  unfold opTx
  rw [List.take_succ_eq_append_getElem h, List.flatMap_append]; simp
theorem opTx_le (ps : List Part) (hn : ∀ p ∈ ps, -9223372036854775808 ≤ p.n ∧ p.n ≤ 9223372036854775807) : (opTx ps).length ≤ opTb ps := by
  induction ps with
  | nil => exact Nat.le_refl _
  | cons p ps ih =>
    have h1 := ih fun q hq => hn q (List.mem_cons_of_mem _ hq)
    have h2 := part_len p (hn p List.mem_cons_self)
    unfold opTx opTb at *
    rw [List.flatMap_cons, List.length_append, List.length_cons, List.map_cons, List.sum_cons]
    omega
theorem numL_take {f : Nat → Int} {l : List Nat} {i : Nat} (h : i < l.length) : numL f (l.take (i + 1)) = numL f (l.take i) ++ 32 :: decL (f l[i]) := by
  unfold numL
  rw [List.take_succ_eq_append_getElem h, List.flatMap_append]; simp
theorem decL_len (n : Int) (h : -9223372036854775808 ≤ n ∧ n ≤ 9223372036854775807) : (decL n).length ≤ 21 := by
  unfold decL; rw [List.length_map]; exact Lib.itoa_length_le _ h.1 h.2
theorem numL_len (f : Nat → Int) (hf : ∀ q, -9223372036854775808 ≤ f q ∧ f q ≤ 9223372036854775807) (l : List Nat) : (numL f l).length ≤ 22 * l.length := by
  induction l with
  | nil => exact Nat.le_refl _
  | cons q l ih =>
    have h2 := decL_len (f q) (hf q)
    unfold numL at *
    rw [List.flatMap_cons, List.length_append, List.length_cons, List.length_cons]
    omega
theorem nums_mem {k : Int} {j : Nat} (h : j ∈ numsOf k) : j = 1 ∨ j = 2 ∨ j = 3 ∨ j = 4 ∨ j = 6 ∨ j = 7 := by
  unfold numsOf at h
  split at h
  · simp at h; omega
  · split at h
    · simp at h; omega
    · split at h
      · simp at h; omega
      · split at h <;> simp at h; omega
theorem nums_three (k : Int) : (numsOf k).length ≤ 3 := by unfold numsOf; split <;> (try split) <;> (try split) <;> (try split) <;> simp

set_option maxRecDepth 100000 in
set_option maxHeartbeats 4000000 in
theorem writeLine_any (B b : Nat) (bs : List Value) (k : Nat) (nd tw pk kp an hd : Int) (op : List Part) (oa : Option Addr) (oc : Nat) (wz w : World) (h : Lib.IsBuilder 51 5 B b bs w) (hk : 1 ≤ k ∧ k ≤ 9) (hnum : ∀ q, -9223372036854775808 ≤ numAt nd tw pk kp an hd q ∧ numAt nd tw pk kp an hd q ≤ 9223372036854775807)
    (hop : OpAt wz oa op) (hps : ∀ p ∈ op, (p.kind = 1 ∨ p.kind = 2 ∨ p.kind = 3) ∧ (-9223372036854775808 ≤ p.n ∧ p.n ≤ 9223372036854775807)) (hol : op.length ≤ 9223372036854775806) (hlen : bs.length + 200 + opTb op ≤ 140737488355328) (hBw : B ≤ w.heap.size) (hT : LTabs wz) (hwz0 : Below wz.heap.size wz w) (hBz : wz.heap.size ≤ B) :
    Calls Tryd.prog 22 #[.pointer (some ⟨b, 0, none⟩), .agg #[.int .i64 (k : Int), .int .i64 nd, .int .i64 tw, .int .i64 pk, .int .i64 kp, .slice oa op.length oc, .int .i64 an, .int .i64 hd]] w fun e w' => e = .returned (.tuple #[]) ∧ Lib.IsBuilder 51 5 B b (bs ++ octs (lineL k (numAt nd tw pk kp an hd) op)) w' ∧ Below B w w' ∧ Typ [51, 5] w w' := by
  have hcells : ∀ q, q = 1 ∨ q = 2 ∨ q = 3 ∨ q = 4 ∨ q = 6 ∨ q = 7 → (#[.int .i64 (k : Int), .int .i64 nd, .int .i64 tw, .int .i64 pk, .int .i64 kp, .slice oa op.length oc, .int .i64 an, .int .i64 hd] : Array Value)[q]? = some (.int .i64 (numAt nd tw pk kp an hd q)) := fun q hq => by
    obtain rfl | rfl | rfl | rfl | rfl | rfl := hq
    all_goals rfl
  generalize numAt nd tw pk kp an hd = f at *
  obtain ⟨R, hR⟩ : ∃ R, R = lineL k f op := ⟨_, rfl⟩
  have HR : Hid (R = lineL k f op) := hR
  rw [← hR]
  clear hR
  have hba := (Below.refl w.heap.size w).alloc (Nat.le_refl _) (.cells #[.int .i64 (k : Int), .int .i64 nd, .int .i64 tw, .int .i64 pk, .int .i64 kp, .slice oa op.length oc, .int .i64 an, .int .i64 hd] 29)
  have hm := heap_alloc_new w (.cells #[.int .i64 (k : Int), .int .i64 nd, .int .i64 tw, .int .i64 pk, .int .i64 kp, .slice oa op.length oc, .int .i64 an, .int .i64 hd] 29)
  have hw0 := builder_below h hba
  have hB0 := hba.mono hBw
  have hty := Typ.of_below (Ts := [51, 5]) hba
  have hwz := hwz0.trans (hB0.mono hBz)
  have hzm : w.heap.size < (w.alloc (.cells #[.int .i64 (k : Int), .int .i64 nd, .int .i64 tw, .int .i64 pk, .int .i64 kp, .slice oa op.length oc, .int .i64 an, .int .i64 hd] 29)).heap.size := by simp
  have cN := numbersOf_any (k : Int) nd tw pk kp an hd (.slice oa op.length oc) w.heap.size 29
  have hword := hT.word hk
  have hwordl := wordS_size k
  obtain ⟨m0, ml, _⟩ := blk hm
  have hk0 : (0 : Int) ≤ (k : Int) := by omega
  have hk9 : (k : Int) < 10 := by omega
  have hgl : 0 < wz.heap.size := World.block_lt_of_cell? wz _ hword
  have hwd := (hwz.cell (p := ⟨0, k, none⟩) hgl).trans hword
  go_enter Tryd.func22, Tryd.ntmps22
  go_wp2_with fail
  have hcw := fun (h : Lib.IsBuilder 51 5 B b (bs ++ octs []) (w.alloc (.cells #[.int .i64 (k : Int), .int .i64 nd, .int .i64 tw, .int .i64 pk, .int .i64 kp, .slice oa op.length oc, .int .i64 an, .int .i64 hd] 29))) => writeL B b [] bs (wordS k) _ h (by simp only [List.length_nil]; omega) (by have := hB0.size; omega)
  refine (hcw (by simpa [octs] using hw0)).mono ?_
  clear hcw hwd hword m0 ml hw0
  rintro r w1 ⟨rfl, hw1, hb1, ht1⟩
  rw [List.nil_append] at hw1
  have hm1 := ht1.block _ _ _ (by decide) hm
  have HB1 := hB0.trans hb1
  have HT1 := hty.trans ht1
  have hs1 := ht1.size
  have hz1 := Nat.lt_of_lt_of_le hzm hs1
  generalize (w.alloc (.cells #[.int .i64 (k : Int), .int .i64 nd, .int .i64 tw, .int .i64 pk, .int .i64 kp, .slice oa op.length oc, .int .i64 an, .int .i64 hd] 29)) = w0 at *
  clear hm hb1 ht1 hB0 hty hwz hba hs1 hzm
  go_wp2_with fail
  refine (cN w1 (by omega) hm1).mono ?_
  clear cN
  rintro r w2 ⟨v, rfl, ho2, hb2⟩
  have hw2 := builder_below hw1 hb2
  have hm2 := (hb2.block _ hz1).trans hm1
  have HB2 := HB1.trans (hb2.mono (by have := HB1.size; omega))
  have HT2 := HT1.trans (Typ.of_below hb2)
  have hz2 := Nat.lt_of_lt_of_le hz1 hb2.size
  obtain ⟨ra, rc, rfl⟩ := own_form ho2
  have hbase : w.heap.size < w1.heap.size := hz1
  have hl3 := nums_three (k : Int)
  have hmem := fun j (h : j ∈ numsOf (k : Int)) => nums_mem h
  obtain ⟨L, hL⟩ : ∃ L, L = numsOf (k : Int) := ⟨_, rfl⟩
  have HL : Hid (L = numsOf (k : Int)) := hL
  rw [← hL] at ho2 hl3 hmem ⊢
  clear hL hw1 hm1 hb2 HB1 HT1 hz1
  go_wp2_with fail
  have hcw := fun (M : List Nat) (sx : ByteArray) (wx : World) (h : Lib.IsBuilder 51 5 B b (bs ++ octs M) wx) (hl : M.length + sx.size ≤ 200 + opTb op) (hb : B ≤ wx.heap.size) => writeL B b M bs sx wx h (by omega) hb
  have hsw : (sbytes (wordS k)).length ≤ 7 := by rw [sbytes_length]; exact hwordl
  have HLen : Hid (bs.length + 200 + opTb op ≤ 140737488355328) := hlen
  obtain ⟨W, hW⟩ : ∃ W, W = sbytes (wordS k) := ⟨_, rfl⟩
  have HW : Hid (W = sbytes (wordS k)) := hW
  rw [← hW] at hw2 hsw
  have hB2 := HB2.size
  clear hW hwordl hlen
  go_loopg [16] L.length (fun g iv wr => ∃ i : Nat, i + g = L.length ∧ iv = .int .i64 (i : Int) ∧ Lib.IsBuilder 51 5 B b (bs ++ octs (W ++ numL f (L.take i))) wr ∧ wr.heap[w.heap.size]? = some (.cells #[.int .i64 (k : Int), .int .i64 nd, .int .i64 tw, .int .i64 pk, .int .i64 kp, .slice oa op.length oc, .int .i64 an, .int .i64 hd] 29 (0, 0)) ∧ wr.ownsRow w1.heap.size 74 1 (.slice ra L.length rc) L.length (ptrs w.heap.size L) ∧ Below B w wr ∧ Typ [51, 5] w wr)
  case atStart => exact ⟨0, by omega, rfl, by simpa [numL] using hw2, hm2, ho2, HB2, HT2⟩
  case round =>
    obtain ⟨i, hi, rfl, hw, hmr, ho, HB, HT⟩ := hrel
    clear hw2 hm2 ho2 HB2 HT2
    have hBr := HB.size
    have hMl : (W ++ numL f (L.take i)).length ≤ 7 + 22 * 3 := by
      have h1 := numL_len f hnum (L.take i)
      have h2 : (L.take i).length ≤ 3 := by rw [List.length_take]; omega
      rw [List.length_append]
      omega
    by_cases hlt : i < L.length
    · have hiz : (i : Int) < (L.length : Int) := by omega
      have hi0 : (0 : Int) ≤ (i : Int) := by omega
      obtain ⟨q, hq⟩ : ∃ q, L[i] = q := ⟨_, rfl⟩
      have hqv := hcells q (hmem q (hq ▸ List.getElem_mem hlt))
      have hnt := numL_take (f := f) hlt
      rw [hq] at hnt
      have HN : Hid (numL f (L.take (i + 1)) = numL f (L.take i) ++ 32 :: decL (f q)) := hnt
      have hgo : ∃ g, ra = some ⟨g, 0, none⟩ ∧ wr.cell? ⟨g, i, none⟩ = some (.pointer (some ⟨w.heap.size, q, none⟩)) := by
        have hc : ∀ (wx : World) (g : Nat), wx.ownsRow w1.heap.size 74 1 (.slice (some ⟨g, 0, none⟩) L.length rc) L.length (ptrs w.heap.size L) → wx.cell? ⟨g, i, none⟩ = some (.pointer (some ⟨w.heap.size, q, none⟩)) := fun wx g hx => by
          have := hx.cells (g := g) rfl i (.pointer (some ⟨w.heap.size, q, none⟩)) (by unfold ptrs; rw [List.getElem?_map, List.getElem?_eq_getElem hlt, hq]; rfl)
          rwa [WideShapes.add_plain, Nat.zero_add] at this
        rcases ho.2 with ⟨e, h0⟩ | ⟨g, cap, cur, e, _, hg, hnc, _⟩
        · omega
        · simp only [Value.slice.injEq] at e
          obtain ⟨rfl, _, rfl⟩ := e
          exact ⟨g, rfl, hc wr g ho⟩
      obtain ⟨g, rfl, hpc⟩ := hgo
      have hfq := hnum q
      obtain ⟨x, hx⟩ : ∃ x, f q = x := ⟨_, rfl⟩
      rw [hx] at hqv hfq HN
      have hds := decS_size x hfq.1 hfq.2
      generalize hM : W ++ numL f (L.take i) = M at *
      have HM : Hid (W ++ numL f (L.take i) = M) := hM
      clear hM hq hx hnt
      go_wp2_with fail
      refine (hcw M ⟨#[32]⟩ _ hw (by show M.length + 1 ≤ _; omega) (by omega)).mono ?_
      rintro r w3 ⟨rfl, hw3, hb3, ht3⟩
      rw [show sbytes ⟨#[32]⟩ = [32] from rfl] at hw3
      have hm3 := ht3.block _ _ _ (by decide) hmr
      have ho3 := own_typ ho ht3 (by decide)
      have HB3 := HB.trans hb3
      have HT3 := HT.trans ht3
      have hB3 := HB3.size
      obtain ⟨m0, ml, _⟩ := blk hm3
      have hqc := (m0 q).trans hqv
      clear hw hmr ho HB HT hb3 ht3 hpc m0
      go_wp2_with fail
      refine (itoa_any x hfq.1 hfq.2 _ (hT.below (hwz0.trans (HB3.mono hBz)))).mono ?_
      rintro r w4 ⟨rfl, hb4⟩
      have hw4 := builder_below hw3 hb4
      have hm4 := (hb4.block _ ml).trans hm3
      have ho4 := own_below ho3 hb4
      have HB4 := HB3.trans (hb4.mono (by omega))
      have HT4 := HT3.trans (Typ.of_below hb4)
      have hB4 := HB4.size
      clear hw3 hm3 ho3 HB3 HT3 hb4 hqc ml
      go_wp2_with fail
      refine (hcw (M ++ [32]) (decS x) _ hw4 (by rw [List.length_append]; simp only [List.length_cons, List.length_nil]; omega) (by omega)).mono ?_
      rintro r w5 ⟨rfl, hw5, hb5, ht5⟩
      rw [decS_bytes] at hw5
      go_wp2_with fail
      go_roundg (L.length - i - 1)
      case measure => omega
      case rel =>
        refine ⟨i + 1, by omega, by go_num, ?_, ht5.block _ _ _ (by decide) hm4, own_typ ho4 ht5 (by decide), HB4.trans hb5, HT4.trans ht5⟩
        rw [HN.out, ← List.append_assoc, HM.out]
        simpa using hw5
    · obtain rfl : i = L.length := by omega
      have hiz : ¬ (L.length : Int) < (L.length : Int) := by omega
      rw [List.take_length] at hw hMl
      obtain ⟨m0, ml, _⟩ := blk hmr
      clear ho hcells hmem
      obtain ⟨N, hN⟩ : ∃ N, N = W ++ numL f L := ⟨_, rfl⟩
      have HNN : Hid (N = W ++ numL f L) := hN
      rw [← hN] at hw hMl
      clear hN hnum hsw
      obtain ⟨w6, rfl⟩ : ∃ w6, w6 = wr := ⟨_, rfl⟩
      obtain ⟨g6, hg6⟩ : ∃ g6, g6 = gk := ⟨_, rfl⟩
      clear hg6
      go_wp2_with fail
      go_loopg [32] op.length (fun g iv wr => ∃ i : Nat, i + g = op.length ∧ iv = .int .i64 (i : Int) ∧ Lib.IsBuilder 51 5 B b (bs ++ octs (N ++ opTx (op.take i))) wr ∧ Below B w wr ∧ Typ [51, 5] w wr)
      case atStart => exact ⟨0, by omega, rfl, by simpa [opTx] using hw, HB, HT⟩
      case round =>
        obtain ⟨i, hi, rfl, hw', HB', HT'⟩ := hrel
        clear hw HB HT
        have hBr' := HB'.size
        have hO := opTx_le (op.take i) (fun p hp => (hps p (List.mem_of_mem_take hp)).2)
        by_cases hlt : i < op.length
        · have hiz' : (i : Int) < (op.length : Int) := by omega
          have hi0 : (0 : Int) ≤ (i : Int) := by omega
          have hT3 := opTb_take hlt
          have hT4 := opTb_le op (i + 1)
          have hT5 := opTx_take hlt
          have hp := hps _ (List.getElem_mem hlt)
          have HH : Hid (opTx (op.take (i + 1)) = opTx (op.take i) ++ 32 :: partL op[i]) := hT5
          have hwzr := hwz0.trans (HB'.mono hBz)
          rcases hop.below hwzr with rfl | ⟨ob, off, rfl, hob, hcell⟩
          · simp at hlt
          obtain ⟨c0, c1, c2⟩ := hcell i hlt
          have hle : bs.length + 200 + opTb op ≤ 140737488355328 := HLen.out
          have hml : (N ++ opTx (op.take i)).length + 1 ≤ 200 + opTb op := by rw [List.length_append]; omega
          have hpl : bs.length + ((N ++ opTx (op.take i)).length + 1) + 22 + 2 * op[i].text.size ≤ 140737488355328 := by rw [List.length_append]; omega
          clear hcell hT3 hT4 hT5 hO hps hMl hop
          generalize hM : N ++ opTx (op.take i) = M at *
          have HM : Hid (N ++ opTx (op.take i) = M) := hM
          clear hM
          obtain ⟨p, hpe⟩ : ∃ p, p = op[i] := ⟨_, rfl⟩
          rw [← hpe] at c0 c1 c2 hp hpl HH
          clear hpe
          obtain ⟨kd, pn, tx⟩ := p
          simp only at c0 c1 c2 hp hpl
          have hba := (Below.refl wr.heap.size wr).alloc (Nat.le_refl _) (.cells #[.int .i64 kd, .int .i64 pn, .string tx] 63)
          have hm := heap_alloc_new wr (.cells #[.int .i64 kd, .int .i64 pn, .string tx] 63)
          have hwa := builder_below hw' hba
          have HBa := HB'.trans (hba.mono (by omega))
          have HTa := HT'.trans (Typ.of_below hba)
          have hBa := HBa.size
          go_wp2_with fail
          refine (hcw M ⟨#[32]⟩ _ hwa (by show M.length + 1 ≤ _; omega) (by omega)).mono ?_
          rintro r w3 ⟨rfl, hw3, hb3, ht3⟩
          rw [show sbytes ⟨#[32]⟩ = [32] from rfl] at hw3
          have hm3 := ht3.block _ _ _ (by decide) hm
          have HB3 := HBa.trans hb3
          have HT3 := HTa.trans ht3
          have hB3 := HB3.size
          obtain ⟨m0, ml, _⟩ := blk hm3
          have cP := writePart_any B b (bs ++ octs (M ++ [32])) ⟨kd, pn, tx⟩ wz w3 hw3 hp.1 hp.2 (by rw [List.length_append, octs_length, List.length_append]; simp only [List.length_cons, List.length_nil]; omega) (by omega) hT (hwz0.trans (HB3.mono hBz)) hBz
          simp only at cP
          clear hwa hm HBa HTa hb3 ht3 hw' HB' HT' hba
          go_wp2_with fail
          refine cP.mono ?_
          clear cP
          rintro r w4 ⟨rfl, hw4, hb4, ht4⟩
          go_wp2_with fail
          go_roundg (op.length - i - 1)
          case measure => omega
          case rel =>
            refine ⟨i + 1, by omega, by go_num, ?_, HB3.trans hb4, HT3.trans ht4⟩
            rw [HH.out, ← List.append_assoc, HM.out]
            rw [List.append_assoc, ← octs_append, List.append_assoc] at hw4
            exact hw4
        · obtain rfl : i = op.length := by omega
          have hiz' : ¬ (op.length : Int) < (op.length : Int) := by omega
          rw [List.take_length] at hw' hO
          have hle : bs.length + 200 + opTb op ≤ 140737488355328 := HLen.out
          clear hop hps
          go_wp2_with fail
          refine (hcw (N ++ opTx op) ⟨#[10]⟩ _ hw' (by rw [List.length_append]; show _ + 1 ≤ _; omega) (by omega)).mono ?_
          rintro r w3 ⟨rfl, hw3, hb3, ht3⟩
          go_wp2_with fail
          go_end0
          refine ⟨rfl, ?_, HB'.trans hb3, HT'.trans ht3⟩
          rw [HR.out]
          unfold lineL
          rw [← HW.out, ← HL.out, ← HNN.out]
          exact hw3

end Go.Proofs.YtelindfmdakliaaDoor
