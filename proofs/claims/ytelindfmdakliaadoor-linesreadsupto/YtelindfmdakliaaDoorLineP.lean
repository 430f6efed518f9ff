/-
  Acts as lines: pure; walks: lines.writeText, writePart.
-/
import Derived.Test.YtelindfmdakliaaDoorWriteMem
import Derived.Test.YtelindfmdakliaaDoorBytesOpen
import Derived.Test.YtelindfmdakliaaDoorActMem
import Derived.Test.YtelindfmdakliaaDoorShelfI
import Derived.Lib.ConvBytes
import Derived.Lib.ItoaLen
namespace Go.Proofs.YtelindfmdakliaaDoor
open Go.RowKit Go.Lib

/-- a digit of four bits -/
def hexD (n : Nat) : Nat := if n < 10 then 48 + n else 87 + n
/-- bytes in digits -/
def hexL (l : List Nat) : List Nat := l.flatMap fun b => [hexD (b / 16), hexD (b % 16)]
/-- a number in decimal digits -/
def decL (n : Int) : List Nat := (Lib.itoa n).map (·.toNat)
/-- a part of an operation -/
def partL (p : Part) : List Nat := if p.kind = 1 then 107 :: decL p.n else if p.kind = 3 then 100 :: decL p.n else 105 :: hexL (sbytes p.text)
def opTx (ps : List Part) : List Nat := ps.flatMap fun p => 32 :: partL p
theorem hexL_append (a b : List Nat) : hexL (a ++ b) = hexL a ++ hexL b := by unfold hexL; rw [List.flatMap_append]
theorem hexL_length (l : List Nat) : (hexL l).length = 2 * l.length := by
  induction l with
  | nil => rfl
  | cons x l ih => unfold hexL at *; rw [List.flatMap_cons, List.length_append, ih]; simp; omega
theorem hexL_take {l : List Nat} {i : Nat} (h : i < l.length) : hexL (l.take (i + 1)) = hexL (l.take i) ++ [hexD (l[i] / 16), hexD (l[i] % 16)] := by
  rw [List.take_succ_eq_append_getElem h, hexL_append]; rfl

theorem bytesWorld_belowL (w : World) (s : ByteArray) : Below w.heap.size w (bytesWorld w 5 s) :=
  ⟨rfl, rfl, rfl, by rw [bytesWorld_size]; omega, fun k hk => bytesWorld_at_old w _ s k hk⟩
theorem sbytes_lt (s : ByteArray) : ∀ x ∈ sbytes s, x < 256 := by
  intro x hx
  obtain ⟨y, _, rfl⟩ := List.mem_map.1 hx
  exact y.toNat_lt
theorem sbytes_getL {s : ByteArray} {i : Nat} (h : i < (sbytes s).length) (h2 : i < s.data.toList.length) : (sbytes s)[i] = (s.data.toList[i]).toNat := by simp [sbytes]

theorem digit_at : ∀ (y : Nat) (h : y < (⟨#[48, 49, 50, 51, 52, 53, 54, 55, 56, 57, 97, 98, 99, 100, 101, 102]⟩ : ByteArray).size), ((⟨#[48, 49, 50, 51, 52, 53, 54, 55, 56, 57, 97, 98, 99, 100, 101, 102]⟩ : ByteArray)[y]'h).toNat = hexD y := by
  intro y h
  have h16 : y < 16 := h
  have := (show ∀ z : Fin 16, ((⟨#[48, 49, 50, 51, 52, 53, 54, 55, 56, 57, 97, 98, 99, 100, 101, 102]⟩ : ByteArray)[z.1]'(z.2)).toNat = hexD z.1 by decide +kernel) ⟨y, h16⟩
  exact this

set_option maxRecDepth 100000 in
set_option maxHeartbeats 2000000 in
theorem writeText_any (B b : Nat) (bs : List Value) (s : ByteArray) (w : World) (h : Lib.IsBuilder 51 5 B b bs w) (hlen : bs.length + 2 * s.size ≤ 140737488355328) (hBw : B ≤ w.heap.size) :
    Calls Tryd.prog 57 #[.pointer (some ⟨b, 0, none⟩), .string s] w fun e w' => e = .returned (.tuple #[]) ∧ Lib.IsBuilder 51 5 B b (bs ++ octs (hexL (sbytes s))) w' ∧ Below B w w' ∧ Typ [51, 5] w w' := by
  obtain ⟨v0, hv0⟩ := buV_of h
  have hcv1 := Lib.run_convert_string_bytes (P := Tryd.prog) w 9 44 5 s Tryd.underlying9 Tryd.underlying44 Tryd.underlying5
  have hbb := bytesWorld_belowL w s
  have hcell : ∀ i (h : i < (sbytes s).length), (bytesWorld w 5 s).cell? ⟨w.heap.size, i, none⟩ = some (.int .u8 ((sbytes s)[i] : Int)) := fun i hi => by
    have hi' : i < s.size := by rwa [sbytes_length] at hi
    rw [bytesWorld_cell w _ s i hi']
    have h2 : i < s.data.toList.length := by simpa using hi'
    rw [sbytes_getL hi h2]
    simp [List.getD, List.getElem?_eq_getElem h2]
  have hsm : ∀ i (h : i < (sbytes s).length), (sbytes s)[i] < 256 := fun i hi => sbytes_lt s _ (List.getElem_mem hi)
  have hls := sbytes_length s
  have hnew : w.heap.size < (bytesWorld w 5 s).heap.size := by rw [bytesWorld_size]; omega
  have hrb : w.heap.size ≠ b := by have := hv0.lt; omega
  have hrv : v0.ownBlock ≠ some w.heap.size := fun e => by have := (hv0.own.lt _ e).2; omega
  have hv1 := hv0.below hbb
  have hst := BStep.of_below (b := b) (v := v0) hbb
  generalize sbytes s = L at *
  rw [← hls] at hcv1 hlen
  clear h hls
  go_enter Tryd.func57, Tryd.ntmps57
  go_wp2_with fail
  go_loopg [9] L.length (fun g iv wr => ∃ i : Nat, i + g = L.length ∧ iv = .int .i64 (i : Int) ∧ ∃ v, BuV B b v (bs ++ octs (hexL (L.take i))) wr ∧ BStep b v0 v w wr ∧ (∀ j (h : j < L.length), wr.cell? ⟨w.heap.size, j, none⟩ = some (.int .u8 (L[j] : Int))) ∧ v.ownBlock ≠ some w.heap.size ∧ w.heap.size < wr.heap.size)
  case atStart => exact ⟨0, by omega, rfl, v0, by simpa [hexL, octs] using hv1, hst, hcell, hrv, hnew⟩
  case round =>
    obtain ⟨i, hi, rfl, v, hv, hs, hc, hvn, hrz⟩ := hrel
    by_cases hlt : i < L.length
    · have hiz : (i : Int) < (L.length : Int) := by omega
      have hi0 : (0 : Int) ≤ (i : Int) := by omega
      have hx := hsm i hlt
      have hci := hc i hlt
      have hT := hexL_take hlt
      have HT : Hid (hexL (L.take (i + 1)) = hexL (L.take i) ++ [hexD (L[i] / 16), hexD (L[i] % 16)]) := hT
      have hl1 : (bs ++ octs (hexL (L.take i))).length + 2 ≤ 140737488355328 := by rw [List.length_append, octs_length, hexL_length, List.length_take]; omega
      clear hT
      obtain ⟨x, hxx⟩ : ∃ x, L[i] = x := ⟨_, rfl⟩
      rw [hxx] at hx hci HT
      clear hxx
      generalize hexL (L.take i) = M at *
      have HC : Hid (∀ j (h : j < L.length), wr.cell? ⟨w.heap.size, j, none⟩ = some (.int .u8 (L[j] : Int))) := hc
      clear hc hcell hcv1 hsm
      go_wp2_with fail
      refine (writeByte_b B b v _ _ _ hv (by omega) (by omega)).mono ?_
      rintro r w1 ⟨rfl, v1, hv1, hs1⟩
      rw [digit_at] at hv1
      have hw1 := hs1.far hrz hrb hvn
      have hz1 := hs1.chg.size
      go_wp2_with fail
      refine (writeByte_b B b v1 _ _ _ hv1 (by simp at hl1 ⊢; omega) (by omega)).mono ?_
      rintro r w2 ⟨rfl, v2, hv2, hs2⟩
      rw [digit_at] at hv2
      have hw2 := hs2.far (Nat.lt_of_lt_of_le hrz hz1) hrb hw1.2
      have hz2 := hs2.chg.size
      go_wp2_with fail
      go_roundg (L.length - i - 1)
      case measure => omega
      case rel =>
        refine ⟨i + 1, by omega, by go_num, v2, ?_, (hs.trans hs1).trans hs2, fun j hj => ?_, hw2.2, by omega⟩
        · have e : bs ++ octs (hexL (L.take (i + 1))) = bs ++ octs M ++ [Value.int .u8 (hexD (x / 16) : Int)] ++ [Value.int .u8 (hexD (x % 16) : Int)] := by
            rw [HT.out, octs_append]; simp [octs]
          rw [e]
          exact hv2
        · exact (World.cell?_of_block (a := ⟨w.heap.size, j, none⟩) (hw2.1.trans hw1.1)).trans (HC.out j hj)
    · obtain rfl : i = L.length := by omega
      have hiz : ¬ (L.length : Int) < (L.length : Int) := by omega
      rw [List.take_length] at hv
      have hB := hs.below hv0 hBw
      have hTy := hs.typ hv0
      clear hc hcell hcv1 hsm
      go_wp2_with fail
      go_end0
      exact ⟨rfl, hv.is, hB, hTy⟩

def wordB : List (List UInt8) := [[], [116, 121, 112, 101], [117, 110, 100, 111], [115, 101, 108, 101, 99, 116], [100, 101, 108, 105, 118, 101, 114], [100, 114, 111, 112], [99, 111, 112, 121], [116, 105, 99, 107], [99, 114, 97, 115, 104], [115, 116, 97, 114, 116]]
/-- the table of powers of ten, the words of the kinds, and the two tables of utf8 -/
structure LTabs (w : World) : Prop where
  tabs : Tabs w
  pow : Lib.TabIs Tryd.prog w "internal/strconv.uint64pow10" .u64 Lib.pow10Tab
  words : ∃ cs, w.var? Tryd.prog "wherry/lines.words" = some cs ∧ ∀ k, k < 10 → ∃ l, wordB[k]? = some l ∧ cs[k]? = some (.string ⟨l.toArray⟩)
theorem var_belowL {w w' : World} {n : String} {cs : Array Value} (h : w.var? Tryd.prog n = some cs) (hb : Below w.heap.size w w') : w'.var? Tryd.prog n = some cs := by
  unfold World.var? at h ⊢
  cases hg : Tryd.prog.globalNamed n with
  | none => simp [hg] at h
  | some g =>
    simp only [hg, Option.bind_some] at h ⊢
    have hlt : g < w.heap.size := by
      rcases Nat.lt_or_ge g w.heap.size with h' | h'
      · exact h'
      · simp [Array.getElem?_eq_none h'] at h
    rw [hb.block g hlt]
    exact h
theorem LTabs.below {w w' : World} (h : LTabs w) (hb : Below w.heap.size w w') : LTabs w' := ⟨h.tabs.below hb, var_belowL h.pow hb, h.words.elim fun cs hc => ⟨cs, var_belowL hc.1 hb, hc.2⟩⟩

/-- a text of these bytes -/
def decS (n : Int) : ByteArray := ⟨(Lib.itoa n).toArray⟩
theorem decS_bytes (n : Int) : sbytes (decS n) = decL n := by unfold sbytes decS decL; simp
theorem decS_size (n : Int) (h0 : -9223372036854775808 ≤ n) (h1 : n ≤ 9223372036854775807) : (decS n).size ≤ 21 := by
  have := Lib.itoa_length_le n h0 h1
  show (Lib.itoa n).toArray.size ≤ 21
  simpa using this
theorem grow_belowL (w : World) (k : Nat) (os : Array Obj) : Below w.heap.size w (Go.Sort.grow (w.drewN k) os) :=
  ⟨rfl, rfl, rfl, by simp [Go.Sort.grow, World.drewN], fun i hi => by simp [Go.Sort.grow, World.drewN]; exact Array.getElem?_append_left hi⟩
theorem itoa_any (n : Int) (h0 : -9223372036854775808 ≤ n) (h1 : n ≤ 9223372036854775807) (w : World) (hT : LTabs w) :
    Calls Tryd.prog 36 #[.int .i64 n] w fun e w' => e = .returned (.string (decS n)) ∧ Below w.heap.size w w' :=
  (Any.strconv_Itoa Tryd.laysItoa n h0 h1 w hT.pow).mono fun _ _ ⟨h, k, os, hw⟩ => ⟨h, hw ▸ grow_belowL w k os⟩

/-- a byte is written -/
theorem writeByte_t (B b : Nat) (bs : List Value) (c : Int) (w : World) (h : Lib.IsBuilder 51 5 B b bs w) (hlen : bs.length + 1 ≤ 140737488355328) (hBw : B ≤ w.heap.size) :
    Calls Tryd.prog 56 #[.pointer (some ⟨b, 0, none⟩), .int .u8 c] w fun e w' => e = .returned .nilIface ∧ Lib.IsBuilder 51 5 B b (bs ++ [.int .u8 c]) w' ∧ Below B w w' ∧ Typ [51, 5] w w' := by
  obtain ⟨v, hv⟩ := buV_of h
  refine (writeByte_b B b v bs c w hv hlen hBw).mono ?_
  rintro e w' ⟨he, v', hv', hs⟩
  exact ⟨he, hv'.is, hs.below hv hBw, hs.typ hv⟩
theorem writeL (B b : Nat) (M : List Nat) (bs : List Value) (s : ByteArray) (w : World) (h : Lib.IsBuilder 51 5 B b (bs ++ octs M) w) (hlen : bs.length + M.length + s.size ≤ 140737488355328) (hBw : B ≤ w.heap.size) :
    Calls Tryd.prog 34 #[.pointer (some ⟨b, 0, none⟩), .string s] w fun e w' => e = .returned (.tuple #[.int .i64 s.size, .nilIface]) ∧ Lib.IsBuilder 51 5 B b (bs ++ octs (M ++ sbytes s)) w' ∧ Below B w w' ∧ Typ [51, 5] w w' := by
  have := writeString_t B b (bs ++ octs M) s w h (by rw [List.length_append, octs_length]; omega) hBw
  rwa [List.append_assoc, sbytes_cells, ← octs_append] at this
theorem part_len (p : Part) (hn : -9223372036854775808 ≤ p.n ∧ p.n ≤ 9223372036854775807) : (partL p).length ≤ 22 + 2 * p.text.size := by
  have h1 : (decL p.n).length ≤ 21 := by unfold decL; rw [List.length_map]; exact Lib.itoa_length_le _ hn.1 hn.2
  have h2 := hexL_length (sbytes p.text)
  rw [sbytes_length] at h2
  unfold partL
  split
  · rw [List.length_cons]; omega
  · split
    · rw [List.length_cons]; omega
    · rw [List.length_cons]; omega

set_option maxRecDepth 100000 in
set_option maxHeartbeats 2000000 in
theorem writePart_any (B b : Nat) (bs : List Value) (p : Part) (wz w : World) (h : Lib.IsBuilder 51 5 B b bs w) (hk : p.kind = 1 ∨ p.kind = 2 ∨ p.kind = 3) (hn : -9223372036854775808 ≤ p.n ∧ p.n ≤ 9223372036854775807) (hlen : bs.length + 22 + 2 * p.text.size ≤ 140737488355328) (hBw : B ≤ w.heap.size) (hT : LTabs wz) (hwz0 : Below wz.heap.size wz w) (hBz : wz.heap.size ≤ B) :
    Calls Tryd.prog 37 #[.pointer (some ⟨b, 0, none⟩), .agg #[.int .i64 p.kind, .int .i64 p.n, .string p.text]] w fun e w' => e = .returned (.tuple #[]) ∧ Lib.IsBuilder 51 5 B b (bs ++ octs (partL p)) w' ∧ Below B w w' ∧ Typ [51, 5] w w' := by
  obtain ⟨kd, n, tx⟩ := p
  simp only at hk hn hlen ⊢
  have hba := (Below.refl w.heap.size w).alloc (Nat.le_refl _) (.cells #[.int .i64 kd, .int .i64 n, .string tx] 63)
  have hm := heap_alloc_new w (.cells #[.int .i64 kd, .int .i64 n, .string tx] 63)
  have hw0 := builder_below h hba
  have hwz := hwz0
  have hty := Typ.of_below (Ts := [51, 5]) hba
  have hB0 := hba.mono hBw
  obtain ⟨m0, ml, _⟩ := blk hm
  have e1 : partL ⟨1, n, tx⟩ = [107] ++ decL n := rfl
  have e2 : partL ⟨2, n, tx⟩ = [105] ++ hexL (sbytes tx) := rfl
  have e3 : partL ⟨3, n, tx⟩ = [100] ++ decL n := rfl
  clear h hba hwz0
  rcases hk with rfl | rfl | rfl
  · rw [e1]
    clear e1 e2 e3
    go_enter Tryd.func37, Tryd.ntmps37
    go_wp2_with fail
    refine (writeByte_t B b bs 107 _ hw0 (by omega) (by have := hB0.size; omega)).mono ?_
    rintro r w1 ⟨rfl, hw1, hb1, ht1⟩
    have hm1 := ht1.block _ _ _ (by decide) hm
    have HB1 := hB0.trans hb1
    have HT1 := hty.trans ht1
    have HZ1 := hwz.trans (HB1.mono hBz)
    have hs1 := HB1.size
    obtain ⟨m0, ml, _⟩ := blk hm1
    clear hm hw0 hb1 ht1 hwz hty hB0
    rw [show bs ++ [Value.int .u8 107] = bs ++ octs [107] from rfl] at hw1
    go_wp2_with fail
    refine (itoa_any n hn.1 hn.2 _ (hT.below HZ1)).mono ?_
    rintro r w2 ⟨rfl, hb2⟩
    have hw2 := builder_below hw1 hb2
    have HB2 := HB1.trans (hb2.mono (by omega))
    have HT2 := HT1.trans (Typ.of_below hb2)
    have hs2 := HB2.size
    have hd := decS_size n hn.1 hn.2
    clear hw1 HB1 HT1 hm1 hb2 m0 ml HZ1 hs1
    go_wp2_with fail
    refine (writeL B b [107] bs (decS n) _ hw2 (by simp only [List.length_cons, List.length_nil]; omega) (by omega)).mono ?_
    rintro r w3 ⟨rfl, hw3, hb3, ht3⟩
    rw [decS_bytes] at hw3
    go_wp2_with fail
    go_end0
    exact ⟨rfl, hw3, HB2.trans hb3, HT2.trans ht3⟩
  · rw [e2]
    clear e1 e2 e3
    go_enter Tryd.func37, Tryd.ntmps37
    go_wp2_with fail
    refine (writeByte_t B b bs 105 _ hw0 (by omega) (by have := hB0.size; omega)).mono ?_
    rintro r w1 ⟨rfl, hw1, hb1, ht1⟩
    have hm1 := ht1.block _ _ _ (by decide) hm
    have HB1 := hB0.trans hb1
    have HT1 := hty.trans ht1
    have HZ1 := hwz.trans (HB1.mono hBz)
    have hs1 := HB1.size
    obtain ⟨m0, ml, _⟩ := blk hm1
    clear hm hw0 hb1 ht1 hwz hty hB0
    rw [show bs ++ [Value.int .u8 105] = bs ++ octs [105] from rfl] at hw1
    go_wp2_with fail
    refine (writeText_any B b (bs ++ octs [105]) tx _ hw1 (by rw [List.length_append, octs_length]; simp only [List.length_cons, List.length_nil]; omega) (by omega)).mono ?_
    rintro r w2 ⟨rfl, hw2, hb2, ht2⟩
    rw [List.append_assoc, ← octs_append] at hw2
    go_wp2_with fail
    go_end0
    exact ⟨rfl, hw2, HB1.trans hb2, HT1.trans ht2⟩
  · rw [e3]
    clear e1 e2 e3
    go_enter Tryd.func37, Tryd.ntmps37
    go_wp2_with fail
    refine (writeByte_t B b bs 100 _ hw0 (by omega) (by have := hB0.size; omega)).mono ?_
    rintro r w1 ⟨rfl, hw1, hb1, ht1⟩
    have hm1 := ht1.block _ _ _ (by decide) hm
    have HB1 := hB0.trans hb1
    have HT1 := hty.trans ht1
    have HZ1 := hwz.trans (HB1.mono hBz)
    have hs1 := HB1.size
    obtain ⟨m0, ml, _⟩ := blk hm1
    clear hm hw0 hb1 ht1 hwz hty hB0
    rw [show bs ++ [Value.int .u8 100] = bs ++ octs [100] from rfl] at hw1
    go_wp2_with fail
    refine (itoa_any n hn.1 hn.2 _ (hT.below HZ1)).mono ?_
    rintro r w2 ⟨rfl, hb2⟩
    have hw2 := builder_below hw1 hb2
    have HB2 := HB1.trans (hb2.mono (by omega))
    have HT2 := HT1.trans (Typ.of_below hb2)
    have hs2 := HB2.size
    have hd := decS_size n hn.1 hn.2
    clear hw1 HB1 HT1 hm1 hb2 m0 ml HZ1 hs1
    go_wp2_with fail
    refine (writeL B b [100] bs (decS n) _ hw2 (by simp only [List.length_cons, List.length_nil]; omega) (by omega)).mono ?_
    rintro r w3 ⟨rfl, hw3, hb3, ht3⟩
    rw [decS_bytes] at hw3
    go_wp2_with fail
    go_end0
    exact ⟨rfl, hw3, HB2.trans hb3, HT2.trans ht3⟩

end Go.Proofs.YtelindfmdakliaaDoor
