/-
  Numbers as they are written: pure; walk: wherryref.whole. Made by part/mkwhole.py (with part/LineN.part).
-/
import Derived.Test.YtelindfmdakliaaDoorReadP
namespace Go.Proofs.YtelindfmdakliaaDoor
open Go.RowKit Go.Lib
/-- is it a digit? -/
def isD (c : UInt8) : Bool := decide (48 ≤ c.toNat ∧ c.toNat ≤ 57)
/-- what digits spell -/
def valD (a : Nat) (l : List UInt8) : Nat := l.foldl (fun a c => 10 * a + (c.toNat - 48)) a
theorem valD_cons (a : Nat) (c : UInt8) (l : List UInt8) : valD a (c :: l) = valD (10 * a + (c.toNat - 48)) l := by unfold valD; rw [List.foldl_cons]
theorem valD_append (a : Nat) (l m : List UInt8) : valD a (l ++ m) = valD (valD a l) m := by unfold valD; rw [List.foldl_append]
theorem valD_ge : ∀ (l : List UInt8) (a : Nat), a ≤ valD a l
  | [], a => Nat.le_refl _
  | c :: l, a => by
    have := valD_ge l (10 * a + (c.toNat - 48))
    rw [valD_cons]; omega
theorem valD_mono : ∀ (l : List UInt8) (a b : Nat), a ≤ b → valD a l ≤ valD b l
  | [], a, b, h => h
  | c :: l, a, b, h => by rw [valD_cons, valD_cons]; exact valD_mono l _ _ (by omega)
theorem valD_lt : ∀ (l : List UInt8) (a : Nat), (∀ c ∈ l, isD c = true) → valD a l < (a + 1) * 10 ^ l.length
  | [], a, _ => by show a < _; simp
  | c :: l, a, h => by
    rw [valD_cons]
    have h1 := of_decide_eq_true (h c List.mem_cons_self)
    have h2 := valD_lt l (10 * a + (c.toNat - 48)) (fun x hx => h x (List.mem_cons_of_mem _ hx))
    have h3 : (10 * a + (c.toNat - 48) + 1) * 10 ^ l.length ≤ ((a + 1) * 10) * 10 ^ l.length := Nat.mul_le_mul_right _ (by omega)
    rw [List.length_cons, Nat.pow_succ, Nat.mul_comm (10 ^ l.length) 10, ← Nat.mul_assoc]
    omega
theorem valD_ge' : ∀ (l : List UInt8) (a : Nat), a * 10 ^ l.length ≤ valD a l
  | [], a => by show a * 1 ≤ a; omega
  | c :: l, a => by
    rw [valD_cons]
    have h2 := valD_ge' l (10 * a + (c.toNat - 48))
    have h3 : (a * 10) * 10 ^ l.length ≤ (10 * a + (c.toNat - 48)) * 10 ^ l.length := Nat.mul_le_mul_right _ (by omega)
    rw [List.length_cons, Nat.pow_succ, Nat.mul_comm (10 ^ l.length) 10, ← Nat.mul_assoc]
    omega
theorem digit_ofNat {c : UInt8} (h : isD c = true) : UInt8.ofNat (48 + (c.toNat - 48)) = c := by
  have h1 := of_decide_eq_true h
  rw [show 48 + (c.toNat - 48) = c.toNat by omega]
  exact UInt8.ofNat_toNat
theorem dec_step {u d : Nat} (hu : 1 ≤ u) (hd : d < 10) : Lib.decDigits (10 * u + d) = Lib.decDigits u ++ [UInt8.ofNat (48 + d)] := by
  rw [Lib.decDigits, dif_neg (by omega), show (10 * u + d) / 10 = u by omega, show (10 * u + d) % 10 = d by omega]
theorem dec_val : ∀ (l : List UInt8) (a : Nat), 1 ≤ a → (∀ c ∈ l, isD c = true) → Lib.decDigits (valD a l) = Lib.decDigits a ++ l
  | [], a, _, _ => by simp [valD]
  | c :: l, a, ha, h => by
    have h1 := of_decide_eq_true (h c List.mem_cons_self)
    rw [valD_cons, dec_val l _ (by omega) (fun x hx => h x (List.mem_cons_of_mem _ hx)), dec_step ha (by omega), digit_ofNat (h c List.mem_cons_self), List.append_assoc]
    rfl
/-- digits that begin with no nought are what is written of their value -/
theorem dec_of {c : UInt8} {l : List UInt8} (h : ∀ x ∈ c :: l, isD x = true) (hc : c ≠ 48 ∨ l = []) : Lib.decDigits (valD 0 (c :: l)) = c :: l := by
  have h1 := of_decide_eq_true (h c List.mem_cons_self)
  rw [valD_cons, Nat.mul_zero, Nat.zero_add]
  by_cases h0 : c = 48
  · subst h0
    rcases hc with hc | hc
    · exact absurd rfl hc
    · subst hc
      show Lib.decDigits 0 = [48]
      rw [Lib.decDigits_one (by decide)]; rfl
  · have : c.toNat ≠ 48 := fun e => h0 (UInt8.toNat_inj.1 (by show c.toNat = 48; exact e))
    rw [dec_val l _ (by omega) (fun x hx => h x (List.mem_cons_of_mem _ hx)), Lib.decDigits_one (by omega), digit_ofNat (h c List.mem_cons_self)]
    rfl
theorem ofNat_D {d : Nat} (h : d < 10) : isD (UInt8.ofNat (48 + d)) = true ∧ (UInt8.ofNat (48 + d)).toNat = 48 + d := by
  have e : (UInt8.ofNat (48 + d)).toNat = 48 + d := by rw [UInt8.toNat_ofNat']; exact Nat.mod_eq_of_lt (by omega)
  refine ⟨?_, e⟩
  unfold isD
  rw [e]
  exact decide_eq_true (by omega)
theorem dec_facts : ∀ (m u : Nat), u ≤ m → (∀ c ∈ Lib.decDigits u, isD c = true) ∧ valD 0 (Lib.decDigits u) = u ∧ ∃ c r, Lib.decDigits u = c :: r ∧ (c = 48 → u = 0)
  | m, u, hm => by
    by_cases h : u < 10
    · rw [Lib.decDigits_one h]
      obtain ⟨h1, h2⟩ := ofNat_D h
      refine ⟨fun c hc => by rw [List.mem_singleton.1 hc]; exact h1, ?_, _, _, rfl, fun e => ?_⟩
      · show 10 * 0 + ((UInt8.ofNat (48 + u)).toNat - 48) = u
        omega
      · have := congrArg UInt8.toNat e
        rw [h2] at this
        have h48 : (48 : UInt8).toNat = 48 := rfl
        omega
    · cases m with
      | zero => omega
      | succ m =>
        obtain ⟨i1, i2, c, r, i3, i4⟩ := dec_facts m (u / 10) (by omega)
        obtain ⟨h1, h2⟩ := ofNat_D (d := u % 10) (by omega)
        have e : Lib.decDigits u = Lib.decDigits (u / 10) ++ [UInt8.ofNat (48 + u % 10)] := by rw [Lib.decDigits, dif_neg h]
        rw [e]
        refine ⟨fun x hx => ?_, ?_, c, r ++ [UInt8.ofNat (48 + u % 10)], by rw [i3]; rfl, fun h0 => ?_⟩
        · rcases List.mem_append.1 hx with hx | hx
          · exact i1 x hx
          · rw [List.mem_singleton.1 hx]; exact h1
        · rw [valD_append, i2]
          show 10 * (u / 10) + ((UInt8.ofNat (48 + u % 10)).toNat - 48) = u
          omega
        · have := i4 h0; omega
theorem dec_len : ∀ (k u : Nat), 1 ≤ k → u < 10 ^ k → (Lib.decDigits u).length ≤ k
  | 0, _, h, _ => absurd h (by decide)
  | k + 1, u, _, hu => by
    by_cases h : u < 10
    · rw [Lib.decDigits_one h]; simp
    · rw [Lib.decDigits, dif_neg h, List.length_append, List.length_singleton]
      have hk : 1 ≤ k := by
        cases k with
        | zero => simp at hu; omega
        | succ k => omega
      have := dec_len k (u / 10) hk (by rw [Nat.pow_succ] at hu; omega)
      omega
theorem parse_ok : ∀ (l : List UInt8) (a : Nat), (∀ c ∈ l, isD c = true) → valD a l < 18446744073709551616 → Lib.parseUint10 a l = .ok (valD a l)
  | [], a, _, _ => rfl
  | c :: l, a, h, hv => by
    have h1 := of_decide_eq_true (h c List.mem_cons_self)
    rw [valD_cons] at hv ⊢
    have h2 := valD_ge l (10 * a + (c.toNat - 48))
    have h3 := parse_ok l (10 * a + (c.toNat - 48)) (fun x hx => h x (List.mem_cons_of_mem _ hx)) hv
    unfold Lib.parseUint10
    rw [if_pos h1, if_neg (by omega), if_neg (by omega), show a * 10 + (c.toNat - 48) = 10 * a + (c.toNat - 48) by omega, h3]
/-- a number is read as it is written -/
theorem numW_of {v : Int} (h : -9223372036854775808 ≤ v ∧ v ≤ 9223372036854775807) : numW (Lib.itoa v) = some v := by
  have hmag : ∀ u : Nat, u < 18446744073709551616 → Lib.parseMag (Lib.decDigits u) = .ok u := fun u hu => by
    obtain ⟨i1, i2, c, r, i3, _⟩ := dec_facts u u (Nat.le_refl _)
    unfold Lib.parseMag
    rw [if_neg (by rw [i3]; exact List.cons_ne_nil _ _), parse_ok _ 0 i1 (by rw [i2]; exact hu), i2]
  have ha : Lib.atoiAll (Lib.itoa v) = .ok v := by
    by_cases hn : v < 0
    · have e : Lib.itoa v = 45 :: Lib.decDigits v.natAbs := by unfold Lib.itoa; rw [if_pos hn]
      rw [e, Lib.atoiAll_minus, hmag _ (by omega)]
      show (if 9223372036854775808 < v.natAbs then _ else _) = _
      rw [if_neg (by omega)]
      congr 1
      omega
    · have e : Lib.itoa v = Lib.decDigits v.toNat := by unfold Lib.itoa; rw [if_neg hn]
      obtain ⟨i1, _, c, r, i3, _⟩ := dec_facts v.toNat v.toNat (Nat.le_refl _)
      have hc := of_decide_eq_true (i1 c (by rw [i3]; exact List.mem_cons_self))
      have hm := hmag v.toNat (by omega)
      rw [e]
      rw [i3] at hm ⊢
      rw [Lib.atoiAll_plain c r (by omega) (by omega), hm]
      show (if 9223372036854775808 ≤ v.toNat then _ else _) = _
      rw [if_neg (by omega)]
      congr 1
      omega
  unfold numW
  rw [ha]
  show (if Lib.itoa v = Lib.itoa v then some v else none) = _
  rw [if_pos rfl]
/-- digits, perhaps behind a sign -/
def sgn (ng : Bool) (d : List UInt8) : List UInt8 := if ng then 45 :: d else d
theorem numW_sgn {ng : Bool} {d : List UInt8} {v : Int} (h : numW (sgn ng d) = some v) (hh : ng = false → d.head? ≠ some 45) : ∃ u : Nat, d = Lib.decDigits u ∧ v = (if ng then -(u : Int) else (u : Int)) ∧ (ng = true → 1 ≤ u ∧ u ≤ 9223372036854775808) ∧ (ng = false → u ≤ 9223372036854775807) := by
  have hi : Lib.itoa v = sgn ng d ∧ -9223372036854775808 ≤ v ∧ v ≤ 9223372036854775807 := by
    have hb : -9223372036854775808 ≤ v ∧ v ≤ 9223372036854775807 := by
      unfold numW at h
      split at h
      · rename_i v' hA
        split at h
        · cases h; exact Lib.atoiAll_bounds hA
        · cases h
      · cases h
    unfold numW at h
    split at h
    · split at h
      · rename_i he; cases h; exact ⟨he, hb⟩
      · cases h
    · cases h
  obtain ⟨he, hb⟩ := hi
  unfold Lib.itoa at he
  split at he
  · rename_i hn
    cases ng with
    | true =>
      simp only [sgn, if_true, List.cons.injEq, true_and] at he
      exact ⟨v.natAbs, he.symm, by simp only [if_true]; omega, fun _ => by omega, fun h => by cases h⟩
    | false =>
      simp only [sgn] at he
      have he : 45 :: Lib.decDigits v.natAbs = d := he
      exact absurd (by rw [← he]; rfl) (hh rfl)
  · rename_i hn
    obtain ⟨i1, _, c, r, i3, _⟩ := dec_facts v.toNat v.toNat (Nat.le_refl _)
    cases ng with
    | true =>
      simp only [sgn, if_true] at he
      rw [i3] at he
      have hc := of_decide_eq_true (i1 c (by rw [i3]; exact List.mem_cons_self))
      have : c = 45 := (List.cons.inj he).1
      subst this
      exact absurd hc (by decide)
    | false =>
      simp only [sgn] at he
      have he : Lib.decDigits v.toNat = d := he
      exact ⟨v.toNat, he.symm, by show v = (v.toNat : Int); omega, ⟨fun h => absurd h (by decide), fun _ => by omega⟩⟩
theorem numW_sgn_of {ng : Bool} {u : Nat} (h1 : ng = true → 1 ≤ u ∧ u ≤ 9223372036854775808) (h2 : ng = false → u ≤ 9223372036854775807) : numW (sgn ng (Lib.decDigits u)) = some (if ng then -(u : Int) else (u : Int)) := by
  cases ng with
  | true =>
    obtain ⟨a, b⟩ := h1 rfl
    have e : sgn true (Lib.decDigits u) = Lib.itoa (-(u : Int)) := by unfold Lib.itoa; rw [if_pos (by omega)]; simp [sgn]
    rw [e, numW_of (by omega)]; rfl
  | false =>
    have b := h2 rfl
    have e : sgn false (Lib.decDigits u) = Lib.itoa (u : Int) := by unfold Lib.itoa; rw [if_neg (by omega)]; simp [sgn]
    rw [e, numW_of (by omega)]; rfl
theorem valD_less {l m : List UInt8} (hl : ∀ c ∈ l, isD c = true) (he : l.length = m.length) {a b : Nat} (h : a < b) : valD a l < valD b m := by
  have h1 := valD_lt l a hl
  have h2 := valD_ge' m b
  have h3 : (a + 1) * 10 ^ l.length ≤ b * 10 ^ l.length := Nat.mul_le_mul_right _ h
  rw [← he] at h2
  omega
theorem lex_less : ∀ (l m : List UInt8) (a : Nat), l.length = m.length → (∀ c ∈ l, isD c = true) → (∀ c ∈ m, isD c = true) → (Go.Op.bytesLess l m = true → valD a l < valD a m) ∧ (Go.Op.bytesLess l m = false → l ≠ m → valD a m < valD a l)
  | [], [], a, _, _, _ => ⟨fun h => (by cases h), fun _ h => absurd rfl h⟩
  | [], _ :: _, a, h, _, _ => (by simp at h)
  | _ :: _, [], a, h, _, _ => (by simp at h)
  | x :: l, y :: m, a, hlen, hl, hm => by
    have hl' : ∀ c ∈ l, isD c = true := fun c hc => hl c (List.mem_cons_of_mem _ hc)
    have hm' : ∀ c ∈ m, isD c = true := fun c hc => hm c (List.mem_cons_of_mem _ hc)
    have dx := of_decide_eq_true (hl x List.mem_cons_self)
    have dy := of_decide_eq_true (hm y List.mem_cons_self)
    have he : l.length = m.length := by simpa using hlen
    have hb : Go.Op.bytesLess (x :: l) (y :: m) = (decide (x < y) || (x == y && Go.Op.bytesLess l m)) := rfl
    rw [hb, valD_cons, valD_cons]
    rcases Nat.lt_trichotomy x.toNat y.toNat with h | h | h
    · have h1 : decide (x < y) = true := decide_eq_true (UInt8.lt_iff_toNat_lt.2 h)
      rw [h1, Bool.true_or]
      exact ⟨fun _ => valD_less hl' he (by omega), fun h => (by cases h)⟩
    · have e : x = y := UInt8.toNat_inj.1 h
      subst e
      have h1 : decide (x < x) = false := decide_eq_false (fun h => by have := UInt8.lt_iff_toNat_lt.1 h; omega)
      rw [h1, Bool.false_or, beq_self_eq_true, Bool.true_and]
      obtain ⟨i1, i2⟩ := lex_less l m (10 * a + (x.toNat - 48)) he hl' hm'
      exact ⟨i1, fun h hne => i2 h (fun e => hne (by rw [e]))⟩
    · have h1 : decide (x < y) = false := decide_eq_false (fun h' => by have := UInt8.lt_iff_toNat_lt.1 h'; omega)
      have h2 : (x == y) = false := by
        rw [beq_eq_false_iff_ne]
        intro e; subst e; omega
      rw [h1, h2]
      exact ⟨fun h => (by cases h), fun _ _ => valD_less hm' he.symm (by omega)⟩

def most (ng : Bool) : List UInt8 := if ng then [57, 50, 50, 51, 51, 55, 50, 48, 51, 54, 56, 53, 52, 55, 55, 53, 56, 48, 56] else [57, 50, 50, 51, 51, 55, 50, 48, 51, 54, 56, 53, 52, 55, 55, 53, 56, 48, 55]
/-- is there no number that reads so? -/
def beyond (ng : Bool) (d : List UInt8) : Bool := !(Go.Op.bytesLess d (most ng) || d == most ng)
theorem gtr_run (x y : ByteArray) (w : World) : (binOp .gtr 9 (.string x) (.string y)).run Tryd.prog w = .ok (.bool (!(Go.Op.bytesLess x.data.toList y.data.toList || x.data.toList == y.data.toList))) w := by
  simp [binOp, Go.Op.stringOp, Lib.toList_data]
theorem gtr_most (ng : Bool) (d : List UInt8) (w : World) : (binOp .gtr 9 (.string (txt d)) (.string ⟨(most ng).toArray⟩)).run Tryd.prog w = .ok (.bool (beyond ng d)) w := gtr_run _ _ _
theorem txt_same (s : ByteArray) : txt s.data.toList = s := by unfold txt; rw [Array.toArray_toList]
theorem str_head (c : UInt8) (r : List UInt8) (w : World) : (Instr.index 9 (.string (txt (c :: r))) (.int .i64 0)).run Tryd.prog w = .ok (.int .u8 (c.toNat : Int)) w := str_index (txt (c :: r)) 0 0 rfl (by show 0 < r.length + 1; omega) w
theorem most_val (ng : Bool) : (most ng).length = 19 ∧ (∀ c ∈ most ng, isD c = true) ∧ valD 0 (most ng) = (if ng then 9223372036854775808 else 9223372036854775807) := by
  cases ng <;> exact ⟨rfl, by decide, by rfl⟩
theorem not_beyond {ng : Bool} {d : List UInt8} (h : beyond ng d = false) (hl : d.length = 19) (hd : ∀ c ∈ d, isD c = true) : valD 0 d ≤ (if ng then 9223372036854775808 else 9223372036854775807) := by
  obtain ⟨m1, m2, m3⟩ := most_val ng
  obtain ⟨i1, _⟩ := lex_less d (most ng) 0 (by omega) hd m2
  unfold beyond at h
  rw [← m3]
  by_cases hb : Go.Op.bytesLess d (most ng) = true
  · exact Nat.le_of_lt (i1 hb)
  · have hb' : Go.Op.bytesLess d (most ng) = false := by simpa using hb
    rw [hb', Bool.false_or] at h
    have : d = most ng := by simpa using h
    rw [this]
    exact Nat.le_refl _
theorem beyond_none {ng : Bool} {d : List UInt8} (h : beyond ng d = true) (hl : d.length = 19) (hh : ng = false → d.head? ≠ some 45) : numW (sgn ng d) = none := by
  cases hn : numW (sgn ng d) with
  | none => rfl
  | some v =>
    exfalso
    obtain ⟨u, e, _, b1, b2⟩ := numW_sgn hn hh
    obtain ⟨d1, d2, _⟩ := dec_facts u u (Nat.le_refl _)
    rw [← e] at d1 d2
    obtain ⟨m1, m2, m3⟩ := most_val ng
    obtain ⟨_, i2⟩ := lex_less d (most ng) 0 (by omega) d1 m2
    unfold beyond at h
    have hb : Go.Op.bytesLess d (most ng) = false ∧ d ≠ most ng := by
      rw [Bool.not_eq_true', Bool.or_eq_false_iff] at h
      exact ⟨h.1, by simpa using h.2⟩
    have := i2 hb.1 hb.2
    rw [d2, m3] at this
    cases ng with
    | true => have := b1 rfl; simp at *; omega
    | false => have := b2 rfl; simp at *; omega
theorem long_none {ng : Bool} {d : List UInt8} (hl : 19 < d.length) (hh : ng = false → d.head? ≠ some 45) : numW (sgn ng d) = none := by
  cases hn : numW (sgn ng d) with
  | none => rfl
  | some v =>
    exfalso
    obtain ⟨u, e, _, b1, b2⟩ := numW_sgn hn hh
    have := dec_len 19 u (by decide) (by cases ng with | true => have := b1 rfl; omega | false => have := b2 rfl; omega)
    rw [← e] at this
    omega
theorem odd_none {ng : Bool} {d : List UInt8} {c : UInt8} (hc : c ∈ d) (hd : isD c = false) (hh : ng = false → d.head? ≠ some 45) : numW (sgn ng d) = none := by
  cases hn : numW (sgn ng d) with
  | none => rfl
  | some v =>
    exfalso
    obtain ⟨u, e, _, b1, b2⟩ := numW_sgn hn hh
    obtain ⟨d1, _, _⟩ := dec_facts u u (Nat.le_refl _)
    rw [← e] at d1
    rw [d1 c hc] at hd
    cases hd
theorem empty_none (ng : Bool) : numW (sgn ng []) = none := by
  cases hn : numW (sgn ng []) with
  | none => rfl
  | some v =>
    exfalso
    obtain ⟨u, e, _, _, _⟩ := numW_sgn hn (fun _ h => by cases h)
    obtain ⟨_, _, c, r, e2, _⟩ := dec_facts u u (Nat.le_refl _)
    rw [← e] at e2
    cases e2
theorem nought_none {ng : Bool} {r : List UInt8} (h : ng = true ∨ r ≠ []) : numW (sgn ng (48 :: r)) = none := by
  cases hn : numW (sgn ng (48 :: r)) with
  | none => rfl
  | some v =>
    exfalso
    obtain ⟨u, e, _, b1, _⟩ := numW_sgn hn (fun _ h => by cases h)
    obtain ⟨_, _, c, r', e2, e3⟩ := dec_facts u u (Nat.le_refl _)
    rw [← e] at e2
    cases e2
    have hu := e3 rfl
    subst hu
    rcases h with h | h
    · have := b1 h; omega
    · rw [Lib.decDigits_one (by decide)] at e
      exact h (List.cons.inj e).2
theorem whole_some {ng : Bool} {c : UInt8} {r : List UInt8} (hd : ∀ x ∈ c :: r, isD x = true) (hc : c ≠ 48) (hv : valD 0 (c :: r) ≤ (if ng then 9223372036854775808 else 9223372036854775807)) : numW (sgn ng (c :: r)) = some (if ng then -(valD 0 (c :: r) : Int) else (valD 0 (c :: r) : Int)) := by
  have h1 := of_decide_eq_true (hd c List.mem_cons_self)
  have h2 : c.toNat ≠ 48 := fun e => hc (UInt8.toNat_inj.1 (by show c.toNat = 48; exact e))
  have h3 : 1 ≤ valD 0 (c :: r) := by
    rw [valD_cons]
    exact Nat.le_trans (by omega) (valD_ge r _)
  have h4 := dec_of hd (.inl hc)
  have := numW_sgn_of (ng := ng) (u := valD 0 (c :: r)) (fun e => by rw [e] at hv; exact ⟨h3, hv⟩) (fun e => by rw [e] at hv; exact hv)
  rw [h4] at this
  exact this

set_option maxRecDepth 100000 in
set_option maxHeartbeats 2000000 in
theorem whole_neg (c : UInt8) (r : List UInt8) (w : World) (hr : r.length ≤ 1048576) (hc48 : c ≠ 48) :
    Calls Tryd.prog 47 #[.string (txt (45 :: c :: r))] w fun e w' => (∃ n, e = .returned (.tuple #[.int .i64 n, .bool (numW (sgn true (c :: r))).isSome]) ∧ ∀ v, numW (sgn true (c :: r)) = some v → n = v) ∧ w' = w := by
  have hSs : (txt (45 :: c :: r)).size = r.length + 1 + 1 := rfl
  have hDs : (txt (c :: r)).size = r.length + 1 := rfl
  have hneg := fun wx => str_head 45 (c :: r) wx
  have hsl : (txt (45 :: c :: r)).extract 1 (r.length + 1 + 1) = txt (c :: r) := by
    have e : (txt (45 :: c :: r)).size = r.length + 1 + 1 := rfl
    rw [← e, ← txt_same ((txt (45 :: c :: r)).extract 1 (txt (45 :: c :: r)).size), Lib.extract_to_end]; rfl
  have hx0 := fun wx => str_head c r wx
  have hgt : ∀ wx, (binOp .gtr 9 (.string (txt (c :: r))) (.string ⟨#[57, 50, 50, 51, 51, 55, 50, 48, 51, 54, 56, 53, 52, 55, 55, 53, 56, 48, 56]⟩)).run Tryd.prog wx = .ok (.bool (beyond true (c :: r))) wx := fun wx => gtr_most true (c :: r) wx
  have hc0 : ((c.toNat : Int) == 48) = false := by simp; intro h; exact hc48 (UInt8.toNat_inj.1 (by show c.toNat = 48; omega))
  have hlong : 19 < r.length + 1 → numW (sgn true (c :: r)) = none := fun h => long_none h (fun h => by cases h)
  have hfar : beyond true (c :: r) = true → r.length + 1 = 19 → numW (sgn true (c :: r)) = none := fun h e => beyond_none h e (fun h => by cases h)
  have hodd : ∀ x, x ∈ c :: r → isD x = false → numW (sgn true (c :: r)) = none := fun x hx hd => odd_none hx hd (fun h => by cases h)
  have hsome : (∀ x ∈ c :: r, isD x = true) → valD 0 (c :: r) ≤ 9223372036854775808 → numW (sgn true (c :: r)) = some (-(valD 0 (c :: r) : Int)) := fun hd hv => whole_some (ng := true) hd hc48 hv
  have hin : ∀ i (h : i < (c :: r).length), ∀ wx, (Instr.index 9 (.string (txt (c :: r))) (.int .i64 (i : Int))).run Tryd.prog wx = .ok (.int .u8 ((((c :: r)[i]'h).toNat : Nat) : Int)) wx := fun i h wx => str_index (txt (c :: r)) i (i : Int) rfl h wx
  have hnb := @not_beyond true (c :: r)
  have hdl : (c :: r).length = r.length + 1 := rfl
  clear hc48
  generalize numW (sgn true (c :: r)) = R at *
  generalize beyond true (c :: r) = Y at *
  generalize hDv : (c :: r) = d at *
  clear hDv
  have hn0 : ((r.length : Int) + 1 == 0) = false := by simp; omega
  by_cases h19 : 19 < r.length + 1
  · obtain rfl : R = none := hlong h19
    have h19z : (19 : Int) < (r.length : Int) + 1 := by omega
    clear hlong hfar hodd hsome hnb hin hdl
    go_enter Tryd.func47, Tryd.ntmps47
    go_wp2_with fail
    all_goals
      go_ret2
      first | exact ⟨⟨_, rfl, fun v h => by cases h⟩, rfl⟩ | exact ⟨⟨_, rfl⟩, rfl⟩
  have h19z : ¬ (19 : Int) < (r.length : Int) + 1 := by omega
  have hq : (r.length + 1 = 19 ∧ Y = true) ∨ (r.length + 1 = 19 ∧ Y = false) ∨ r.length + 1 < 19 := by
    rcases Nat.lt_or_ge (r.length + 1) 19 with h | h
    · exact .inr (.inr h)
    · have e : r.length + 1 = 19 := by omega
      cases Y with
      | true => exact .inl ⟨e, rfl⟩
      | false => exact .inr (.inl ⟨e, rfl⟩)
  rcases hq with ⟨e19, rfl⟩ | hq
  · obtain rfl : R = none := hfar rfl e19
    have e19z : ((r.length : Int) + 1 == 19) = true := by simp; omega
    clear hlong hfar hodd hsome hnb hin hdl e19
    go_enter Tryd.func47, Tryd.ntmps47
    go_wp2_with fail
    all_goals
      go_ret2
      first | exact ⟨⟨_, rfl, fun v h => by cases h⟩, rfl⟩ | exact ⟨⟨_, rfl⟩, rfl⟩
  have hfit : (∀ x ∈ d, isD x = true) → valD 0 d ≤ 9223372036854775808 := fun hd => by
    rcases hq with ⟨e, hy⟩ | hq
    · exact hnb hy (by omega) hd
    · have h1 := valD_lt d 0 hd
      have h2 : (10 : Nat) ^ d.length ≤ 10 ^ 18 := Nat.pow_le_pow_right (by decide) (by omega)
      omega
  have hfit2 : ∀ i, (∀ x ∈ d.take i, isD x = true) → i ≤ r.length + 1 → valD 0 (d.take i) ≤ 9223372036854775808 := fun i hd hi => by
    by_cases h : i = r.length + 1
    · rw [List.take_of_length_le (by omega)] at hd ⊢
      exact hfit hd
    · have h1 := valD_lt (d.take i) 0 hd
      have h2 : (10 : Nat) ^ (d.take i).length ≤ 10 ^ 18 := Nat.pow_le_pow_right (by decide) (by rw [List.length_take]; omega)
      omega
  have hsp : (Y = false ∧ ((r.length : Int) + 1 == 19) = true) ∨ ((r.length : Int) + 1 == 19) = false := by
    rcases hq with ⟨e, hy⟩ | hq
    · exact .inl ⟨hy, by simp; omega⟩
    · exact .inr (by simp; omega)
  have cIn := fun n wx => in_all n 48 57 wx
  have HO : Hid (∀ x, x ∈ d → isD x = false → R = none) := hodd
  have HSo : Hid ((∀ x ∈ d, isD x = true) → valD 0 d ≤ 9223372036854775808 → R = some (-(valD 0 d : Int))) := hsome
  have HF : Hid (∀ i, (∀ x ∈ d.take i, isD x = true) → i ≤ r.length + 1 → valD 0 (d.take i) ≤ 9223372036854775808) := hfit2
  have HI : Hid (∀ i (h : i < d.length), ∀ wx, (Instr.index 9 (.string (txt d)) (.int .i64 (i : Int))).run Tryd.prog wx = .ok (.int .u8 (((d[i]'h).toNat : Nat) : Int)) wx) := hin
  clear hlong hfar hodd hsome hnb hin hfit hfit2 hq
  rcases hsp with ⟨rfl, e19z⟩ | e19z
  all_goals
    go_enter Tryd.func47, Tryd.ntmps47
    go_wp2_with fail
    go_loopg [6, 7] (r.length + 1) (fun g nv iv wr => ∃ i : Nat, i + g = r.length + 1 ∧ iv = .int .i64 (i : Int) ∧ nv = .int .i64 (-(valD 0 (d.take i) : Int)) ∧ Hid (∀ x ∈ d.take i, isD x = true) ∧ w = wr)
    case atStart => exact ⟨0, by omega, rfl, rfl, (fun x hx => by simp at hx), rfl⟩
    case round =>
      obtain ⟨i, hi, rfl, rfl, HD, rfl⟩ := hrel
      clear hx0 hgt
      by_cases hlt : i < r.length + 1
      · have hil : i < d.length := by omega
        have hiz : (i : Int) < (r.length : Int) + 1 := by omega
        have hi0 : (0 : Int) ≤ (i : Int) := by omega
        have hx := HI.out i hil
        have htk : d.take (i + 1) = d.take i ++ [d[i]] := List.take_succ_eq_append_getElem hil
        have hmem : d[i] ∈ d := List.getElem_mem hil
        by_cases hdg : isD d[i] = true
        · have hb := of_decide_eq_true hdg
          have HD1 : Hid (∀ x ∈ d.take (i + 1), isD x = true) := fun x hx => by
            rw [htk] at hx
            rcases List.mem_append.1 hx with hx | hx
            · exact HD.out x hx
            · rw [List.mem_singleton.1 hx]; exact hdg
          have hv1 : valD 0 (d.take (i + 1)) = 10 * valD 0 (d.take i) + ((d[i]).toNat - 48) := by rw [htk, valD_append]; rfl
          have hle := HF.out (i + 1) HD1.out (by omega)
          rw [hv1] at hle
          have cI := cIn ((d[i]).toNat : Int) w
          have hdt : decide ((48 : Int) ≤ ((d[i]).toNat : Int) ∧ ((d[i]).toNat : Int) ≤ 57) = true := decide_eq_true ⟨by omega, by omega⟩
          rw [hdt] at cI
          have HV1 : Hid (valD 0 (d.take (i + 1)) = 10 * valD 0 (d.take i) + ((d[i]).toNat - 48)) := hv1
          clear htk hmem hdg hdt cIn HD hv1
          generalize valD 0 (d.take i) = u at *
          generalize hcc : (d[i]).toNat = k at *
          have h48 : 48 ≤ k := hb.1
          have h57 : k ≤ 57 := hb.2
          have HG : Hid (i + gk = r.length + 1) := hi
          clear hb hcc hi
          go_wp2_with fail
          refine cI.mono ?_
          clear cI
          rintro e wx ⟨rfl, hwx⟩
          rw [hwx]
          clear hwx wx
          go_wp2_with fail
          go_roundg (gk - 1)
          case measure => have := HG.out; omega
          case rel => exact ⟨i + 1, by have := HG.out; omega, by go_num, by rw [HV1.out]; congr 1; omega, HD1, rfl⟩
        · obtain rfl : R = none := HO.out d[i] hmem (by simpa using hdg)
          have cI := cIn ((d[i]).toNat : Int) w
          have hdt : decide ((48 : Int) ≤ ((d[i]).toNat : Int) ∧ ((d[i]).toNat : Int) ≤ 57) = false := decide_eq_false (fun h => hdg (decide_eq_true ⟨by omega, by omega⟩))
          rw [hdt] at cI
          have h256 := UInt8.toNat_lt (d[i])
          clear hdt hdg cIn HD HSo HO HF hmem htk hi HI
          generalize hcc : (d[i]).toNat = k at *
          clear hcc
          go_wp2_with fail
          refine cI.mono ?_
          clear cI
          rintro e wx ⟨rfl, hwx⟩
          rw [hwx]
          clear hwx wx
          go_wp2_with fail
          go_ret2
          first | exact ⟨⟨_, rfl, fun v h => by cases h⟩, rfl⟩ | exact ⟨⟨_, rfl⟩, rfl⟩
      · obtain rfl : i = r.length + 1 := by omega
        have hiz : ¬ (r.length : Int) + 1 < (r.length : Int) + 1 := by omega
        have hdd : d.take (r.length + 1) = d := List.take_of_length_le (by omega)
        have hle := HF.out (r.length + 1) HD.out (Nat.le_refl _)
        have hDD := HD.out
        rw [hdd] at hle hDD
        have hR : Hid (R = some (-(valD 0 d : Int))) := HSo.out hDD hle
        rw [hdd]
        clear HF HSo HO HI cIn HD hDD hdd
        generalize valD 0 d = u at *
        go_wp2_with fail
        go_ret2
        exact ⟨⟨_, by rw [hR.out]; rfl, fun v h => by rw [hR.out] at h; cases h; rfl⟩, rfl⟩

set_option maxRecDepth 100000 in
set_option maxHeartbeats 2000000 in
theorem whole_pos (c : UInt8) (r : List UInt8) (w : World) (hr : r.length ≤ 1048576) (hc48 : c ≠ 48) (hc45 : c ≠ 45) :
    Calls Tryd.prog 47 #[.string (txt (c :: r))] w fun e w' => (∃ n, e = .returned (.tuple #[.int .i64 n, .bool (numW (sgn false (c :: r))).isSome]) ∧ ∀ v, numW (sgn false (c :: r)) = some v → n = v) ∧ w' = w := by
  have hSs : (txt (c :: r)).size = r.length + 1 := rfl
  have hDs : (txt (c :: r)).size = r.length + 1 := rfl
  have hneg : ((c.toNat : Int) == 45) = false := by simp; intro h; exact hc45 (UInt8.toNat_inj.1 (by show c.toNat = 45; omega))
  have hx0 := fun wx => str_head c r wx
  have hgt : ∀ wx, (binOp .gtr 9 (.string (txt (c :: r))) (.string ⟨#[57, 50, 50, 51, 51, 55, 50, 48, 51, 54, 56, 53, 52, 55, 55, 53, 56, 48, 55]⟩)).run Tryd.prog wx = .ok (.bool (beyond false (c :: r))) wx := fun wx => gtr_most false (c :: r) wx
  have hc0 : ((c.toNat : Int) == 48) = false := by simp; intro h; exact hc48 (UInt8.toNat_inj.1 (by show c.toNat = 48; omega))
  have hlong : 19 < r.length + 1 → numW (sgn false (c :: r)) = none := fun h => long_none h (fun _ h => hc45 (by simpa using h))
  have hfar : beyond false (c :: r) = true → r.length + 1 = 19 → numW (sgn false (c :: r)) = none := fun h e => beyond_none h e (fun _ h => hc45 (by simpa using h))
  have hodd : ∀ x, x ∈ c :: r → isD x = false → numW (sgn false (c :: r)) = none := fun x hx hd => odd_none hx hd (fun _ h => hc45 (by simpa using h))
  have hsome : (∀ x ∈ c :: r, isD x = true) → valD 0 (c :: r) ≤ 9223372036854775807 → numW (sgn false (c :: r)) = some ((valD 0 (c :: r) : Int)) := fun hd hv => whole_some (ng := false) hd hc48 hv
  have hin : ∀ i (h : i < (c :: r).length), ∀ wx, (Instr.index 9 (.string (txt (c :: r))) (.int .i64 (i : Int))).run Tryd.prog wx = .ok (.int .u8 ((((c :: r)[i]'h).toNat : Nat) : Int)) wx := fun i h wx => str_index (txt (c :: r)) i (i : Int) rfl h wx
  have hnb := @not_beyond false (c :: r)
  have hdl : (c :: r).length = r.length + 1 := rfl
  clear hc48
  generalize numW (sgn false (c :: r)) = R at *
  generalize beyond false (c :: r) = Y at *
  generalize hDv : (c :: r) = d at *
  clear hDv
  have hn0 : ((r.length : Int) + 1 == 0) = false := by simp; omega
  by_cases h19 : 19 < r.length + 1
  · obtain rfl : R = none := hlong h19
    have h19z : (19 : Int) < (r.length : Int) + 1 := by omega
    clear hlong hfar hodd hsome hnb hin hdl
    go_enter Tryd.func47, Tryd.ntmps47
    go_wp2_with fail
    all_goals
      go_ret2
      first | exact ⟨⟨_, rfl, fun v h => by cases h⟩, rfl⟩ | exact ⟨⟨_, rfl⟩, rfl⟩
  have h19z : ¬ (19 : Int) < (r.length : Int) + 1 := by omega
  have hq : (r.length + 1 = 19 ∧ Y = true) ∨ (r.length + 1 = 19 ∧ Y = false) ∨ r.length + 1 < 19 := by
    rcases Nat.lt_or_ge (r.length + 1) 19 with h | h
    · exact .inr (.inr h)
    · have e : r.length + 1 = 19 := by omega
      cases Y with
      | true => exact .inl ⟨e, rfl⟩
      | false => exact .inr (.inl ⟨e, rfl⟩)
  rcases hq with ⟨e19, rfl⟩ | hq
  · obtain rfl : R = none := hfar rfl e19
    have e19z : ((r.length : Int) + 1 == 19) = true := by simp; omega
    clear hlong hfar hodd hsome hnb hin hdl e19
    go_enter Tryd.func47, Tryd.ntmps47
    go_wp2_with fail
    all_goals
      go_ret2
      first | exact ⟨⟨_, rfl, fun v h => by cases h⟩, rfl⟩ | exact ⟨⟨_, rfl⟩, rfl⟩
  have hfit : (∀ x ∈ d, isD x = true) → valD 0 d ≤ 9223372036854775807 := fun hd => by
    rcases hq with ⟨e, hy⟩ | hq
    · exact hnb hy (by omega) hd
    · have h1 := valD_lt d 0 hd
      have h2 : (10 : Nat) ^ d.length ≤ 10 ^ 18 := Nat.pow_le_pow_right (by decide) (by omega)
      omega
  have hfit2 : ∀ i, (∀ x ∈ d.take i, isD x = true) → i ≤ r.length + 1 → valD 0 (d.take i) ≤ 9223372036854775807 := fun i hd hi => by
    by_cases h : i = r.length + 1
    · rw [List.take_of_length_le (by omega)] at hd ⊢
      exact hfit hd
    · have h1 := valD_lt (d.take i) 0 hd
      have h2 : (10 : Nat) ^ (d.take i).length ≤ 10 ^ 18 := Nat.pow_le_pow_right (by decide) (by rw [List.length_take]; omega)
      omega
  have hsp : (Y = false ∧ ((r.length : Int) + 1 == 19) = true) ∨ ((r.length : Int) + 1 == 19) = false := by
    rcases hq with ⟨e, hy⟩ | hq
    · exact .inl ⟨hy, by simp; omega⟩
    · exact .inr (by simp; omega)
  have cIn := fun n wx => in_all n 48 57 wx
  have HO : Hid (∀ x, x ∈ d → isD x = false → R = none) := hodd
  have HSo : Hid ((∀ x ∈ d, isD x = true) → valD 0 d ≤ 9223372036854775807 → R = some ((valD 0 d : Int))) := hsome
  have HF : Hid (∀ i, (∀ x ∈ d.take i, isD x = true) → i ≤ r.length + 1 → valD 0 (d.take i) ≤ 9223372036854775807) := hfit2
  have HI : Hid (∀ i (h : i < d.length), ∀ wx, (Instr.index 9 (.string (txt d)) (.int .i64 (i : Int))).run Tryd.prog wx = .ok (.int .u8 (((d[i]'h).toNat : Nat) : Int)) wx) := hin
  clear hlong hfar hodd hsome hnb hin hfit hfit2 hq
  rcases hsp with ⟨rfl, e19z⟩ | e19z
  all_goals
    go_enter Tryd.func47, Tryd.ntmps47
    go_wp2_with fail
    go_loopg [6, 7] (r.length + 1) (fun g nv iv wr => ∃ i : Nat, i + g = r.length + 1 ∧ iv = .int .i64 (i : Int) ∧ nv = .int .i64 (-(valD 0 (d.take i) : Int)) ∧ Hid (∀ x ∈ d.take i, isD x = true) ∧ w = wr)
    case atStart => exact ⟨0, by omega, rfl, rfl, (fun x hx => by simp at hx), rfl⟩
    case round =>
      obtain ⟨i, hi, rfl, rfl, HD, rfl⟩ := hrel
      clear hx0 hgt
      by_cases hlt : i < r.length + 1
      · have hil : i < d.length := by omega
        have hiz : (i : Int) < (r.length : Int) + 1 := by omega
        have hi0 : (0 : Int) ≤ (i : Int) := by omega
        have hx := HI.out i hil
        have htk : d.take (i + 1) = d.take i ++ [d[i]] := List.take_succ_eq_append_getElem hil
        have hmem : d[i] ∈ d := List.getElem_mem hil
        by_cases hdg : isD d[i] = true
        · have hb := of_decide_eq_true hdg
          have HD1 : Hid (∀ x ∈ d.take (i + 1), isD x = true) := fun x hx => by
            rw [htk] at hx
            rcases List.mem_append.1 hx with hx | hx
            · exact HD.out x hx
            · rw [List.mem_singleton.1 hx]; exact hdg
          have hv1 : valD 0 (d.take (i + 1)) = 10 * valD 0 (d.take i) + ((d[i]).toNat - 48) := by rw [htk, valD_append]; rfl
          have hle := HF.out (i + 1) HD1.out (by omega)
          rw [hv1] at hle
          have cI := cIn ((d[i]).toNat : Int) w
          have hdt : decide ((48 : Int) ≤ ((d[i]).toNat : Int) ∧ ((d[i]).toNat : Int) ≤ 57) = true := decide_eq_true ⟨by omega, by omega⟩
          rw [hdt] at cI
          have HV1 : Hid (valD 0 (d.take (i + 1)) = 10 * valD 0 (d.take i) + ((d[i]).toNat - 48)) := hv1
          clear htk hmem hdg hdt cIn HD hv1
          generalize valD 0 (d.take i) = u at *
          generalize hcc : (d[i]).toNat = k at *
          have h48 : 48 ≤ k := hb.1
          have h57 : k ≤ 57 := hb.2
          have HG : Hid (i + gk = r.length + 1) := hi
          clear hb hcc hi
          go_wp2_with fail
          refine cI.mono ?_
          clear cI
          rintro e wx ⟨rfl, hwx⟩
          rw [hwx]
          clear hwx wx
          go_wp2_with fail
          go_roundg (gk - 1)
          case measure => have := HG.out; omega
          case rel => exact ⟨i + 1, by have := HG.out; omega, by go_num, by rw [HV1.out]; congr 1; omega, HD1, rfl⟩
        · obtain rfl : R = none := HO.out d[i] hmem (by simpa using hdg)
          have cI := cIn ((d[i]).toNat : Int) w
          have hdt : decide ((48 : Int) ≤ ((d[i]).toNat : Int) ∧ ((d[i]).toNat : Int) ≤ 57) = false := decide_eq_false (fun h => hdg (decide_eq_true ⟨by omega, by omega⟩))
          rw [hdt] at cI
          have h256 := UInt8.toNat_lt (d[i])
          clear hdt hdg cIn HD HSo HO HF hmem htk hi HI
          generalize hcc : (d[i]).toNat = k at *
          clear hcc
          go_wp2_with fail
          refine cI.mono ?_
          clear cI
          rintro e wx ⟨rfl, hwx⟩
          rw [hwx]
          clear hwx wx
          go_wp2_with fail
          go_ret2
          first | exact ⟨⟨_, rfl, fun v h => by cases h⟩, rfl⟩ | exact ⟨⟨_, rfl⟩, rfl⟩
      · obtain rfl : i = r.length + 1 := by omega
        have hiz : ¬ (r.length : Int) + 1 < (r.length : Int) + 1 := by omega
        have hdd : d.take (r.length + 1) = d := List.take_of_length_le (by omega)
        have hle := HF.out (r.length + 1) HD.out (Nat.le_refl _)
        have hDD := HD.out
        rw [hdd] at hle hDD
        have hR : Hid (R = some ((valD 0 d : Int))) := HSo.out hDD hle
        rw [hdd]
        clear HF HSo HO HI cIn HD hDD hdd
        generalize valD 0 d = u at *
        go_wp2_with fail
        go_ret2
        exact ⟨⟨_, by rw [hR.out]; rfl, fun v h => by rw [hR.out] at h; cases h; rfl⟩, rfl⟩

theorem str_zero (s : ByteArray) : s.toList = s.data.toList := Lib.toList_data s
set_option maxRecDepth 100000 in
set_option maxHeartbeats 2000000 in
theorem whole_empty (l : List UInt8) (hl : l = []) (w : World) :
    Calls Tryd.prog 47 #[.string (txt l)] w (fun e w' => (∃ n, e = .returned (.tuple #[.int .i64 n, .bool (numW l).isSome]) ∧ ∀ v, numW l = some v → n = v) ∧ w' = w) := by
  have hn : numW l = none := by rw [hl]; exact empty_none false
  rw [hn]
  have h0 : (txt l).size = 0 := by rw [hl]; rfl
  generalize txt l = S at *
  clear hn hl
  go_enter Tryd.func47, Tryd.ntmps47
  go_wp2_with fail
  all_goals
    go_ret2
    first | exact ⟨⟨_, rfl, fun v h => by cases h⟩, rfl⟩ | exact ⟨⟨_, rfl⟩, rfl⟩
set_option maxRecDepth 100000 in
set_option maxHeartbeats 2000000 in
theorem whole_dash (l : List UInt8) (hl : l = [45]) (w : World) :
    Calls Tryd.prog 47 #[.string (txt l)] w (fun e w' => (∃ n, e = .returned (.tuple #[.int .i64 n, .bool (numW l).isSome]) ∧ ∀ v, numW l = some v → n = v) ∧ w' = w) := by
  have hn : numW l = none := by rw [hl]; exact empty_none true
  rw [hn]
  have h0 : (txt l).size = 1 := by rw [hl]; rfl
  have hneg : ∀ wx, (Instr.index 9 (.string (txt l)) (.int .i64 0)).run Tryd.prog wx = .ok (.int .u8 45) wx := fun wx => by rw [hl]; exact str_head 45 [] wx
  have hsl : (txt l).extract 1 1 = ⟨#[]⟩ := by rw [hl]; rfl
  generalize txt l = S at *
  clear hn hl
  go_enter Tryd.func47, Tryd.ntmps47
  go_wp2_with fail
  all_goals
    go_ret2
    first | exact ⟨⟨_, rfl, fun v h => by cases h⟩, rfl⟩ | exact ⟨⟨_, rfl⟩, rfl⟩
set_option maxRecDepth 100000 in
set_option maxHeartbeats 2000000 in
theorem whole_dash0 (l : List UInt8) (r : List UInt8) (hl : l = 45 :: 48 :: r) (w : World) (hr : r.length ≤ 1048576) :
    Calls Tryd.prog 47 #[.string (txt l)] w (fun e w' => (∃ n, e = .returned (.tuple #[.int .i64 n, .bool (numW l).isSome]) ∧ ∀ v, numW l = some v → n = v) ∧ w' = w) := by
  have hn : numW l = none := by rw [hl]; exact nought_none (ng := true) (.inl rfl)
  rw [hn]
  have h0 : (txt l).size = r.length + 1 + 1 := by rw [hl]; rfl
  have h1 : (txt (48 :: r)).size = r.length + 1 := rfl
  have hneg : ∀ wx, (Instr.index 9 (.string (txt l)) (.int .i64 0)).run Tryd.prog wx = .ok (.int .u8 45) wx := fun wx => by rw [hl]; exact str_head 45 (48 :: r) wx
  have hx0 : ∀ wx, (Instr.index 9 (.string (txt (48 :: r))) (.int .i64 0)).run Tryd.prog wx = .ok (.int .u8 48) wx := fun wx => str_head 48 r wx
  have hsl : (txt l).extract 1 (r.length + 1 + 1) = txt (48 :: r) := by
    rw [hl]
    have e : (txt (45 :: 48 :: r)).size = r.length + 1 + 1 := rfl
    rw [← e, ← txt_same ((txt (45 :: 48 :: r)).extract 1 (txt (45 :: 48 :: r)).size), Lib.extract_to_end]; rfl
  have hq : ¬ (txt l).toList = [48] := by rw [str_zero, txt_list, hl]; simp
  have hn0 : ((r.length : Int) + 1 == 0) = false := by simp; omega
  generalize txt l = S at *
  generalize txt (48 :: r) = D at *
  clear hn hl
  go_enter Tryd.func47, Tryd.ntmps47
  go_wp2_with fail
  all_goals
    go_ret2
    first | exact ⟨⟨_, rfl, fun v h => by cases h⟩, rfl⟩ | exact ⟨⟨_, rfl⟩, rfl⟩
set_option maxRecDepth 100000 in
set_option maxHeartbeats 2000000 in
theorem whole_lead0 (l : List UInt8) (c : UInt8) (r : List UInt8) (hl : l = 48 :: c :: r) (w : World) (hr : r.length ≤ 1048576) :
    Calls Tryd.prog 47 #[.string (txt l)] w (fun e w' => (∃ n, e = .returned (.tuple #[.int .i64 n, .bool (numW l).isSome]) ∧ ∀ v, numW l = some v → n = v) ∧ w' = w) := by
  have hn : numW l = none := by rw [hl]; exact nought_none (ng := false) (.inr (List.cons_ne_nil _ _))
  rw [hn]
  have h0 : (txt l).size = r.length + 1 + 1 := by rw [hl]; rfl
  have hx0 : ∀ wx, (Instr.index 9 (.string (txt l)) (.int .i64 0)).run Tryd.prog wx = .ok (.int .u8 48) wx := fun wx => by rw [hl]; exact str_head 48 (c :: r) wx
  have hq : ¬ (txt l).toList = [48] := by rw [str_zero, txt_list, hl]; simp
  have hn0 : ((r.length : Int) + 1 + 1 == 0) = false := by simp; omega
  generalize txt l = S at *
  clear hn hl
  go_enter Tryd.func47, Tryd.ntmps47
  go_wp2_with fail
  all_goals
    go_ret2
    first | exact ⟨⟨_, rfl, fun v h => by cases h⟩, rfl⟩ | exact ⟨⟨_, rfl⟩, rfl⟩
set_option maxRecDepth 100000 in
set_option maxHeartbeats 2000000 in
theorem whole_zero (l : List UInt8) (hl : l = [48]) (w : World) :
    Calls Tryd.prog 47 #[.string (txt l)] w (fun e w' => (∃ n, e = .returned (.tuple #[.int .i64 n, .bool (numW l).isSome]) ∧ ∀ v, numW l = some v → n = v) ∧ w' = w) := by
  have hn : numW l = some 0 := by
    have h := numW_sgn_of (ng := false) (u := 0) (by simp) (by simp)
    rw [Lib.decDigits_one (by decide)] at h
    rw [hl]; exact h
  rw [hn]
  have h0 : (txt l).size = 1 := by rw [hl]; rfl
  have hx0 : ∀ wx, (Instr.index 9 (.string (txt l)) (.int .i64 0)).run Tryd.prog wx = .ok (.int .u8 48) wx := fun wx => by rw [hl]; exact str_head 48 [] wx
  have hq : (txt l).toList = [48] := by rw [str_zero, txt_list, hl]
  generalize txt l = S at *
  have cIn := fun n wx => in_all n 48 57 wx
  clear hn hl
  go_enter Tryd.func47, Tryd.ntmps47
  go_wp2_with fail
  go_loopg [6, 7] 1 (fun g nv iv wr => nv = .int .i64 0 ∧ w = wr ∧ ((g = 1 ∧ iv = .int .i64 0) ∨ (g = 0 ∧ iv = .int .i64 1)))
  case atStart => exact ⟨rfl, rfl, .inl ⟨rfl, rfl⟩⟩
  case round =>
    obtain ⟨rfl, rfl, ⟨hg, rfl⟩ | ⟨hg, rfl⟩⟩ := hrel
    · have HG : Hid (gk = 1) := hg
      have cI := cIn 48 w
      rw [show decide ((48 : Int) ≤ 48 ∧ (48 : Int) ≤ 57) = true by decide] at cI
      clear hg cIn
      go_wp2_with fail
      refine cI.mono ?_
      clear cI
      rintro e wx ⟨rfl, hwx⟩
      rw [hwx]
      clear hwx wx
      go_wp2_with fail
      go_roundg 0
      case measure => have := HG.out; omega
      case rel => exact ⟨rfl, rfl, .inr ⟨rfl, rfl⟩⟩
    · clear hg cIn
      go_wp2_with fail
      go_ret2
      exact ⟨⟨_, rfl, fun v h => by cases h; rfl⟩, rfl⟩
/-- wherryref.whole of any text -/
theorem whole_any (l : List UInt8) (w : World) (hr : l.length ≤ 1048576) :
    Calls Tryd.prog 47 #[.string (txt l)] w (fun e w' => (∃ n, e = .returned (.tuple #[.int .i64 n, .bool (numW l).isSome]) ∧ ∀ v, numW l = some v → n = v) ∧ w' = w) := by
  match l, hr with
  | [], _ => exact whole_empty [] rfl w
  | c :: r, hr =>
    by_cases h45 : c = 45
    · subst h45
      match r, hr with
      | [], _ => exact whole_dash _ rfl w
      | c :: r, hr =>
        by_cases h48 : c = 48
        · subst h48
          exact whole_dash0 _ r rfl w (by simp only [List.length_cons] at hr; omega)
        · exact whole_neg c r w (by simp only [List.length_cons] at hr; omega) h48
    · by_cases h48 : c = 48
      · subst h48
        match r, hr with
        | [], _ => exact whole_zero _ rfl w
        | c :: r, hr => exact whole_lead0 _ c r rfl w (by simp only [List.length_cons] at hr; omega)
      · exact whole_pos c r w (by simp only [List.length_cons] at hr; omega) h48 h45

end Go.Proofs.YtelindfmdakliaaDoor
