/-
  PLAIN LEAN: valid texts are the lists of valid code points.
-/
import Derived.Test.YtepehgjdepioeaaDoorPure
import Derived.Lib.ValidU
import Derived.Lib.MapLaws
import Derived.Lib.TrimUEq
import Derived.Laws.Cover4
namespace Go.Proofs.YtepehgjdepioeaaDoor
open Go.RowKit Go.Lib

/-- a valid code point -/
def CP (r : Nat) : Prop := r < 55296 ∨ (57344 ≤ r ∧ r ≤ 1114111)
/-- the bytes of a rune -/
def enc (r : Nat) : List UInt8 := (Utf8.encode (r : Int)).data.toList
/-- the bytes of runes -/
def encs (rs : List Nat) : List UInt8 := rs.flatMap enc
/-- the text of runes -/
def str (rs : List Nat) : ByteArray := ⟨(encs rs).toArray⟩

theorem valid_of_cp {r : Nat} (h : CP r) : Utf8.valid (r : Int) = true := by
  unfold CP at h
  simp [Utf8.valid]
  omega

theorem toNat_valid {r : Nat} (h : CP r) : (if Utf8.valid (r : Int) then (r : Int).toNat else Utf8.runeError) = r := by rw [if_pos (valid_of_cp h), Int.toNat_natCast]
theorem data_ite {c : Prop} [Decidable c] (a b : ByteArray) : (if c then a else b).data.toList = if c then a.data.toList else b.data.toList := by split <;> rfl
set_option maxRecDepth 100000 in
/-- the four forms -/
theorem enc_form {r : Nat} (h : CP r) : enc r = if r < 128 then [UInt8.ofNat r] else if r < 2048 then [UInt8.ofNat (192 + r / 64), UInt8.ofNat (128 + r % 64)]
    else if r < 65536 then [UInt8.ofNat (224 + r / 4096), UInt8.ofNat (128 + r / 64 % 64), UInt8.ofNat (128 + r % 64)]
    else [UInt8.ofNat (240 + r / 262144), UInt8.ofNat (128 + r / 4096 % 64), UInt8.ofNat (128 + r / 64 % 64), UInt8.ofNat (128 + r % 64)] := by
  unfold enc Utf8.encode
  simp only [toNat_valid h, data_ite]
theorem enc_cases {r : Nat} (h : CP r) :
    (r < 128 ∧ enc r = [UInt8.ofNat r]) ∨ (128 ≤ r ∧ r < 2048 ∧ enc r = [UInt8.ofNat (192 + r / 64), UInt8.ofNat (128 + r % 64)]) ∨
    (2048 ≤ r ∧ r < 65536 ∧ enc r = [UInt8.ofNat (224 + r / 4096), UInt8.ofNat (128 + r / 64 % 64), UInt8.ofNat (128 + r % 64)]) ∨
    (65536 ≤ r ∧ r ≤ 1114111 ∧ enc r = [UInt8.ofNat (240 + r / 262144), UInt8.ofNat (128 + r / 4096 % 64), UInt8.ofNat (128 + r / 64 % 64), UInt8.ofNat (128 + r % 64)]) := by
  have hf := enc_form h
  generalize enc r = E at *
  by_cases h1 : r < 128
  · rw [if_pos h1] at hf
    exact .inl ⟨h1, hf⟩
  · rw [if_neg h1] at hf
    by_cases h2 : r < 2048
    · rw [if_pos h2] at hf
      exact .inr (.inl ⟨by omega, h2, hf⟩)
    · rw [if_neg h2] at hf
      by_cases h3 : r < 65536
      · rw [if_pos h3] at hf
        exact .inr (.inr (.inl ⟨by omega, h3, hf⟩))
      · rw [if_neg h3] at hf
        exact .inr (.inr (.inr ⟨by omega, by unfold CP at h; omega, hf⟩))

theorem byte_nat {n : Nat} (h : n < 256) : (UInt8.ofNat n).toNat = n := by
  simp only [UInt8.toNat_ofNat']
  omega

theorem enc_pos {r : Nat} (h : CP r) : 1 ≤ (enc r).length := by
  rcases enc_cases h with ⟨_, e⟩ | ⟨_, _, e⟩ | ⟨_, _, e⟩ | ⟨_, _, e⟩ <;> rw [e] <;> simp
theorem enc_le4 {r : Nat} (h : CP r) : (enc r).length ≤ 4 := by
  rcases enc_cases h with ⟨_, e⟩ | ⟨_, _, e⟩ | ⟨_, _, e⟩ | ⟨_, _, e⟩ <;> rw [e] <;> simp

/-- what was encoded is decoded -/
theorem decode_enc {r : Nat} (h : CP r) (t : List UInt8) : decodeL (enc r ++ t) = (r, (enc r).length) := by
  rw [decodeL_N]
  rcases enc_cases h with ⟨h1, e⟩ | ⟨h1, h2, e⟩ | ⟨h1, h2, e⟩ | ⟨h1, h2, e⟩
  · rw [e]
    simp only [List.cons_append, List.nil_append, List.getD_cons_zero, List.length_cons, List.length_nil]
    rw [byte_nat (by omega)]
    unfold decodeN
    rw [if_pos h1]
  · rw [e]
    simp only [List.cons_append, List.nil_append, List.getD_cons_zero, List.getD_cons_succ, List.length_cons, List.length_nil]
    rw [byte_nat (by omega), byte_nat (by omega)]
    unfold decodeN
    rw [if_neg (by omega), if_pos (by omega), if_pos (by omega)]
    simp only [Prod.mk.injEq, and_true]
    omega
  · rw [e]
    simp only [List.cons_append, List.nil_append, List.getD_cons_zero, List.getD_cons_succ, List.length_cons, List.length_nil]
    rw [byte_nat (by omega), byte_nat (by omega), byte_nat (by omega)]
    unfold decodeN CP at *
    rw [if_neg (by omega), if_neg (by omega), if_pos (by omega), if_pos (by omega)]
    simp only [Prod.mk.injEq, and_true]
    omega
  · rw [e]
    simp only [List.cons_append, List.nil_append, List.getD_cons_zero, List.getD_cons_succ, List.length_cons, List.length_nil]
    rw [byte_nat (by omega), byte_nat (by omega), byte_nat (by omega), byte_nat (by omega)]
    unfold decodeN CP at *
    rw [if_neg (by omega), if_neg (by omega), if_neg (by omega), if_pos (by omega), if_pos (by omega)]
    simp only [Prod.mk.injEq, and_true]
    omega

/-- what is decoded of valid bytes is a code point, and its bytes are those -/
theorem enc_decode (l : List UInt8) (hne : l ≠ []) (hv : ¬ ((decodeL l).1 = 65533 ∧ (decodeL l).2 = 1)) :
    CP (decodeL l).1 ∧ enc (decodeL l).1 = l.take (decodeL l).2 := by
  have hl : 0 < l.length := List.length_pos_iff.2 hne
  rw [decodeL_N] at hv ⊢
  have k0 := (l.getD 0 0).toNat_lt
  have k1 := (l.getD 1 0).toNat_lt
  have k2 := (l.getD 2 0).toNat_lt
  have k3 := (l.getD 3 0).toNat_lt
  have ofn : ∀ x : UInt8, UInt8.ofNat x.toNat = x := fun x => by simp
  rcases decodeN_shape l.length (l.getD 0 0).toNat (l.getD 1 0).toNat (l.getD 2 0).toNat (l.getD 3 0).toNat with ⟨c, e⟩ | ⟨c1, c2, c3, cv, e⟩ | ⟨c1, c2, c3, c4, cv, cs, e⟩ | ⟨c1, c2, c3, c4, c5, cv, cw, e⟩ | e
  · rw [e] at hv ⊢
    dsimp only
    have hc : CP (l.getD 0 0).toNat := by unfold CP; omega
    refine ⟨hc, ?_⟩
    rcases enc_cases hc with ⟨h1, e⟩ | ⟨h1, h2, e⟩ | ⟨h1, h2, e⟩ | ⟨h1, h2, e⟩
    · rw [e, takeA l hl, ofn]
    all_goals omega
  · rw [e] at hv ⊢
    dsimp only
    generalize h0 : (l.getD 0 0).toNat = x0 at *
    generalize h1' : (l.getD 1 0).toNat = x1 at *
    have hc : CP (x0 % 32 * 64 + x1 % 64) := by unfold CP; omega
    refine ⟨hc, ?_⟩
    rcases enc_cases hc with ⟨h1, e⟩ | ⟨h1, h2, e⟩ | ⟨h1, h2, e⟩ | ⟨h1, h2, e⟩
    · omega
    · rw [e, takeB l (by omega), show 192 + (x0 % 32 * 64 + x1 % 64) / 64 = x0 by omega, show 128 + (x0 % 32 * 64 + x1 % 64) % 64 = x1 by omega, ← h0, ← h1', ofn, ofn]
    all_goals omega
  · rw [e] at hv ⊢
    dsimp only
    generalize h0 : (l.getD 0 0).toNat = x0 at *
    generalize h1' : (l.getD 1 0).toNat = x1 at *
    generalize h2' : (l.getD 2 0).toNat = x2 at *
    have hc : CP (x0 % 16 * 4096 + x1 % 64 * 64 + x2 % 64) := by unfold CP; omega
    refine ⟨hc, ?_⟩
    rcases enc_cases hc with ⟨h1, e⟩ | ⟨h1, h2, e⟩ | ⟨h1, h2, e⟩ | ⟨h1, h2, e⟩
    · omega
    · omega
    · rw [e, takeC l (by omega), show 224 + (x0 % 16 * 4096 + x1 % 64 * 64 + x2 % 64) / 4096 = x0 by omega, show 128 + (x0 % 16 * 4096 + x1 % 64 * 64 + x2 % 64) / 64 % 64 = x1 by omega, show 128 + (x0 % 16 * 4096 + x1 % 64 * 64 + x2 % 64) % 64 = x2 by omega, ← h0, ← h1', ← h2', ofn, ofn, ofn]
    · omega
  · rw [e] at hv ⊢
    dsimp only
    generalize h0 : (l.getD 0 0).toNat = x0 at *
    generalize h1' : (l.getD 1 0).toNat = x1 at *
    generalize h2' : (l.getD 2 0).toNat = x2 at *
    generalize h3' : (l.getD 3 0).toNat = x3 at *
    have hc : CP (x0 % 8 * 262144 + x1 % 64 * 4096 + x2 % 64 * 64 + x3 % 64) := by unfold CP; omega
    refine ⟨hc, ?_⟩
    rcases enc_cases hc with ⟨h1, e⟩ | ⟨h1, h2, e⟩ | ⟨h1, h2, e⟩ | ⟨h1, h2, e⟩
    · omega
    · omega
    · omega
    · rw [e, takeD l (by omega), show 240 + (x0 % 8 * 262144 + x1 % 64 * 4096 + x2 % 64 * 64 + x3 % 64) / 262144 = x0 by omega, show 128 + (x0 % 8 * 262144 + x1 % 64 * 4096 + x2 % 64 * 64 + x3 % 64) / 4096 % 64 = x1 by omega,
        show 128 + (x0 % 8 * 262144 + x1 % 64 * 4096 + x2 % 64 * 64 + x3 % 64) / 64 % 64 = x2 by omega, show 128 + (x0 % 8 * 262144 + x1 % 64 * 4096 + x2 % 64 * 64 + x3 % 64) % 64 = x3 by omega, ← h0, ← h1', ← h2', ← h3', ofn, ofn, ofn, ofn]
  · rw [e] at hv
    exact absurd ⟨rfl, rfl⟩ hv

/-- The runes of bytes, by at most so many. -/
def runesL : Nat → List UInt8 → List Nat
  | 0, _ => []
  | f + 1, l => if l = [] then [] else (decodeL l).1 :: runesL f (l.drop (decodeL l).2)

theorem runesAt_L (s : ByteArray) : ∀ f pos, runesAt s f pos = runesL f (s.data.toList.drop pos)
  | 0, _ => rfl
  | f + 1, pos => by
    unfold runesAt runesL
    rw [← decodeL_drop]
    by_cases h : pos < s.size
    · have hne : s.data.toList.drop pos ≠ [] := by
        intro h0
        have := congrArg List.length h0
        simp at this
        have e : s.data.size = s.size := rfl
        omega
      rw [if_pos h, if_neg hne, runesAt_L s f, List.drop_drop]
    · have h0 : s.data.toList.drop pos = [] := by
        apply List.drop_of_length_le
        simp
        have e : s.data.size = s.size := rfl
        omega
      rw [if_neg h, if_pos h0]

theorem bytes_len (s : ByteArray) : s.data.toList.length = s.size := by rw [Array.length_toList]; rfl

theorem runes_L (s : ByteArray) : runes s = runesL s.data.toList.length s.data.toList := by
  rw [runes, runesAt_L, List.drop_zero, bytes_len]

theorem encs_cons (r : Nat) (rs : List Nat) : encs (r :: rs) = enc r ++ encs rs := List.flatMap_cons
theorem runesL_nil (f : Nat) : runesL f [] = [] := by
  cases f with
  | zero => rfl
  | succ f => exact if_pos rfl
theorem validGo_nil (f : Nat) : validGoD f [] = true := by
  cases f with
  | zero => rfl
  | succ f => exact if_pos rfl
theorem enc_ne {r : Nat} (h : CP r) (t : List UInt8) : enc r ++ t ≠ [] := by
  intro h0
  have h1 := congrArg List.length h0
  have h2 := enc_pos h
  rw [List.length_append, List.length_nil] at h1
  omega

theorem runesL_encs (rs : List Nat) : ∀ (f : Nat), (∀ r ∈ rs, CP r) → (encs rs).length ≤ f → runesL f (encs rs) = rs := by
  induction rs with
  | nil => intro f _ _; exact runesL_nil f
  | cons r rs ih =>
    intro f h hf
    have hr : CP r := h r List.mem_cons_self
    have hp := enc_pos hr
    rw [encs_cons, List.length_append] at hf
    rw [encs_cons]
    cases f with
    | zero => omega
    | succ f =>
      unfold runesL
      rw [if_neg (enc_ne hr _), decode_enc hr]
      simp only
      rw [List.drop_left, ih f (fun x hx => h x (List.mem_cons_of_mem _ hx)) (by omega)]

theorem enc_bad {r : Nat} (hr : CP r) : ¬ (r = 65533 ∧ (enc r).length = 1) := by
  rintro ⟨h0, h1⟩
  rcases enc_cases hr with ⟨h2, _⟩ | ⟨_, _, e⟩ | ⟨_, _, e⟩ | ⟨_, _, e⟩
  · omega
  all_goals (rw [e] at h1; simp at h1)

theorem validGo_encs (rs : List Nat) : ∀ (f : Nat), (∀ r ∈ rs, CP r) → (encs rs).length ≤ f → validGoD f (encs rs) = true := by
  induction rs with
  | nil => intro f _ _; exact validGo_nil f
  | cons r rs ih =>
    intro f h hf
    have hr : CP r := h r List.mem_cons_self
    have hp := enc_pos hr
    rw [encs_cons, List.length_append] at hf
    rw [encs_cons]
    cases f with
    | zero => rfl
    | succ f =>
      unfold validGoD
      rw [if_neg (enc_ne hr _), decode_enc hr]
      simp only
      rw [if_neg (enc_bad hr), List.drop_left, ih f (fun x hx => h x (List.mem_cons_of_mem _ hx)) (by omega)]

theorem validGo_runes : ∀ (f : Nat) (l : List UInt8), l.length ≤ f → validGoD f l = true → encs (runesL f l) = l ∧ ∀ r ∈ runesL f l, CP r
  | 0, l, h, _ => by
    have : l = [] := List.length_eq_zero_iff.1 (by omega)
    subst this
    simp [runesL, encs]
  | f + 1, l, h, hv => by
    unfold validGoD at hv
    unfold runesL
    by_cases h0 : l = []
    · subst h0; simp [encs]
    · rw [if_neg h0] at hv ⊢
      by_cases hbad : (decodeL l).1 = 65533 ∧ (decodeL l).2 = 1
      · rw [if_pos hbad] at hv; cases hv
      · rw [if_neg hbad] at hv
        obtain ⟨hc, he⟩ := enc_decode l h0 hbad
        have hw := decodeL_width l
        have hl : 0 < l.length := List.length_pos_iff.2 h0
        obtain ⟨h1, h2⟩ := validGo_runes f (l.drop (decodeL l).2) (by simp; omega) hv
        refine ⟨?_, ?_⟩
        · have e : encs ((decodeL l).1 :: runesL f (l.drop (decodeL l).2)) = enc (decodeL l).1 ++ encs (runesL f (l.drop (decodeL l).2)) := by simp [encs]
          rw [e, h1, he, List.take_append_drop]
        · intro r hr
          rcases List.mem_cons.1 hr with rfl | hr
          · exact hc
          · exact h2 r hr

/-- A text may be: it is valid UTF-8. -/
def Valid (s : ByteArray) : Prop := Lib.validD s.data.toList = true

theorem str_bytes (rs : List Nat) : (str rs).data.toList = encs rs := by simp [str]
theorem valid_str {rs : List Nat} (h : ∀ r ∈ rs, CP r) : Valid (str rs) := by
  unfold Valid Lib.validD
  rw [str_bytes]
  exact validGo_encs rs _ h (Nat.le_refl _)
theorem runes_str {rs : List Nat} (h : ∀ r ∈ rs, CP r) : runes (str rs) = rs := by
  rw [runes_L, str_bytes]
  exact runesL_encs rs _ h (Nat.le_refl _)
theorem Valid.cp {s : ByteArray} (h : Valid s) : ∀ r ∈ runes s, CP r := by
  rw [runes_L]
  exact (validGo_runes _ _ (Nat.le_refl _) h).2
theorem Valid.str {s : ByteArray} (h : Valid s) : str (runes s) = s := by
  have := (validGo_runes _ _ (Nat.le_refl _) h).1
  rw [← runes_L] at this
  unfold YtepehgjdepioeaaDoor.str
  rw [this]
theorem runes_inj {s t : ByteArray} (hs : Valid s) (ht : Valid t) (h : runes s = runes t) : s = t := by rw [← hs.str, ← ht.str, h]

theorem encs_append (a b : List Nat) : encs (a ++ b) = encs a ++ encs b := by simp [encs]
theorem str_append (a b : List Nat) : str (a ++ b) = str a ++ str b := by
  apply ByteArray.ext
  rw [ByteArray.data_append]
  apply Array.ext'
  simp [str, encs_append]
theorem str_nil : str [] = ByteArray.empty := rfl

set_option maxRecDepth 100000 in
theorem str_one (r : Nat) : str [r] = Utf8.encode (r : Int) := by
  apply ByteArray.ext
  show (encs [r]).toArray = _
  have e : encs [r] = (Utf8.encode (r : Int)).data.toList := by rw [encs_cons]; show enc r ++ [] = _; rw [List.append_nil]; rfl
  rw [e]
/-- the machine's own conversion -/
theorem runesBytes_aux (rs : List Nat) : ∀ (s : ByteArray), (rs.map fun r : Nat => (r : Int)).foldl (fun r n => r ++ Utf8.encode n) s = s ++ str rs := by
  induction rs with
  | nil => intro s; simp [str_nil]
  | cons r rs ih =>
    intro s
    simp only [List.map_cons, List.foldl_cons]
    rw [ih, show r :: rs = [r] ++ rs from rfl, str_append, str_one, ByteArray.append_assoc]
theorem runesBytes_str (rs : List Nat) : runesBytes (rs.map fun r : Nat => (r : Int)) = str rs := by
  rw [runesBytes, runesBytes_aux]
  simp

end Go.Proofs.YtepehgjdepioeaaDoor
