/-
  PLAIN LEAN, of no program: the runes of a text, the parts of an operation, their lengths.
-/
import Derived.Laws.IdiomStrings
import Derived.Laws.RangeAny
import Derived.Below
import Derived.WalkKit
import Derived.Lib.ValidU
import Derived.Lib.MapLaws
import Derived.Lib.TrimUEq
import Derived.Laws.Cover4

/- PLAIN LEAN, of no program: the runes of a text, the parts of an operation, their lengths. -/
namespace Go.Proofs.YtodnocplljkjnaaDoor
open Go.RowKit

theorem decode_pos (s : ByteArray) (pos : Nat) (h : pos < s.size) : 1 ≤ (Utf8.decode s pos).2 := by
  by_cases ha : (s[pos]'h).toNat < 128
  · rw [decode_ascii s pos h ha]
    exact Nat.le_refl _
  · exact (decode_high s pos h (by omega)).2

/-- The runes of a text from a place on, by at most so many. -/
def runesAt (s : ByteArray) : Nat → Nat → List Nat
  | 0, _ => []
  | f + 1, pos => if pos < s.size then (Utf8.decode s pos).1 :: runesAt s f (pos + (Utf8.decode s pos).2) else []
/-- The runes of a text, valid UTF-8 or not. -/
def runes (s : ByteArray) : List Nat := runesAt s s.size 0

theorem runesAt_end (s : ByteArray) (f pos : Nat) (h : ¬ pos < s.size) : runesAt s f pos = [] := by
  cases f <;> simp [runesAt, h]

theorem runesAt_le (s : ByteArray) : ∀ f pos, (runesAt s f pos).length ≤ f
  | 0, _ => by simp [runesAt]
  | f + 1, pos => by
    have ih := runesAt_le s f (pos + (Utf8.decode s pos).2)
    unfold runesAt
    split
    · simp only [List.length_cons]; omega
    · simp

theorem runes_le (s : ByteArray) : (runes s).length ≤ s.size := runesAt_le s _ _

/-- A step: enough fuel. -/
theorem runesAt_step (s : ByteArray) (f pos : Nat) (h : pos < s.size) (hf : s.size ≤ pos + f) :
    ∃ f', f = f' + 1 ∧ runesAt s f pos = (Utf8.decode s pos).1 :: runesAt s f' (pos + (Utf8.decode s pos).2) := by
  cases f with
  | zero => omega
  | succ f => exact ⟨f, rfl, by simp [runesAt, h]⟩

theorem runesFrom_eq (s : ByteArray) : ∀ f pos (acc : Array Value), (Conv.runesFrom s f pos acc).toList = acc.toList ++ (runesAt s f pos).map fun r => Value.int .i32 (Int.ofNat r)
  | 0, _, acc => by simp [Conv.runesFrom, runesAt]
  | f + 1, pos, acc => by
    unfold Conv.runesFrom runesAt
    split
    · rw [runesFrom_eq s f]
      simp
    · simp

theorem runesFrom_size (s : ByteArray) : (Conv.runesFrom s s.size 0 #[]).size = (runes s).length := by
  have h := congrArg List.length (runesFrom_eq s s.size 0 #[])
  simpa [runes] using h

/-- A part of an operation. -/
structure Part where
  kind : Int
  n : Int
  text : ByteArray

/-- What is known of the numbers of a part that came in: they are the machine's; the text is no longer than so. -/
def PartOk (m : Nat) (p : Part) : Prop := (-9223372036854775808 ≤ p.kind ∧ p.kind ≤ 9223372036854775807) ∧ (-9223372036854775808 ≤ p.n ∧ p.n ≤ 9223372036854775807) ∧ p.text.size ≤ m

theorem PartOk.mono {m m' : Nat} {p : Part} (h : PartOk m p) (hm : m ≤ m') : PartOk m' p := ⟨h.1, h.2.1, Nat.le_trans h.2.2 hm⟩

/-- One part more: the two lengths, as the machine adds. -/
def stepLen (acc : Int × Int) (p : Part) : Int × Int :=
  if p.kind = 1 then (wrap64 (acc.1 + p.n), wrap64 (acc.2 + p.n))
  else if p.kind = 3 then (wrap64 (acc.1 + p.n), acc.2)
  else if p.kind = 2 then (acc.1, wrap64 (acc.2 + (runes p.text).length))
  else acc
def lens (ps : List Part) : Int × Int := ps.foldl stepLen (0, 0)

theorem lens_take (ps : List Part) (k : Nat) (h : k < ps.length) : lens (ps.take (k + 1)) = stepLen (lens (ps.take k)) ps[k] := by
  unfold lens
  rw [List.take_succ_eq_append_getElem h, List.foldl_append]
  rfl

/-- A slice of parts in memory: its cells, three a part. -/
def OpAt (w : World) (a : Option Addr) (ps : List Part) : Prop :=
  ps = [] ∨ ∃ b off, a = some ⟨b, off, none⟩ ∧ b < w.heap.size ∧ ∀ i (h : i < ps.length),
    w.cell? ⟨b, off + i * 3, none⟩ = some (.int .i64 ps[i].kind) ∧ w.cell? ⟨b, off + i * 3 + 1, none⟩ = some (.int .i64 ps[i].n) ∧ w.cell? ⟨b, off + i * 3 + 2, none⟩ = some (.string ps[i].text)

end Go.Proofs.YtodnocplljkjnaaDoor

/- PLAIN LEAN: what may be: texts, parts, operations. -/
namespace Go.Proofs.YtodnocplljkjnaaDoor
open Go.RowKit

/-- P1.1 -/
def textErr (s : ByteArray) : Int := if Lib.validD s.data.toList = false then 4 else if 4000 < (runes s).length then 1 else 0
/-- P1.2: of a Keep and a Delete -/
def countErr (p : Part) : Int := if p.n < 1 ∨ 4000 < p.n then 2 else if p.text.size ≠ 0 then 4 else 0
/-- P1.2: of an Insert -/
def insertErr (p : Part) : Int := if textErr p.text ≠ 0 then textErr p.text else if p.text.size = 0 ∨ p.n ≠ 0 then 4 else 0
def bodyErr (p : Part) : Int := if p.kind = 1 ∨ p.kind = 3 then countErr p else if p.kind = 2 then insertErr p else 3
def partErr (ahead : Int) (p : Part) : Int := if bodyErr p ≠ 0 then bodyErr p else if ahead = p.kind ∨ (ahead = 3 ∧ p.kind = 2) then 4 else 0
def partsErr : Int → List Part → Int
  | _, [] => 0
  | ahead, p :: r => if partErr ahead p ≠ 0 then partErr ahead p else partsErr p.kind r
/-- P1.2 -/
def opErr (ps : List Part) : Int := if 8001 < ps.length then 1 else if partsErr 0 ps ≠ 0 then partsErr 0 ps else if 4000 < (lens ps).1 ∨ 4000 < (lens ps).2 then 1 else 0

theorem bodyErr_kind {p : Part} (h : bodyErr p = 0) : p.kind = 1 ∨ p.kind = 2 ∨ p.kind = 3 := by
  unfold bodyErr at h
  split at h
  · omega
  · split at h <;> omega

end Go.Proofs.YtodnocplljkjnaaDoor

/- PLAIN LEAN: valid texts are the lists of valid code points. -/
namespace Go.Proofs.YtodnocplljkjnaaDoor
open Go.RowKit Go.Lib

/-- a valid code point -/
def CP (r : Nat) : Prop := r < 55296 ∨ (57344 ≤ r ∧ r ≤ 1114111)
/-- the bytes of a rune -/
def enc (r : Nat) : List UInt8 := (Utf8.encode (r : Int)).data.toList
/-- the bytes of runes -/
def encs (rs : List Nat) : List UInt8 := rs.flatMap enc
/-- the text of runes -/
def str (rs : List Nat) : ByteArray := ⟨(encs rs).toArray⟩

theorem valid_of_cp {r : Nat} (h : CP r) : Utf8.valid (r : Int) = true := by
  unfold CP at h
  simp [Utf8.valid]
  omega

theorem toNat_valid {r : Nat} (h : CP r) : (if Utf8.valid (r : Int) then (r : Int).toNat else Utf8.runeError) = r := by rw [if_pos (valid_of_cp h), Int.toNat_natCast]
theorem data_ite {c : Prop} [Decidable c] (a b : ByteArray) : (if c then a else b).data.toList = if c then a.data.toList else b.data.toList := by split <;> rfl
set_option maxRecDepth 100000 in
/-- the four forms -/
theorem enc_form {r : Nat} (h : CP r) : enc r = if r < 128 then [UInt8.ofNat r] else if r < 2048 then [UInt8.ofNat (192 + r / 64), UInt8.ofNat (128 + r % 64)]
    else if r < 65536 then [UInt8.ofNat (224 + r / 4096), UInt8.ofNat (128 + r / 64 % 64), UInt8.ofNat (128 + r % 64)]
    else [UInt8.ofNat (240 + r / 262144), UInt8.ofNat (128 + r / 4096 % 64), UInt8.ofNat (128 + r / 64 % 64), UInt8.ofNat (128 + r % 64)] := by
  unfold enc Utf8.encode
  simp only [toNat_valid h, data_ite]
theorem enc_cases {r : Nat} (h : CP r) :
    (r < 128 ∧ enc r = [UInt8.ofNat r]) ∨ (128 ≤ r ∧ r < 2048 ∧ enc r = [UInt8.ofNat (192 + r / 64), UInt8.ofNat (128 + r % 64)]) ∨
    (2048 ≤ r ∧ r < 65536 ∧ enc r = [UInt8.ofNat (224 + r / 4096), UInt8.ofNat (128 + r / 64 % 64), UInt8.ofNat (128 + r % 64)]) ∨
    (65536 ≤ r ∧ r ≤ 1114111 ∧ enc r = [UInt8.ofNat (240 + r / 262144), UInt8.ofNat (128 + r / 4096 % 64), UInt8.ofNat (128 + r / 64 % 64), UInt8.ofNat (128 + r % 64)]) := by
  have hf := enc_form h
  generalize enc r = E at *
  by_cases h1 : r < 128
  · rw [if_pos h1] at hf
    exact .inl ⟨h1, hf⟩
  · rw [if_neg h1] at hf
    by_cases h2 : r < 2048
    · rw [if_pos h2] at hf
      exact .inr (.inl ⟨by omega, h2, hf⟩)
    · rw [if_neg h2] at hf
      by_cases h3 : r < 65536
      · rw [if_pos h3] at hf
        exact .inr (.inr (.inl ⟨by omega, h3, hf⟩))
      · rw [if_neg h3] at hf
        exact .inr (.inr (.inr ⟨by omega, by unfold CP at h; omega, hf⟩))

theorem byte_nat {n : Nat} (h : n < 256) : (UInt8.ofNat n).toNat = n := by
  simp only [UInt8.toNat_ofNat']
  omega

theorem enc_pos {r : Nat} (h : CP r) : 1 ≤ (enc r).length := by
  rcases enc_cases h with ⟨_, e⟩ | ⟨_, _, e⟩ | ⟨_, _, e⟩ | ⟨_, _, e⟩ <;> rw [e] <;> simp
theorem enc_le4 {r : Nat} (h : CP r) : (enc r).length ≤ 4 := by
  rcases enc_cases h with ⟨_, e⟩ | ⟨_, _, e⟩ | ⟨_, _, e⟩ | ⟨_, _, e⟩ <;> rw [e] <;> simp

/-- what was encoded is decoded -/
theorem decode_enc {r : Nat} (h : CP r) (t : List UInt8) : decodeL (enc r ++ t) = (r, (enc r).length) := by
  rw [decodeL_N]
  rcases enc_cases h with ⟨h1, e⟩ | ⟨h1, h2, e⟩ | ⟨h1, h2, e⟩ | ⟨h1, h2, e⟩
  · rw [e]
    simp only [List.cons_append, List.nil_append, List.getD_cons_zero, List.length_cons, List.length_nil]
    rw [byte_nat (by omega)]
    unfold decodeN
    rw [if_pos h1]
  · rw [e]
    simp only [List.cons_append, List.nil_append, List.getD_cons_zero, List.getD_cons_succ, List.length_cons, List.length_nil]
    rw [byte_nat (by omega), byte_nat (by omega)]
    unfold decodeN
    rw [if_neg (by omega), if_pos (by omega), if_pos (by omega)]
    simp only [Prod.mk.injEq, and_true]
    omega
  · rw [e]
    simp only [List.cons_append, List.nil_append, List.getD_cons_zero, List.getD_cons_succ, List.length_cons, List.length_nil]
    rw [byte_nat (by omega), byte_nat (by omega), byte_nat (by omega)]
    unfold decodeN CP at *
    rw [if_neg (by omega), if_neg (by omega), if_pos (by omega), if_pos (by omega)]
    simp only [Prod.mk.injEq, and_true]
    omega
  · rw [e]
    simp only [List.cons_append, List.nil_append, List.getD_cons_zero, List.getD_cons_succ, List.length_cons, List.length_nil]
    rw [byte_nat (by omega), byte_nat (by omega), byte_nat (by omega), byte_nat (by omega)]
    unfold decodeN CP at *
    rw [if_neg (by omega), if_neg (by omega), if_neg (by omega), if_pos (by omega), if_pos (by omega)]
    simp only [Prod.mk.injEq, and_true]
    omega

/-- what is decoded of valid bytes is a code point, and its bytes are those -/
theorem enc_decode (l : List UInt8) (hne : l ≠ []) (hv : ¬ ((decodeL l).1 = 65533 ∧ (decodeL l).2 = 1)) :
    CP (decodeL l).1 ∧ enc (decodeL l).1 = l.take (decodeL l).2 := by
  have hl : 0 < l.length := List.length_pos_iff.2 hne
  rw [decodeL_N] at hv ⊢
  have k0 := (l.getD 0 0).toNat_lt
  have k1 := (l.getD 1 0).toNat_lt
  have k2 := (l.getD 2 0).toNat_lt
  have k3 := (l.getD 3 0).toNat_lt
  have ofn : ∀ x : UInt8, UInt8.ofNat x.toNat = x := fun x => by simp
  rcases decodeN_shape l.length (l.getD 0 0).toNat (l.getD 1 0).toNat (l.getD 2 0).toNat (l.getD 3 0).toNat with ⟨c, e⟩ | ⟨c1, c2, c3, cv, e⟩ | ⟨c1, c2, c3, c4, cv, cs, e⟩ | ⟨c1, c2, c3, c4, c5, cv, cw, e⟩ | e
  · rw [e] at hv ⊢
    dsimp only
    have hc : CP (l.getD 0 0).toNat := by unfold CP; omega
    refine ⟨hc, ?_⟩
    rcases enc_cases hc with ⟨h1, e⟩ | ⟨h1, h2, e⟩ | ⟨h1, h2, e⟩ | ⟨h1, h2, e⟩
    · rw [e, takeA l hl, ofn]
    all_goals omega
  · rw [e] at hv ⊢
    dsimp only
    generalize h0 : (l.getD 0 0).toNat = x0 at *
    generalize h1' : (l.getD 1 0).toNat = x1 at *
    have hc : CP (x0 % 32 * 64 + x1 % 64) := by unfold CP; omega
    refine ⟨hc, ?_⟩
    rcases enc_cases hc with ⟨h1, e⟩ | ⟨h1, h2, e⟩ | ⟨h1, h2, e⟩ | ⟨h1, h2, e⟩
    · omega
    · rw [e, takeB l (by omega), show 192 + (x0 % 32 * 64 + x1 % 64) / 64 = x0 by omega, show 128 + (x0 % 32 * 64 + x1 % 64) % 64 = x1 by omega, ← h0, ← h1', ofn, ofn]
    all_goals omega
  · rw [e] at hv ⊢
    dsimp only
    generalize h0 : (l.getD 0 0).toNat = x0 at *
    generalize h1' : (l.getD 1 0).toNat = x1 at *
    generalize h2' : (l.getD 2 0).toNat = x2 at *
    have hc : CP (x0 % 16 * 4096 + x1 % 64 * 64 + x2 % 64) := by unfold CP; omega
    refine ⟨hc, ?_⟩
    rcases enc_cases hc with ⟨h1, e⟩ | ⟨h1, h2, e⟩ | ⟨h1, h2, e⟩ | ⟨h1, h2, e⟩
    · omega
    · omega
    · rw [e, takeC l (by omega), show 224 + (x0 % 16 * 4096 + x1 % 64 * 64 + x2 % 64) / 4096 = x0 by omega, show 128 + (x0 % 16 * 4096 + x1 % 64 * 64 + x2 % 64) / 64 % 64 = x1 by omega, show 128 + (x0 % 16 * 4096 + x1 % 64 * 64 + x2 % 64) % 64 = x2 by omega, ← h0, ← h1', ← h2', ofn, ofn, ofn]
    · omega
  · rw [e] at hv ⊢
    dsimp only
    generalize h0 : (l.getD 0 0).toNat = x0 at *
    generalize h1' : (l.getD 1 0).toNat = x1 at *
    generalize h2' : (l.getD 2 0).toNat = x2 at *
    generalize h3' : (l.getD 3 0).toNat = x3 at *
    have hc : CP (x0 % 8 * 262144 + x1 % 64 * 4096 + x2 % 64 * 64 + x3 % 64) := by unfold CP; omega
    refine ⟨hc, ?_⟩
    rcases enc_cases hc with ⟨h1, e⟩ | ⟨h1, h2, e⟩ | ⟨h1, h2, e⟩ | ⟨h1, h2, e⟩
    · omega
    · omega
    · omega
    · rw [e, takeD l (by omega), show 240 + (x0 % 8 * 262144 + x1 % 64 * 4096 + x2 % 64 * 64 + x3 % 64) / 262144 = x0 by omega, show 128 + (x0 % 8 * 262144 + x1 % 64 * 4096 + x2 % 64 * 64 + x3 % 64) / 4096 % 64 = x1 by omega,
        show 128 + (x0 % 8 * 262144 + x1 % 64 * 4096 + x2 % 64 * 64 + x3 % 64) / 64 % 64 = x2 by omega, show 128 + (x0 % 8 * 262144 + x1 % 64 * 4096 + x2 % 64 * 64 + x3 % 64) % 64 = x3 by omega, ← h0, ← h1', ← h2', ← h3', ofn, ofn, ofn, ofn]
  · rw [e] at hv
    exact absurd ⟨rfl, rfl⟩ hv

/-- The runes of bytes, by at most so many. -/
def runesL : Nat → List UInt8 → List Nat
  | 0, _ => []
  | f + 1, l => if l = [] then [] else (decodeL l).1 :: runesL f (l.drop (decodeL l).2)

theorem runesAt_L (s : ByteArray) : ∀ f pos, runesAt s f pos = runesL f (s.data.toList.drop pos)
  | 0, _ => rfl
  | f + 1, pos => by
    unfold runesAt runesL
    rw [← decodeL_drop]
    by_cases h : pos < s.size
    · have hne : s.data.toList.drop pos ≠ [] := by
        intro h0
        have := congrArg List.length h0
        simp at this
        have e : s.data.size = s.size := rfl
        omega
      rw [if_pos h, if_neg hne, runesAt_L s f, List.drop_drop]
    · have h0 : s.data.toList.drop pos = [] := by
        apply List.drop_of_length_le
        simp
        have e : s.data.size = s.size := rfl
        omega
      rw [if_neg h, if_pos h0]

theorem bytes_len (s : ByteArray) : s.data.toList.length = s.size := by rw [Array.length_toList]; rfl

theorem runes_L (s : ByteArray) : runes s = runesL s.data.toList.length s.data.toList := by
  rw [runes, runesAt_L, List.drop_zero, bytes_len]

theorem encs_cons (r : Nat) (rs : List Nat) : encs (r :: rs) = enc r ++ encs rs := List.flatMap_cons
theorem runesL_nil (f : Nat) : runesL f [] = [] := by
  cases f with
  | zero => rfl
  | succ f => exact if_pos rfl
theorem validGo_nil (f : Nat) : validGoD f [] = true := by
  cases f with
  | zero => rfl
  | succ f => exact if_pos rfl
theorem enc_ne {r : Nat} (h : CP r) (t : List UInt8) : enc r ++ t ≠ [] := by
  intro h0
  have h1 := congrArg List.length h0
  have h2 := enc_pos h
  rw [List.length_append, List.length_nil] at h1
  omega

theorem runesL_encs (rs : List Nat) : ∀ (f : Nat), (∀ r ∈ rs, CP r) → (encs rs).length ≤ f → runesL f (encs rs) = rs := by
  induction rs with
  | nil => intro f _ _; exact runesL_nil f
  | cons r rs ih =>
    intro f h hf
    have hr : CP r := h r List.mem_cons_self
    have hp := enc_pos hr
    rw [encs_cons, List.length_append] at hf
    rw [encs_cons]
    cases f with
    | zero => omega
    | succ f =>
      unfold runesL
      rw [if_neg (enc_ne hr _), decode_enc hr]
      simp only
      rw [List.drop_left, ih f (fun x hx => h x (List.mem_cons_of_mem _ hx)) (by omega)]

theorem enc_bad {r : Nat} (hr : CP r) : ¬ (r = 65533 ∧ (enc r).length = 1) := by
  rintro ⟨h0, h1⟩
  rcases enc_cases hr with ⟨h2, _⟩ | ⟨_, _, e⟩ | ⟨_, _, e⟩ | ⟨_, _, e⟩
  · omega
  all_goals (rw [e] at h1; simp at h1)

theorem validGo_encs (rs : List Nat) : ∀ (f : Nat), (∀ r ∈ rs, CP r) → (encs rs).length ≤ f → validGoD f (encs rs) = true := by
  induction rs with
  | nil => intro f _ _; exact validGo_nil f
  | cons r rs ih =>
    intro f h hf
    have hr : CP r := h r List.mem_cons_self
    have hp := enc_pos hr
    rw [encs_cons, List.length_append] at hf
    rw [encs_cons]
    cases f with
    | zero => rfl
    | succ f =>
      unfold validGoD
      rw [if_neg (enc_ne hr _), decode_enc hr]
      simp only
      rw [if_neg (enc_bad hr), List.drop_left, ih f (fun x hx => h x (List.mem_cons_of_mem _ hx)) (by omega)]

theorem validGo_runes : ∀ (f : Nat) (l : List UInt8), l.length ≤ f → validGoD f l = true → encs (runesL f l) = l ∧ ∀ r ∈ runesL f l, CP r
  | 0, l, h, _ => by
    have : l = [] := List.length_eq_zero_iff.1 (by omega)
    subst this
    simp [runesL, encs]
  | f + 1, l, h, hv => by
    unfold validGoD at hv
    unfold runesL
    by_cases h0 : l = []
    · subst h0; simp [encs]
    · rw [if_neg h0] at hv ⊢
      by_cases hbad : (decodeL l).1 = 65533 ∧ (decodeL l).2 = 1
      · rw [if_pos hbad] at hv; cases hv
      · rw [if_neg hbad] at hv
        obtain ⟨hc, he⟩ := enc_decode l h0 hbad
        have hw := decodeL_width l
        have hl : 0 < l.length := List.length_pos_iff.2 h0
        obtain ⟨h1, h2⟩ := validGo_runes f (l.drop (decodeL l).2) (by simp; omega) hv
        refine ⟨?_, ?_⟩
        · have e : encs ((decodeL l).1 :: runesL f (l.drop (decodeL l).2)) = enc (decodeL l).1 ++ encs (runesL f (l.drop (decodeL l).2)) := by simp [encs]
          rw [e, h1, he, List.take_append_drop]
        · intro r hr
          rcases List.mem_cons.1 hr with rfl | hr
          · exact hc
          · exact h2 r hr

/-- A text may be: it is valid UTF-8. -/
def Valid (s : ByteArray) : Prop := Lib.validD s.data.toList = true

theorem str_bytes (rs : List Nat) : (str rs).data.toList = encs rs := by simp [str]
theorem valid_str {rs : List Nat} (h : ∀ r ∈ rs, CP r) : Valid (str rs) := by
  unfold Valid Lib.validD
  rw [str_bytes]
  exact validGo_encs rs _ h (Nat.le_refl _)
theorem runes_str {rs : List Nat} (h : ∀ r ∈ rs, CP r) : runes (str rs) = rs := by
  rw [runes_L, str_bytes]
  exact runesL_encs rs _ h (Nat.le_refl _)
theorem Valid.cp {s : ByteArray} (h : Valid s) : ∀ r ∈ runes s, CP r := by
  rw [runes_L]
  exact (validGo_runes _ _ (Nat.le_refl _) h).2
theorem Valid.str {s : ByteArray} (h : Valid s) : str (runes s) = s := by
  have := (validGo_runes _ _ (Nat.le_refl _) h).1
  rw [← runes_L] at this
  unfold YtodnocplljkjnaaDoor.str
  rw [this]
theorem runes_inj {s t : ByteArray} (hs : Valid s) (ht : Valid t) (h : runes s = runes t) : s = t := by rw [← hs.str, ← ht.str, h]

theorem encs_append (a b : List Nat) : encs (a ++ b) = encs a ++ encs b := by simp [encs]
theorem str_append (a b : List Nat) : str (a ++ b) = str a ++ str b := by
  apply ByteArray.ext
  rw [ByteArray.data_append]
  apply Array.ext'
  simp [str, encs_append]
theorem str_nil : str [] = ByteArray.empty := rfl

set_option maxRecDepth 100000 in
theorem str_one (r : Nat) : str [r] = Utf8.encode (r : Int) := by
  apply ByteArray.ext
  show (encs [r]).toArray = _
  have e : encs [r] = (Utf8.encode (r : Int)).data.toList := by rw [encs_cons]; show enc r ++ [] = _; rw [List.append_nil]; rfl
  rw [e]
/-- the machine's own conversion -/
theorem runesBytes_aux (rs : List Nat) : ∀ (s : ByteArray), (rs.map fun r : Nat => (r : Int)).foldl (fun r n => r ++ Utf8.encode n) s = s ++ str rs := by
  induction rs with
  | nil => intro s; simp [str_nil]
  | cons r rs ih =>
    intro s
    simp only [List.map_cons, List.foldl_cons]
    rw [ih, show r :: rs = [r] ++ rs from rfl, str_append, str_one, ByteArray.append_assoc]
theorem runesBytes_str (rs : List Nat) : runesBytes (rs.map fun r : Nat => (r : Int)) = str rs := by
  rw [runesBytes, runesBytes_aux]
  simp

end Go.Proofs.YtodnocplljkjnaaDoor

/- PLAIN LEAN: an operation as steps, one for each rune; what is known of an operation that may be. -/
namespace Go.Proofs.YtodnocplljkjnaaDoor
open Go.RowKit

/-- a step: its kind, and the rune of an insert -/
abbrev Step := Int × Int

/-- a part's steps -/
def stepsOf (p : Part) : List Step := if p.kind = 2 then (runes p.text).map (fun r : Nat => ((2 : Int), (r : Int))) else List.replicate p.n.toNat (p.kind, 0)
def steps (ps : List Part) : List Step := ps.flatMap stepsOf

/-- the weight of a part: its runes -/
def weight (p : Part) : Nat := if p.kind = 2 then (runes p.text).length else p.n.toNat
theorem stepsOf_length (p : Part) : (stepsOf p).length = weight p := by
  unfold stepsOf weight
  split <;> simp

/-- the lengths, as numbers that do not wrap -/
def fromN : List Part → Nat
  | [] => 0
  | p :: r => (if p.kind = 2 then 0 else p.n.toNat) + fromN r
def toN : List Part → Nat
  | [] => 0
  | p :: r => (if p.kind = 3 then 0 else weight p) + toN r

/-- a part that may be by itself -/
structure Good (p : Part) : Prop where
  kind : p.kind = 1 ∨ p.kind = 2 ∨ p.kind = 3
  count : p.kind ≠ 2 → 1 ≤ p.n ∧ p.n ≤ 4000 ∧ p.text = ByteArray.empty
  text : p.kind = 2 → p.n = 0 ∧ Valid p.text ∧ (runes p.text).length ≤ 4000 ∧ p.text.size ≠ 0

theorem empty_of (s : ByteArray) (h : s.size = 0) : s = ByteArray.empty := by
  cases s with
  | mk d =>
    have : d = #[] := by apply Array.eq_empty_of_size_eq_zero; exact h
    subst this; rfl

theorem textErr_zero {s : ByteArray} (h : textErr s = 0) : Valid s ∧ (runes s).length ≤ 4000 := by
  unfold textErr at h
  unfold Valid
  cases hv : Lib.validD s.data.toList with
  | false => rw [hv] at h; simp at h
  | true =>
    rw [hv] at h
    simp at h
    exact ⟨rfl, by omega⟩
theorem textErr_ok {s : ByteArray} (h : Valid s) (hl : (runes s).length ≤ 4000) : textErr s = 0 := by
  unfold Valid at h
  unfold textErr
  rw [h]
  simp
  omega

theorem bodyErr_good {p : Part} (h : bodyErr p = 0) : Good p := by
  have hk := bodyErr_kind h
  unfold bodyErr at h
  by_cases h2 : p.kind = 2
  · rw [if_neg (by omega), if_pos h2] at h
    unfold insertErr at h
    by_cases he : textErr p.text = 0
    · rw [if_neg (by omega)] at h
      by_cases hz : p.text.size = 0 ∨ p.n ≠ 0
      · rw [if_pos hz] at h; omega
      · obtain ⟨v, l⟩ := textErr_zero he
        exact ⟨hk, fun h => absurd h2 h, fun _ => ⟨by omega, v, l, by omega⟩⟩
    · rw [if_pos he] at h; omega
  · rw [if_pos (by omega)] at h
    unfold countErr at h
    by_cases hn : p.n < 1 ∨ 4000 < p.n
    · rw [if_pos hn] at h; omega
    · rw [if_neg hn] at h
      by_cases ht : p.text.size ≠ 0
      · rw [if_pos ht] at h; omega
      · exact ⟨hk, fun _ => ⟨by omega, by omega, empty_of _ (by omega)⟩, fun h => absurd h h2⟩
theorem good_bodyErr {p : Part} (g : Good p) : bodyErr p = 0 := by
  unfold bodyErr
  by_cases h2 : p.kind = 2
  · obtain ⟨h1, h3, h4, h5⟩ := g.text h2
    rw [if_neg (by omega), if_pos h2]
    unfold insertErr
    rw [textErr_ok h3 h4]
    simp [h1, h5]
  · obtain ⟨h1, h3, h4⟩ := g.count h2
    have := g.kind
    rw [if_pos (by omega)]
    unfold countErr
    rw [if_neg (by omega), h4]
    simp

/-- neighbours that may be: no two of one kind, no insert behind a delete -/
def Fits (a b : Int) : Prop := a ≠ b ∧ ¬ (a = 3 ∧ b = 2)
/-- parts that may be, behind a part of this kind -/
def Chain : Int → List Part → Prop
  | _, [] => True
  | ah, p :: r => Good p ∧ Fits ah p.kind ∧ Chain p.kind r

theorem partsErr_chain : ∀ (ps : List Part) (ah : Int), partsErr ah ps = 0 ↔ Chain ah ps
  | [], _ => by simp [partsErr, Chain]
  | p :: r, ah => by
    have ih := partsErr_chain r p.kind
    unfold partsErr Chain
    unfold partErr
    by_cases hb : bodyErr p = 0
    · have g := bodyErr_good hb
      rw [if_neg (by omega : ¬ bodyErr p ≠ 0)]
      by_cases hf : ah = p.kind ∨ (ah = 3 ∧ p.kind = 2)
      · rw [if_pos hf]
        constructor
        · intro h; omega
        · rintro ⟨_, h, _⟩; unfold Fits at h; omega
      · rw [if_neg hf]
        simp only [ne_eq, not_true, if_false]
        rw [ih]
        constructor
        · intro h; exact ⟨g, by unfold Fits; omega, h⟩
        · rintro ⟨_, _, h⟩; exact h
    · rw [if_pos (by omega : bodyErr p ≠ 0)]
      rw [if_pos hb]
      constructor
      · intro h; exact absurd h hb
      · rintro ⟨h, _⟩; exact absurd (good_bodyErr h) hb

theorem Chain.good : ∀ {ps : List Part} {ah : Int}, Chain ah ps → ∀ p ∈ ps, Good p
  | [], _, _, _, hp => by cases hp
  | p :: r, ah, h, q, hq => by
    rcases List.mem_cons.1 hq with rfl | hq
    · exact h.1
    · exact Chain.good h.2.2 q hq

theorem wrap64_id {n : Int} (h0 : -9223372036854775808 ≤ n) (h1 : n ≤ 9223372036854775807) : wrap64 n = n := by
  unfold wrap64
  omega

/-- the machine's lengths are the true ones -/
theorem lens_good : ∀ (ps : List Part) (a b : Nat), (∀ p ∈ ps, Good p) → a + b + ps.length * 8000 ≤ 1000000000000 →
    ps.foldl stepLen ((a : Int), (b : Int)) = (((a + fromN ps : Nat) : Int), ((b + toN ps : Nat) : Int))
  | [], a, b, _, _ => by simp [fromN, toN]
  | p :: r, a, b, h, hl => by
    have g := h p List.mem_cons_self
    have hr : ∀ q ∈ r, Good q := fun q hq => h q (List.mem_cons_of_mem _ hq)
    rw [List.length_cons] at hl
    rw [List.foldl_cons]
    rcases g.kind with hk | hk | hk
    · obtain ⟨h1, h2, _⟩ := g.count (by omega)
      obtain ⟨n, hn⟩ : ∃ n : Nat, p.n = n := ⟨p.n.toNat, by omega⟩
      have e : stepLen ((a : Int), (b : Int)) p = (((a + n : Nat) : Int), ((b + n : Nat) : Int)) := by
        simp only [stepLen, hk, if_true]
        rw [hn, wrap64_id (by omega) (by omega), wrap64_id (by omega) (by omega)]
        simp
      rw [e, lens_good r _ _ hr (by omega)]
      simp only [fromN, toN, weight, hk, hn]
      simp
      omega
    · obtain ⟨_, _, h3, _⟩ := g.text hk
      have e : stepLen ((a : Int), (b : Int)) p = ((a : Int), ((b + (runes p.text).length : Nat) : Int)) := by
        unfold stepLen
        rw [if_neg (by omega), if_neg (by omega), if_pos hk]
        simp only
        rw [wrap64_id (by omega) (by omega)]
        simp
      rw [e, lens_good r _ _ hr (by omega)]
      simp only [fromN, toN, weight, hk]
      simp
      omega
    · obtain ⟨h1, h2, _⟩ := g.count (by omega)
      obtain ⟨n, hn⟩ : ∃ n : Nat, p.n = n := ⟨p.n.toNat, by omega⟩
      have e : stepLen ((a : Int), (b : Int)) p = (((a + n : Nat) : Int), (b : Int)) := by
        unfold stepLen
        rw [if_neg (by omega), if_pos hk]
        simp only
        rw [hn, wrap64_id (by omega) (by omega)]
        simp
      rw [e, lens_good r _ _ hr (by omega)]
      simp only [fromN, toN, weight, hk, hn]
      simp
      omega

/-- AN OPERATION THAT MAY BE. -/
structure OpOk (ps : List Part) : Prop where
  chain : Chain 0 ps
  many : ps.length ≤ 8001
  from_le : fromN ps ≤ 4000
  to_le : toN ps ≤ 4000

theorem opErr_zero {ps : List Part} (h : opErr ps = 0) : OpOk ps := by
  unfold opErr at h
  by_cases h8 : 8001 < ps.length
  · rw [if_pos h8] at h; omega
  · rw [if_neg h8] at h
    by_cases hp : partsErr 0 ps = 0
    · rw [if_neg (by omega : ¬ partsErr 0 ps ≠ 0)] at h
      have hc := (partsErr_chain ps 0).1 hp
      have hl := lens_good ps 0 0 hc.good (by omega)
      have hl' : lens ps = (((0 + fromN ps : Nat) : Int), ((0 + toN ps : Nat) : Int)) := hl
      rw [hl'] at h
      by_cases h4 : (4000 : Int) < ((0 + fromN ps : Nat) : Int) ∨ (4000 : Int) < ((0 + toN ps : Nat) : Int)
      · rw [if_pos h4] at h; omega
      · exact ⟨hc, by omega, by omega, by omega⟩
    · rw [if_pos hp] at h; exact absurd h hp
theorem OpOk.lens {ps : List Part} (h : OpOk ps) : lens ps = ((fromN ps : Int), (toN ps : Int)) := by
  have hl := lens_good ps 0 0 h.chain.good (by have := h.many; omega)
  have : YtodnocplljkjnaaDoor.lens ps = (((0 + fromN ps : Nat) : Int), ((0 + toN ps : Nat) : Int)) := hl
  rw [this]
  simp
theorem OpOk.err {ps : List Part} (h : OpOk ps) : opErr ps = 0 := by
  unfold opErr
  rw [if_neg (by have := h.many; omega), (partsErr_chain ps 0).2 h.chain, h.lens]
  have := h.from_le
  have := h.to_le
  simp
  omega

theorem steps_cons (p : Part) (r : List Part) : steps (p :: r) = stepsOf p ++ steps r := List.flatMap_cons
theorem steps_take (ps : List Part) (k : Nat) (h : k < ps.length) : steps (ps.take (k + 1)) = steps (ps.take k) ++ stepsOf ps[k] := by
  unfold steps
  rw [List.take_succ_eq_append_getElem h, List.flatMap_append]
  simp
theorem steps_length_le : ∀ (ps : List Part), (∀ p ∈ ps, Good p) → (steps ps).length ≤ fromN ps + toN ps
  | [], _ => by simp [steps, fromN, toN]
  | p :: r, h => by
    have ih := steps_length_le r fun q hq => h q (List.mem_cons_of_mem _ hq)
    have g := h p List.mem_cons_self
    rw [steps_cons, List.length_append, stepsOf_length]
    unfold fromN toN weight
    rcases g.kind with hk | hk | hk <;> simp [hk] <;> omega
theorem steps_take_le (ps : List Part) (k : Nat) : (steps (ps.take k)).length ≤ (steps ps).length := by
  have : steps ps = steps (ps.take k) ++ steps (ps.drop k) := by
    unfold steps
    rw [← List.flatMap_append, List.take_append_drop]
  rw [this, List.length_append]
  omega
theorem OpOk.steps_le {ps : List Part} (h : OpOk ps) : (steps ps).length ≤ 8000 := by
  have := steps_length_le ps h.chain.good
  have := h.from_le
  have := h.to_le
  omega

end Go.Proofs.YtodnocplljkjnaaDoor

/- PLAIN LEAN: what an operation makes of a text. -/
namespace Go.Proofs.YtodnocplljkjnaaDoor
open Go.RowKit

/-- the runes behind steps -/
def applyS : List Nat → List Step → List Nat
  | _, [] => []
  | rs, s :: l => if s.1 = 2 then s.2.toNat :: applyS rs l else if s.1 = 1 then rs.take 1 ++ applyS rs.tail l else applyS rs.tail l

theorem applyS_ins (l : List Step) (xs : List Nat) (rs : List Nat) : applyS rs (xs.map (fun r : Nat => ((2 : Int), (r : Int))) ++ l) = xs ++ applyS rs l := by
  induction xs with
  | nil => rfl
  | cons x xs ih => simp [applyS, ih]
theorem applyS_keep (l : List Step) : ∀ (n : Nat) (rs : List Nat), applyS rs (List.replicate n ((1 : Int), (0 : Int)) ++ l) = rs.take n ++ applyS (rs.drop n) l
  | 0, rs => by simp
  | n + 1, rs => by
    rw [List.replicate_succ, List.cons_append]
    simp only [applyS]
    rw [if_neg (by decide), if_pos trivial, applyS_keep l n]
    cases rs with
    | nil => simp
    | cons x xs => simp
theorem applyS_del (l : List Step) : ∀ (n : Nat) (rs : List Nat), applyS rs (List.replicate n ((3 : Int), (0 : Int)) ++ l) = applyS (rs.drop n) l
  | 0, rs => by simp
  | n + 1, rs => by
    rw [List.replicate_succ, List.cons_append]
    simp only [applyS]
    rw [if_neg (by decide), if_neg (by decide), applyS_del l n]
    cases rs with
    | nil => simp
    | cons x xs => simp

/-- a good part's steps, by its kind -/
theorem stepsOf_keep {p : Part} (h : p.kind = 1) : stepsOf p = List.replicate p.n.toNat ((1 : Int), (0 : Int)) := by simp [stepsOf, h]
theorem stepsOf_ins {p : Part} (h : p.kind = 2) : stepsOf p = (runes p.text).map (fun r : Nat => ((2 : Int), (r : Int))) := by simp [stepsOf, h]
theorem stepsOf_del {p : Part} (h : p.kind = 3) : stepsOf p = List.replicate p.n.toNat ((3 : Int), (0 : Int)) := by simp [stepsOf, h]

theorem steps_drop (ps : List Part) (k : Nat) (h : k < ps.length) : steps (ps.drop k) = stepsOf ps[k] ++ steps (ps.drop (k + 1)) := by
  rw [List.drop_eq_getElem_cons h, steps_cons]

/-- P1.5: what is refused -/
def applyErr (s : ByteArray) (ps : List Part) : Int := if textErr s ≠ 0 then textErr s else if opErr ps ≠ 0 then opErr ps else if (lens ps).1 ≠ ((runes s).length : Int) then 10 else 0
/-- P1.5 -/
def applyRes (s : ByteArray) (ps : List Part) : ByteArray := if applyErr s ps ≠ 0 then ByteArray.empty else str (applyS (runes s) (steps ps))

/-- An operation of a text. -/
structure Applies (s : ByteArray) (ps : List Part) : Prop where
  ok : OpOk ps
  valid : Valid s
  short : (runes s).length ≤ 4000
  fits : fromN ps = (runes s).length
theorem applyErr_zero {s : ByteArray} {ps : List Part} (h : applyErr s ps = 0) : Applies s ps := by
  unfold applyErr at h
  by_cases h1 : textErr s = 0
  · rw [if_neg (by omega : ¬ textErr s ≠ 0)] at h
    by_cases h2 : opErr ps = 0
    · rw [if_neg (by omega : ¬ opErr ps ≠ 0)] at h
      have ok := opErr_zero h2
      rw [ok.lens] at h
      obtain ⟨v, l⟩ := textErr_zero h1
      refine ⟨ok, v, l, ?_⟩
      by_cases h3 : ((fromN ps : Int), (toN ps : Int)).1 ≠ ((runes s).length : Int)
      · rw [if_pos h3] at h; omega
      · simp only at h3; omega
    · rw [if_pos h2] at h; exact absurd h h2
  · rw [if_pos h1] at h; exact absurd h h1
theorem Applies.err {s : ByteArray} {ps : List Part} (h : Applies s ps) : applyErr s ps = 0 := by
  unfold applyErr
  rw [textErr_ok h.valid h.short, h.ok.err, h.ok.lens, h.fits]
  simp

/-- all runes of what is made are code points -/
theorem applyS_cp (l : List Step) (hl : ∀ s ∈ l, s.1 = 2 → CP s.2.toNat) : ∀ rs : List Nat, (∀ r ∈ rs, CP r) → ∀ r ∈ applyS rs l, CP r := by
  induction l with
  | nil => intro rs _ r hr; simp [applyS] at hr
  | cons s l ih =>
    intro rs hrs r hr
    have ih' := ih (fun x hx => hl x (List.mem_cons_of_mem _ hx))
    unfold applyS at hr
    split at hr
    · rename_i h2
      rcases List.mem_cons.1 hr with rfl | hr
      · exact hl s List.mem_cons_self h2
      · exact ih' rs hrs r hr
    · have ht : ∀ r ∈ rs.tail, CP r := fun r h => hrs r (List.mem_of_mem_tail h)
      split at hr
      · rcases List.mem_append.1 hr with hr | hr
        · exact hrs r (List.mem_of_mem_take hr)
        · exact ih' _ ht r hr
      · exact ih' _ ht r hr
theorem steps_cp {ps : List Part} (h : ∀ p ∈ ps, Good p) : ∀ s ∈ steps ps, s.1 = 2 → CP s.2.toNat := by
  intro s hs h2
  obtain ⟨p, hp, hs⟩ := List.mem_flatMap.1 hs
  unfold stepsOf at hs
  split at hs
  · rename_i hk
    obtain ⟨r, hr, rfl⟩ := List.mem_map.1 hs
    have := ((h p hp).text hk).2.1.cp r hr
    simpa using this
  · rename_i hk
    have := List.eq_of_mem_replicate hs
    subst this
    exact absurd h2 hk

theorem applyS_length (l : List Step) : ∀ rs, (applyS rs l).length ≤ l.length := by
  induction l with
  | nil => intro rs; simp [applyS]
  | cons s l ih =>
    intro rs
    unfold applyS
    split
    · have := ih rs; simp; omega
    · split
      · have := ih rs.tail; simp only [List.length_append, List.length_take, List.length_cons]; omega
      · have := ih rs.tail; simp only [List.length_cons]; omega
theorem encs_le {rs : List Nat} (h : ∀ r ∈ rs, CP r) : (encs rs).length ≤ 4 * rs.length := by
  induction rs with
  | nil => simp [encs]
  | cons r rs ih =>
    have h1 := enc_le4 (h r List.mem_cons_self)
    have h2 := ih fun x hx => h x (List.mem_cons_of_mem _ hx)
    rw [encs_cons, List.length_append, List.length_cons]
    omega

end Go.Proofs.YtodnocplljkjnaaDoor

/- PLAIN LEAN: a pen, step by step; what it writes of steps. -/
namespace Go.Proofs.YtodnocplljkjnaaDoor
open Go.RowKit

/-- what a pen holds: the parts that are done, and what waits: bytes to insert, runes to delete -/
structure PenS where
  done : List Part
  ins : ByteArray
  del : Nat
/-- what is written of what waits -/
def waitIns (P : PenS) : List Part := if P.ins.size = 0 then [] else [⟨2, 0, P.ins⟩]
def waitDel (P : PenS) : List Part := if P.del = 0 then [] else [⟨3, (P.del : Int), ByteArray.empty⟩]
/-- all that a pen holds, written -/
def PenS.all (P : PenS) : List Part := P.done ++ waitIns P ++ waitDel P
/-- a Keep behind parts: it grows together with a Keep -/
def addKeep (D : List Part) (n : Nat) : List Part :=
  match D.getLast? with
  | some p => if p.kind = 1 then D.dropLast ++ [⟨1, p.n + n, p.text⟩] else D ++ [⟨1, n, ByteArray.empty⟩]
  | none => [⟨1, n, ByteArray.empty⟩]
theorem addKeep_nil (n : Nat) : addKeep [] n = [⟨1, n, ByteArray.empty⟩] := rfl
theorem addKeep_grow (D : List Part) (p : Part) (n : Nat) (h : p.kind = 1) : addKeep (D ++ [p]) n = D ++ [⟨1, p.n + n, p.text⟩] := by simp [addKeep, h]
theorem addKeep_new (D : List Part) (p : Part) (n : Nat) (h : p.kind ≠ 1) : addKeep (D ++ [p]) n = D ++ [p] ++ [⟨1, n, ByteArray.empty⟩] := by simp [addKeep, h]

def PenS.keep (P : PenS) (n : Nat) : PenS := ⟨addKeep P.all n, ByteArray.empty, 0⟩
def PenS.insert (P : PenS) (s : ByteArray) : PenS := ⟨P.done, P.ins ++ s, P.del⟩
def PenS.remove (P : PenS) (n : Nat) : PenS := ⟨P.done, P.ins, P.del + n⟩
def PenS.new : PenS := ⟨[], ByteArray.empty, 0⟩

/-- one step written -/
def penStep (P : PenS) (s : Step) : PenS := if s.1 = 2 then P.insert (str [s.2.toNat]) else if s.1 = 3 then P.remove 1 else P.keep 1
/-- a pen that has written these steps -/
def penOf (l : List Step) : PenS := l.foldl penStep PenS.new
/-- P1.4: steps as an operation -/
def group (l : List Step) : List Part := (penOf l).all

theorem penOf_append (a b : List Step) : penOf (a ++ b) = b.foldl penStep (penOf a) := by simp [penOf, List.foldl_append]
theorem penOf_nil : penOf [] = PenS.new := rfl

theorem all_keep (D : List Part) : PenS.all ⟨D, ByteArray.empty, 0⟩ = D := by simp [PenS.all, waitIns, waitDel]

theorem addKeep_add (D : List Part) (m n : Nat) : addKeep (addKeep D m) n = addKeep D (m + n) := by
  rcases List.eq_nil_or_concat D with rfl | ⟨D0, p, rfl⟩
  · rw [addKeep_nil, addKeep_nil, show ([⟨1, (m : Int), ByteArray.empty⟩] : List Part) = [] ++ [⟨1, (m : Int), ByteArray.empty⟩] from rfl, addKeep_grow _ _ _ rfl]
    simp
  · rw [List.concat_eq_append]
    by_cases h : p.kind = 1
    · rw [addKeep_grow _ _ _ h, addKeep_grow _ _ _ rfl, addKeep_grow _ _ _ h]
      simp [Int.add_assoc]
    · rw [addKeep_new _ _ _ h, addKeep_grow _ _ _ rfl, addKeep_new _ _ _ h]
      simp
theorem keep_add (P : PenS) (m n : Nat) : (P.keep m).keep n = P.keep (m + n) := by
  unfold PenS.keep
  rw [all_keep, addKeep_add]

theorem pen_keeps : ∀ (n : Nat) (P : PenS), 1 ≤ n → (List.replicate n ((1 : Int), (0 : Int))).foldl penStep P = P.keep n
  | 0, _, h => by omega
  | 1, P, _ => by simp [penStep]
  | n + 2, P, _ => by
    rw [List.replicate_succ, List.foldl_cons]
    have e : penStep P (1, 0) = P.keep 1 := by simp [penStep]
    rw [e, pen_keeps (n + 1) _ (by omega), keep_add]
    congr 1; omega
theorem pen_removes : ∀ (n : Nat) (P : PenS), (List.replicate n ((3 : Int), (0 : Int))).foldl penStep P = P.remove n
  | 0, P => by simp [PenS.remove]
  | n + 1, P => by
    rw [List.replicate_succ, List.foldl_cons]
    have e : penStep P (3, 0) = P.remove 1 := by simp [penStep]
    rw [e, pen_removes n]
    simp only [PenS.remove]
    congr 1; omega
theorem pen_inserts (rs : List Nat) : ∀ (P : PenS), (rs.map (fun r : Nat => ((2 : Int), (r : Int)))).foldl penStep P = P.insert (str rs) := by
  induction rs with
  | nil => intro P; simp [PenS.insert, str_nil]
  | cons r rs ih =>
    intro P
    rw [List.map_cons, List.foldl_cons]
    have e : penStep P (2, (r : Int)) = P.insert (str [r]) := by simp [penStep]
    rw [e, ih]
    simp only [PenS.insert]
    rw [ByteArray.append_assoc, ← str_append]
    rfl

theorem penOf_keeps (l : List Step) (n : Nat) (h : 1 ≤ n) : penOf (l ++ List.replicate n ((1 : Int), (0 : Int))) = (penOf l).keep n := by rw [penOf_append, pen_keeps n _ h]
theorem penOf_removes (l : List Step) (n : Nat) : penOf (l ++ List.replicate n ((3 : Int), (0 : Int))) = (penOf l).remove n := by rw [penOf_append, pen_removes]
theorem penOf_inserts (l : List Step) (rs : List Nat) : penOf (l ++ rs.map (fun r : Nat => ((2 : Int), (r : Int)))) = (penOf l).insert (str rs) := by rw [penOf_append, pen_inserts]

/-- how much a pen holds -/
structure PenOk (m : Nat) (P : PenS) : Prop where
  done : P.done.length ≤ m
  wait : P.done.length + (if P.ins.size = 0 then 0 else 1) + (if P.del = 0 then 0 else 1) ≤ m
  ins : P.ins.size ≤ 4 * m
  del : P.del ≤ m
  kept : ∀ p ∈ P.done, p.kind = 1 → 0 ≤ p.n ∧ p.n ≤ m
theorem waits_kind (P : PenS) : ∀ p ∈ waitIns P ++ waitDel P, p.kind ≠ 1 := by
  intro p hp
  rcases List.mem_append.1 hp with h | h
  · unfold waitIns at h; split at h
    · cases h
    · simp at h; subst h; simp
  · unfold waitDel at h; split at h
    · cases h
    · simp at h; subst h; simp
theorem PenOk.all {m : Nat} {P : PenS} (h : PenOk m P) : P.all.length ≤ m ∧ ∀ p ∈ P.all, p.kind = 1 → 0 ≤ p.n ∧ p.n ≤ m := by
  refine ⟨?_, ?_⟩
  · have := h.wait
    unfold PenS.all waitIns waitDel
    simp only [List.length_append]
    by_cases h1 : P.ins.size = 0 <;> by_cases h2 : P.del = 0 <;> simp [h1, h2] at this ⊢ <;> omega
  · intro p hp hk
    unfold PenS.all at hp
    rw [List.append_assoc] at hp
    rcases List.mem_append.1 hp with h1 | h1
    · exact h.kept p h1 hk
    · exact absurd hk (waits_kind P p h1)
theorem str_one_size (r : Nat) : (str [r]).size ≤ 4 := by rw [str_one]; exact encode_size_le _
theorem addKeep_bound {m n : Nat} {D : List Part} (hl : D.length ≤ m) (hk : ∀ p ∈ D, p.kind = 1 → 0 ≤ p.n ∧ p.n ≤ m) : (addKeep D n).length ≤ m + 1 ∧ ∀ p ∈ addKeep D n, p.kind = 1 → 0 ≤ p.n ∧ p.n ≤ ((m + n : Nat) : Int) := by
  rcases List.eq_nil_or_concat D with rfl | ⟨D0, p, rfl⟩
  · rw [addKeep_nil]
    refine ⟨by simp, fun q hq _ => ?_⟩
    simp at hq
    subst hq
    simp only
    omega
  · rw [List.concat_eq_append] at *
    by_cases h : p.kind = 1
    · rw [addKeep_grow _ _ _ h]
      refine ⟨by simp at hl ⊢; omega, fun q hq hq1 => ?_⟩
      rcases List.mem_append.1 hq with h1 | h1
      · have := hk q (List.mem_append_left _ h1) hq1; omega
      · have := hk p (by simp) h
        simp at h1
        subst h1
        simp only
        omega
    · rw [addKeep_new _ _ _ h]
      refine ⟨by simp at hl ⊢; omega, fun q hq hq1 => ?_⟩
      rcases List.mem_append.1 hq with h1 | h1
      · have := hk q h1 hq1; omega
      · simp at h1
        subst h1
        simp only
        omega
theorem penStep_ok {m : Nat} {P : PenS} (h : PenOk m P) (s : Step) : PenOk (m + 1) (penStep P s) := by
  have h1 := h.done
  have h2 := h.wait
  have h3 := h.ins
  have h4 := h.del
  have h5 := h.kept
  unfold penStep
  split
  · have hs := str_one_size s.2.toNat
    refine ⟨?_, ?_, ?_, ?_, ?_⟩
    · show P.done.length ≤ m + 1; omega
    · show P.done.length + (if (P.ins ++ str [s.2.toNat]).size = 0 then 0 else 1) + (if P.del = 0 then 0 else 1) ≤ m + 1
      split <;> split at h2 <;> omega
    · show (P.ins ++ str [s.2.toNat]).size ≤ 4 * (m + 1)
      rw [ByteArray.size_append]; omega
    · show P.del ≤ m + 1; omega
    · intro p hp hk; have := h5 p hp hk; omega
  · split
    · refine ⟨?_, ?_, ?_, ?_, ?_⟩
      · show P.done.length ≤ m + 1; omega
      · show P.done.length + (if P.ins.size = 0 then 0 else 1) + (if P.del + 1 = 0 then 0 else 1) ≤ m + 1
        rw [if_neg (by omega : ¬ P.del + 1 = 0)]
        split at h2 <;> split at h2 <;> simp_all <;> omega
      · show P.ins.size ≤ 4 * (m + 1); omega
      · show P.del + 1 ≤ m + 1; omega
      · intro p hp hk; have := h5 p hp hk; omega
    · obtain ⟨a1, a2⟩ := h.all
      obtain ⟨b1, b2⟩ := addKeep_bound (n := 1) a1 a2
      exact ⟨b1, by simpa [PenS.keep] using b1, by simp [PenS.keep], by simp [PenS.keep], b2⟩
theorem penOf_ok (l : List Step) : PenOk l.length (penOf l) := by
  have key : ∀ (l : List Step) (m : Nat) (P : PenS), PenOk m P → PenOk (m + l.length) (l.foldl penStep P) := by
    intro l
    induction l with
    | nil => intro m P h; exact h
    | cons s l ih =>
      intro m P h
      rw [List.foldl_cons, List.length_cons, show m + (l.length + 1) = m + 1 + l.length by omega]
      exact ih (m + 1) _ (penStep_ok h s)
  have := key l 0 PenS.new ⟨by simp [PenS.new], by simp [PenS.new], by simp [PenS.new], by simp [PenS.new], by simp [PenS.new]⟩
  rwa [Nat.zero_add] at this

end Go.Proofs.YtodnocplljkjnaaDoor

/- PLAIN LEAN: P1.7 and P1.8, step by step, and in pieces. -/
namespace Go.Proofs.YtodnocplljkjnaaDoor
open Go.RowKit

/-- P1.7 -/
def xf : List Step → List Step → List Step × List Step
  | [], [] => ([], [])
  | x :: p, [] => if x.1 = 2 then (x :: (xf p []).1, (1, 0) :: (xf p []).2) else ([], [])
  | [], y :: q => if y.1 = 2 then ((1, 0) :: (xf [] q).1, y :: (xf [] q).2) else ([], [])
  | x :: p, y :: q =>
    if x.1 = 2 then (x :: (xf p (y :: q)).1, (1, 0) :: (xf p (y :: q)).2)
    else if y.1 = 2 then ((1, 0) :: (xf (x :: p) q).1, y :: (xf (x :: p) q).2)
    else ((if y.1 = 1 then [x] else []) ++ (xf p q).1, (if x.1 = 1 then [y] else []) ++ (xf p q).2)
termination_by p q => p.length + q.length

/-- no insertion comes next -/
def NoIns (p : List Step) : Prop := ∀ x r, p = x :: r → x.1 ≠ 2

theorem xf_nil : xf [] [] = ([], []) := by rw [xf]
theorem xf_insL (x : Step) (p q : List Step) (h : x.1 = 2) : xf (x :: p) q = (x :: (xf p q).1, (1, 0) :: (xf p q).2) := by
  cases q with
  | nil => rw [xf, if_pos h]
  | cons y q => rw [xf, if_pos h]
theorem xf_insR (y : Step) (p q : List Step) (hp : NoIns p) (h : y.1 = 2) : xf p (y :: q) = ((1, 0) :: (xf p q).1, y :: (xf p q).2) := by
  cases p with
  | nil => rw [xf, if_pos h]
  | cons x p => rw [xf, if_neg (hp x p rfl), if_pos h]
theorem xf_meet (x y : Step) (p q : List Step) (hx : x.1 ≠ 2) (hy : y.1 ≠ 2) : xf (x :: p) (y :: q) = ((if y.1 = 1 then [x] else []) ++ (xf p q).1, (if x.1 = 1 then [y] else []) ++ (xf p q).2) := by
  rw [xf, if_neg hx, if_neg hy]

/-- an insertion's steps -/
def insS (rs : List Nat) : List Step := rs.map fun r : Nat => ((2 : Int), (r : Int))
theorem xf_insLs (rs : List Nat) (p q : List Step) : xf (insS rs ++ p) q = (insS rs ++ (xf p q).1, List.replicate rs.length (1, 0) ++ (xf p q).2) := by
  induction rs with
  | nil => simp [insS]
  | cons r rs ih =>
    show xf ((2, (r : Int)) :: (insS rs ++ p)) q = _
    rw [xf_insL _ _ _ rfl, ih]
    simp [insS, List.replicate_succ]
theorem xf_insRs (rs : List Nat) (p q : List Step) (hp : NoIns p) : xf p (insS rs ++ q) = (List.replicate rs.length (1, 0) ++ (xf p q).1, insS rs ++ (xf p q).2) := by
  induction rs with
  | nil => simp [insS]
  | cons r rs ih =>
    show xf p ((2, (r : Int)) :: (insS rs ++ q)) = _
    rw [xf_insR _ _ _ hp rfl, ih]
    simp [insS, List.replicate_succ]
theorem xf_meets (n : Nat) (kx ky : Int) (p q : List Step) (hx : kx ≠ 2) (hy : ky ≠ 2) : xf (List.replicate n (kx, 0) ++ p) (List.replicate n (ky, 0) ++ q) =
    ((if ky = 1 then List.replicate n (kx, 0) else []) ++ (xf p q).1, (if kx = 1 then List.replicate n (ky, 0) else []) ++ (xf p q).2) := by
  induction n with
  | zero => simp
  | succ n ih =>
    rw [List.replicate_succ, List.replicate_succ, List.cons_append, List.cons_append, xf_meet _ _ _ _ hx hy, ih]
    simp only
    by_cases h1 : ky = 1 <;> by_cases h2 : kx = 1 <;> simp [h1, h2]

theorem xf_length (p q : List Step) : (xf p q).1.length ≤ p.length + q.length ∧ (xf p q).2.length ≤ p.length + q.length := by
  fun_induction xf p q <;> simp only [List.length_cons, List.length_append, List.length_nil] at * <;> (repeat' split) <;> (try simp only [List.length_cons, List.length_nil]) <;> omega

theorem xf_nonneg (p q : List Step) (hp : ∀ s ∈ p, 0 ≤ s.2) (hq : ∀ s ∈ q, 0 ≤ s.2) : (∀ s ∈ (xf p q).1, 0 ≤ s.2) ∧ ∀ s ∈ (xf p q).2, 0 ≤ s.2 := by
  fun_induction xf p q with
  | case1 => simp
  | case2 x p h ih =>
    have := ih (fun s hs => hp s (List.mem_cons_of_mem _ hs)) hq
    have h0 := hp x (by simp)
    refine ⟨fun s hs => ?_, fun s hs => ?_⟩
    · rcases List.mem_cons.1 hs with rfl | hs
      · exact h0
      · exact this.1 s hs
    · rcases List.mem_cons.1 hs with rfl | hs
      · simp
      · exact this.2 s hs
  | case3 => simp
  | case4 y q h ih =>
    have := ih hp (fun s hs => hq s (List.mem_cons_of_mem _ hs))
    have h0 := hq y (by simp)
    refine ⟨fun s hs => ?_, fun s hs => ?_⟩
    · rcases List.mem_cons.1 hs with rfl | hs
      · simp
      · exact this.1 s hs
    · rcases List.mem_cons.1 hs with rfl | hs
      · exact h0
      · exact this.2 s hs
  | case5 => simp
  | case6 x p y q h ih =>
    have := ih (fun s hs => hp s (List.mem_cons_of_mem _ hs)) hq
    have h0 := hp x (by simp)
    refine ⟨fun s hs => ?_, fun s hs => ?_⟩
    · rcases List.mem_cons.1 hs with rfl | hs
      · exact h0
      · exact this.1 s hs
    · rcases List.mem_cons.1 hs with rfl | hs
      · simp
      · exact this.2 s hs
  | case7 x p y q h h' ih =>
    have := ih hp (fun s hs => hq s (List.mem_cons_of_mem _ hs))
    have h0 := hq y (by simp)
    refine ⟨fun s hs => ?_, fun s hs => ?_⟩
    · rcases List.mem_cons.1 hs with rfl | hs
      · simp
      · exact this.1 s hs
    · rcases List.mem_cons.1 hs with rfl | hs
      · exact h0
      · exact this.2 s hs
  | case8 x p y q h h' ih =>
    have := ih (fun s hs => hp s (List.mem_cons_of_mem _ hs)) (fun s hs => hq s (List.mem_cons_of_mem _ hs))
    have h0 := hp x (by simp)
    have h1 := hq y (by simp)
    refine ⟨fun s hs => ?_, fun s hs => ?_⟩
    · rcases List.mem_append.1 hs with hs | hs
      · split at hs
        · simp at hs; subst hs; exact h0
        · cases hs
      · exact this.1 s hs
    · rcases List.mem_append.1 hs with hs | hs
      · split at hs
        · simp at hs; subst hs; exact h1
        · cases hs
      · exact this.2 s hs

/-- P1.8 -/
def cf : List Step → List Step → List Step
  | [], [] => []
  | x :: p, [] => if x.1 = 3 then x :: cf p [] else []
  | [], y :: q => if y.1 = 2 then y :: cf [] q else []
  | x :: p, y :: q =>
    if x.1 = 3 then x :: cf p (y :: q)
    else if y.1 = 2 then y :: cf (x :: p) q
    else (if y.1 = 1 then [x] else if x.1 = 1 then [y] else []) ++ cf p q
termination_by p q => p.length + q.length
/-- no deletion comes next -/
def NoDel (p : List Step) : Prop := ∀ x r, p = x :: r → x.1 ≠ 3

theorem cf_nil : cf [] [] = [] := by rw [cf]
theorem cf_delL (x : Step) (p q : List Step) (h : x.1 = 3) : cf (x :: p) q = x :: cf p q := by
  cases q with
  | nil => rw [cf, if_pos h]
  | cons y q => rw [cf, if_pos h]
theorem cf_insR (y : Step) (p q : List Step) (hp : NoDel p) (h : y.1 = 2) : cf p (y :: q) = y :: cf p q := by
  cases p with
  | nil => rw [cf, if_pos h]
  | cons x p => rw [cf, if_neg (hp x p rfl), if_pos h]
theorem cf_meet (x y : Step) (p q : List Step) (hx : x.1 ≠ 3) (hy : y.1 ≠ 2) : cf (x :: p) (y :: q) = (if y.1 = 1 then [x] else if x.1 = 1 then [y] else []) ++ cf p q := by
  rw [cf, if_neg hx, if_neg hy]
theorem cf_delLs (n : Nat) (p q : List Step) : cf (List.replicate n (3, 0) ++ p) q = List.replicate n (3, 0) ++ cf p q := by
  induction n with
  | zero => simp
  | succ n ih => rw [List.replicate_succ, List.cons_append, cf_delL _ _ _ rfl, ih]; rfl
theorem cf_insRs (rs : List Nat) (p q : List Step) (hp : NoDel p) : cf p (insS rs ++ q) = insS rs ++ cf p q := by
  induction rs with
  | nil => simp [insS]
  | cons r rs ih =>
    show cf p ((2, (r : Int)) :: (insS rs ++ q)) = _
    rw [cf_insR _ _ _ hp rfl, ih]
    simp [insS]
theorem cf_joinK (n : Nat) (kx ky : Int) (p q : List Step) (hx : kx ≠ 3) (hy : ky ≠ 2) : cf (List.replicate n (kx, 0) ++ p) (List.replicate n (ky, 0) ++ q) =
    (if ky = 1 then List.replicate n (kx, 0) else if kx = 1 then List.replicate n (ky, 0) else []) ++ cf p q := by
  induction n with
  | zero => simp
  | succ n ih =>
    rw [List.replicate_succ, List.replicate_succ, List.cons_append, List.cons_append, cf_meet _ _ _ _ hx hy, ih]
    simp only
    by_cases h1 : ky = 1 <;> by_cases h2 : kx = 1 <;> simp [h1, h2]
theorem cf_joinI (rs : List Nat) (ky : Int) (p q : List Step) (hy : ky ≠ 2) : cf (insS rs ++ p) (List.replicate rs.length (ky, 0) ++ q) = (if ky = 1 then insS rs else []) ++ cf p q := by
  induction rs with
  | nil => simp [insS]
  | cons r rs ih =>
    show cf ((2, (r : Int)) :: (insS rs ++ p)) ((ky, 0) :: (List.replicate rs.length (ky, 0) ++ q)) = _
    rw [cf_meet _ _ _ _ (by simp) hy, ih]
    by_cases h1 : ky = 1 <;> simp [h1, insS]
theorem cf_length (p q : List Step) : (cf p q).length ≤ p.length + q.length := by
  fun_induction cf p q <;> simp only [List.length_cons, List.length_append, List.length_nil] at * <;> (repeat' split) <;> (try simp only [List.length_cons, List.length_nil]) <;> omega

theorem cf_nonneg (p q : List Step) (hp : ∀ s ∈ p, 0 ≤ s.2) (hq : ∀ s ∈ q, 0 ≤ s.2) : ∀ s ∈ cf p q, 0 ≤ s.2 := by
  intro s hs
  have key : ∀ s ∈ cf p q, s ∈ p ∨ s ∈ q := by
    clear hp hq hs
    fun_induction cf p q with
    | case1 => intro s hs; cases hs
    | case2 x p h ih => intro s hs; rcases List.mem_cons.1 hs with rfl | hs; exact .inl (by simp); rcases ih s hs with h | h; exact .inl (by simp [h]); cases h
    | case3 => intro s hs; cases hs
    | case4 y q h ih => intro s hs; rcases List.mem_cons.1 hs with rfl | hs; exact .inr (by simp); rcases ih s hs with h | h; cases h; exact .inr (by simp [h])
    | case5 => intro s hs; cases hs
    | case6 x p y q h ih => intro s hs; rcases List.mem_cons.1 hs with rfl | hs; exact .inl (by simp); rcases ih s hs with h | h; exact .inl (by simp [h]); exact .inr h
    | case7 x p y q h h' ih => intro s hs; rcases List.mem_cons.1 hs with rfl | hs; exact .inr (by simp); rcases ih s hs with h | h; exact .inl h; exact .inr (by simp [h])
    | case8 x p y q h h' ih =>
      intro s hs
      rcases List.mem_append.1 hs with hs | hs
      · split at hs
        · simp at hs; subst hs; exact .inl (by simp)
        · split at hs
          · simp at hs; subst hs; exact .inr (by simp)
          · cases hs
      · rcases ih s hs with h | h
        · exact .inl (by simp [h])
        · exact .inr (by simp [h])
  rcases key s hs with h | h
  · exact hp s h
  · exact hq s h

end Go.Proofs.YtodnocplljkjnaaDoor

/- PLAIN LEAN: the operation that brings a text back. -/
namespace Go.Proofs.YtodnocplljkjnaaDoor
open Go.RowKit

/-- what undoes steps, given the runes that they begin with -/
def invS : List Nat → List Step → List Step
  | _, [] => []
  | rs, s :: l => if s.1 = 2 then (3, 0) :: invS rs l else if s.1 = 3 then (2, ((rs.headD 0 : Nat) : Int)) :: invS rs.tail l else s :: invS rs.tail l

theorem invS_ins (l : List Step) (xs : List Nat) (rs : List Nat) : invS rs (xs.map (fun r : Nat => ((2 : Int), (r : Int))) ++ l) = List.replicate xs.length (3, 0) ++ invS rs l := by
  induction xs with
  | nil => rfl
  | cons x xs ih => simp [invS, ih, List.replicate_succ]
theorem invS_keep (l : List Step) : ∀ (n : Nat) (rs : List Nat), invS rs (List.replicate n ((1 : Int), (0 : Int)) ++ l) = List.replicate n ((1 : Int), (0 : Int)) ++ invS (rs.drop n) l
  | 0, rs => by simp
  | n + 1, rs => by
    rw [List.replicate_succ, List.cons_append]
    simp only [invS]
    rw [if_neg (by decide), if_neg (by decide), invS_keep l n, List.cons_append]
    cases rs with
    | nil => simp
    | cons x xs => simp
theorem invS_del (l : List Step) : ∀ (n : Nat) (rs : List Nat), n ≤ rs.length → invS rs (List.replicate n ((3 : Int), (0 : Int)) ++ l) = (rs.take n).map (fun r : Nat => ((2 : Int), (r : Int))) ++ invS (rs.drop n) l
  | 0, rs, _ => by simp
  | n + 1, rs, h => by
    rw [List.replicate_succ, List.cons_append]
    simp only [invS]
    rw [if_neg (by decide), if_pos trivial]
    cases rs with
    | nil => simp at h
    | cons x xs =>
      simp only [List.tail_cons, List.headD_cons]
      rw [invS_del l n xs (by simpa using h)]
      simp
/-- P1.6 -/
def invertRes (s : ByteArray) (ps : List Part) : List Part := if applyErr s ps ≠ 0 then [] else group (invS (runes s) (steps ps))

end Go.Proofs.YtodnocplljkjnaaDoor

/- PLAIN LEAN: where a place is behind an operation. -/
namespace Go.Proofs.YtodnocplljkjnaaDoor
open Go.RowKit

/-- one step: how many runes of the old text are behind us, and where the place is by now -/
def moveStep (at_ : Nat) (push : Bool) (st : Nat × Nat) (s : Step) : Nat × Nat :=
  if s.1 = 2 then (st.1, if st.1 < at_ ∨ (st.1 = at_ ∧ push = true) then st.2 + 1 else st.2)
  else (st.1 + 1, if s.1 = 1 ∧ st.1 < at_ then st.2 + 1 else st.2)
def moveAll (at_ : Nat) (push : Bool) (l : List Step) : Nat × Nat := l.foldl (moveStep at_ push) (0, 0)

theorem move_keep (at_ : Nat) (push : Bool) : ∀ (n old new : Nat), (List.replicate n ((1 : Int), (0 : Int))).foldl (moveStep at_ push) (old, new) = (old + n, new + min n (at_ - old))
  | 0, old, new => by simp
  | n + 1, old, new => by
    rw [List.replicate_succ, List.foldl_cons]
    have e : moveStep at_ push (old, new) (1, 0) = (old + 1, if old < at_ then new + 1 else new) := by simp [moveStep]
    rw [e, move_keep at_ push n]
    by_cases h : old < at_
    · rw [if_pos h]; congr 1 <;> omega
    · rw [if_neg h]; congr 1 <;> omega
theorem move_del (at_ : Nat) (push : Bool) : ∀ (n old new : Nat), (List.replicate n ((3 : Int), (0 : Int))).foldl (moveStep at_ push) (old, new) = (old + n, new)
  | 0, old, new => by simp
  | n + 1, old, new => by
    rw [List.replicate_succ, List.foldl_cons]
    have e : moveStep at_ push (old, new) (3, 0) = (old + 1, new) := by simp [moveStep]
    rw [e, move_del at_ push n]
    congr 1; omega
theorem move_ins (at_ : Nat) (push : Bool) : ∀ (rs : List Nat) (old new : Nat), (rs.map (fun r : Nat => ((2 : Int), (r : Int)))).foldl (moveStep at_ push) (old, new) = (old, if old < at_ ∨ (old = at_ ∧ push = true) then new + rs.length else new)
  | [], old, new => by simp
  | r :: rs, old, new => by
    rw [List.map_cons, List.foldl_cons]
    have e : moveStep at_ push (old, new) (2, (r : Int)) = (old, if old < at_ ∨ (old = at_ ∧ push = true) then new + 1 else new) := by simp [moveStep]
    rw [e, move_ins at_ push rs, List.length_cons]
    by_cases h : old < at_ ∨ (old = at_ ∧ push = true)
    · simp only [if_pos h]; congr 1; omega
    · simp only [if_neg h]

theorem moveAll_le (at_ : Nat) (push : Bool) (l : List Step) : ∀ st : Nat × Nat, (l.foldl (moveStep at_ push) st).1 ≤ st.1 + l.length ∧ (l.foldl (moveStep at_ push) st).2 ≤ st.2 + l.length := by
  induction l with
  | nil => intro st; simp
  | cons s l ih =>
    intro st
    rw [List.foldl_cons]
    have h := ih (moveStep at_ push st s)
    have h1 : (moveStep at_ push st s).1 ≤ st.1 + 1 ∧ (moveStep at_ push st s).2 ≤ st.2 + 1 := by
      unfold moveStep
      split
      · simp only; split <;> omega
      · simp only; split <;> omega
    rw [List.length_cons]
    omega
theorem moveAll_append (at_ : Nat) (push : Bool) (a b : List Step) : moveAll at_ push (a ++ b) = b.foldl (moveStep at_ push) (moveAll at_ push a) := by
  simp [moveAll, List.foldl_append]
theorem moveAll_bound (at_ : Nat) (push : Bool) (l : List Step) : (moveAll at_ push l).1 ≤ l.length ∧ (moveAll at_ push l).2 ≤ l.length := by
  have := moveAll_le at_ push l (0, 0)
  simpa [moveAll] using this

/-- P1.9: what is refused -/
def moveErr (at_ : Int) (ps : List Part) : Int := if opErr ps ≠ 0 then opErr ps else if at_ < 0 ∨ (lens ps).1 < at_ then 2 else 0
/-- P1.9 -/
def moveRes (at_ : Int) (ps : List Part) (push : Bool) : Int := if moveErr at_ ps ≠ 0 then 0 else ((moveAll at_.toNat push (steps ps)).2 : Int)

end Go.Proofs.YtodnocplljkjnaaDoor

/- PLAIN LEAN: what Transform and Compose answer. -/
namespace Go.Proofs.YtodnocplljkjnaaDoor
open Go.RowKit

def PenTxt (m : Nat) (P : PenS) : Prop := P.ins.size ≤ 4 * m ∧ ∀ p ∈ P.done, p.text.size ≤ 4 * m
theorem PenTxt.all {m : Nat} {P : PenS} (h : PenTxt m P) : ∀ p ∈ P.all, p.text.size ≤ 4 * m := by
  intro p hp
  unfold PenS.all at hp
  rcases List.mem_append.1 hp with hp | hp
  · rcases List.mem_append.1 hp with hp | hp
    · exact h.2 p hp
    · unfold waitIns at hp
      split at hp
      · cases hp
      · simp at hp; subst hp; exact h.1
  · unfold waitDel at hp
    split at hp
    · cases hp
    · simp at hp; subst hp; simp
theorem addKeep_txt {n x : Nat} {D : List Part} (h : ∀ p ∈ D, p.text.size ≤ x) : ∀ p ∈ addKeep D n, p.text.size ≤ x := by
  rcases List.eq_nil_or_concat D with rfl | ⟨D0, q, rfl⟩
  · rw [addKeep_nil]
    intro p hp
    simp at hp; subst hp; simp
  · rw [List.concat_eq_append] at *
    by_cases hk : q.kind = 1
    · rw [addKeep_grow _ _ _ hk]
      intro p hp
      rcases List.mem_append.1 hp with hp | hp
      · exact h p (List.mem_append_left _ hp)
      · simp at hp; subst hp; exact h q (by simp)
    · rw [addKeep_new _ _ _ hk]
      intro p hp
      rcases List.mem_append.1 hp with hp | hp
      · exact h p hp
      · simp at hp; subst hp; simp
theorem penStep_txt {m : Nat} {P : PenS} (h : PenTxt m P) (s : Step) : PenTxt (m + 1) (penStep P s) := by
  have h1 := h.1
  have h2 : ∀ p ∈ P.done, p.text.size ≤ 4 * (m + 1) := fun p hp => by have := h.2 p hp; omega
  unfold penStep
  split
  · refine ⟨?_, h2⟩
    show (P.ins ++ str [s.2.toNat]).size ≤ _
    rw [ByteArray.size_append]
    have := str_one_size s.2.toNat
    omega
  · split
    · exact ⟨by show P.ins.size ≤ _; omega, h2⟩
    · exact ⟨by show ByteArray.empty.size ≤ _; simp, addKeep_txt fun p hp => by have := h.all p hp; omega⟩
theorem penOf_txt (l : List Step) : PenTxt l.length (penOf l) := by
  have key : ∀ (l : List Step) (m : Nat) (P : PenS), PenTxt m P → PenTxt (m + l.length) (l.foldl penStep P) := by
    intro l
    induction l with
    | nil => intro m P h; exact h
    | cons s l ih =>
      intro m P h
      have := ih (m + 1) _ (penStep_txt h s)
      rw [List.foldl_cons, List.length_cons, show m + (l.length + 1) = m + 1 + l.length by omega]
      exact this
  have := key l 0 PenS.new ⟨by show ByteArray.empty.size ≤ _; simp, fun p hp => by cases hp⟩
  rw [Nat.zero_add] at this
  exact this
theorem group_txt (l : List Step) : ∀ p ∈ group l, p.text.size ≤ 4 * l.length := (penOf_txt l).all
theorem group_len (l : List Step) : (group l).length ≤ l.length := (penOf_ok l).all.1

def bothErr (ps qs : List Part) : Int := if opErr ps ≠ 0 then opErr ps else opErr qs
def xU (ps qs : List Part) : List Part := group (xf (steps ps) (steps qs)).1
def xV (ps qs : List Part) : List Part := group (xf (steps ps) (steps qs)).2
def transErr (ps qs : List Part) : Int := if bothErr ps qs ≠ 0 then bothErr ps qs else if (lens ps).1 ≠ (lens qs).1 then 10 else bothErr (xU ps qs) (xV ps qs)
def transU (ps qs : List Part) : List Part := if transErr ps qs ≠ 0 then [] else xU ps qs
def transV (ps qs : List Part) : List Part := if transErr ps qs ≠ 0 then [] else xV ps qs
theorem bothErr_zero {ps qs : List Part} (h : bothErr ps qs = 0) : opErr ps = 0 ∧ opErr qs = 0 := by
  unfold bothErr at h
  split at h
  · omega
  · omega
theorem lens_from {ps : List Part} (h : OpOk ps) : (lens ps).1 = (fromN ps : Int) ∧ (lens ps).2 = (toN ps : Int) := by
  have := lens_good ps 0 0 h.chain.good (by have := h.many; omega)
  have e : lens ps = ps.foldl stepLen (((0 : Nat) : Int), ((0 : Nat) : Int)) := rfl
  rw [e, this]
  simp
theorem xUV_small {ps qs : List Part} (ha : OpOk ps) (hb : OpOk qs) : ((xU ps qs).length ≤ 16000 ∧ ∀ p ∈ xU ps qs, p.text.size ≤ 64000) ∧ (xV ps qs).length ≤ 16000 ∧ ∀ p ∈ xV ps qs, p.text.size ≤ 64000 := by
  have h1 := xf_length (steps ps) (steps qs)
  have h2 := ha.steps_le
  have h3 := hb.steps_le
  refine ⟨⟨?_, fun p hp => ?_⟩, ?_, fun p hp => ?_⟩
  · have := group_len (xf (steps ps) (steps qs)).1
    unfold xU; omega
  · have := group_txt _ p hp
    omega
  · have := group_len (xf (steps ps) (steps qs)).2
    unfold xV; omega
  · have := group_txt _ p hp
    omega

/-- what Compose answers -/
def cO (ps qs : List Part) : List Part := group (cf (steps ps) (steps qs))
def compErr (ps qs : List Part) : Int := if bothErr ps qs ≠ 0 then bothErr ps qs else if (lens ps).2 ≠ (lens qs).1 then 10 else opErr (cO ps qs)
def compRes (ps qs : List Part) : List Part := if compErr ps qs ≠ 0 then [] else cO ps qs
theorem cO_small {ps qs : List Part} (ha : OpOk ps) (hb : OpOk qs) : (cO ps qs).length ≤ 16000 ∧ ∀ p ∈ cO ps qs, p.text.size ≤ 64000 := by
  have h1 := cf_length (steps ps) (steps qs)
  have h2 := ha.steps_le
  have h3 := hb.steps_le
  refine ⟨?_, fun p hp => ?_⟩
  · have := group_len (cf (steps ps) (steps qs))
    unfold cO; omega
  · have := group_txt _ p hp
    omega

end Go.Proofs.YtodnocplljkjnaaDoor
