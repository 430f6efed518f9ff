/-
  Numbers as bytes, and back.
-/
import Derived.Test.YtbobeecagcmclaaDoorWireEnc
namespace Go.Proofs.YtbobeecagcmclaaDoor
open Go.RowKit Go.Lib

theorem numGo_sev : ∀ (d i acc n : Nat) (l : List Nat), n < 128 ^ (d + 1) → (n ≠ 0 ∨ i = 0) → numGo (d + 1) i acc (sev n ++ l) = .ok (acc + n * 128 ^ i, l)
  | d, i, acc, n, l, h, h0 => by
    by_cases hn : n < 128
    · rw [sev_small hn]
      show (if n < 128 then (if n = 0 ∧ 0 < i then Except.error 4 else .ok (acc + n * 128 ^ i, l)) else _) = _
      rw [if_pos hn, if_neg (by omega)]
    · cases d with
      | zero => simp at h; omega
      | succ d =>
        rw [sev_big hn]
        show (if n % 128 + 128 < 128 then _ else numGo (d + 1) (i + 1) (acc + (n % 128 + 128) % 128 * 128 ^ i) (sev (n / 128) ++ l)) = _
        rw [if_neg (by omega), numGo_sev d (i + 1) _ (n / 128) l (by rw [Nat.pow_succ] at h; exact Nat.div_lt_of_lt_mul (by rw [Nat.mul_comm]; exact h)) (by omega)]
        congr 2
        have e1 : (n % 128 + 128) % 128 = n % 128 := by omega
        have e2 : n = n % 128 + 128 * (n / 128) := (Nat.mod_add_div n 128).symm
        rw [e1, Nat.pow_succ]
        conv => rhs; rw [e2]
        rw [Nat.add_mul, Nat.add_assoc]
        congr 2
        rw [Nat.mul_comm (128 ^ i) 128, ← Nat.mul_assoc, Nat.mul_comm (n / 128) 128]
theorem num_sev {n : Nat} (h : n < 268435456) (l : List Nat) : numP (sev n ++ l) = .ok (n, l) := by
  unfold numP
  rw [numGo_sev 3 0 0 n l h (.inr rfl)]
  simp

/-- a number with a 0 byte more -/
def lng (n : Nat) : List Nat := if h : n < 128 then [n + 128, 0] else (n % 128 + 128) :: lng (n / 128)
termination_by n
decreasing_by omega
theorem lng_small {n : Nat} (h : n < 128) : lng n = [n + 128, 0] := by rw [lng, dif_pos h]
theorem lng_big {n : Nat} (h : ¬ n < 128) : lng n = (n % 128 + 128) :: lng (n / 128) := by rw [lng, dif_neg h]
theorem numGo_lng : ∀ (d i acc n : Nat), n < 128 ^ (d + 1) → numGo (d + 2) i acc (lng n) = .error 4
  | d, i, acc, n, h => by
    by_cases hn : n < 128
    · rw [lng_small hn]
      show (if n + 128 < 128 then _ else (if 0 < 128 then (if 0 = 0 ∧ 0 < i + 1 then Except.error 4 else _) else _)) = _
      rw [if_neg (by omega), if_pos (by decide), if_pos (by omega)]
    · cases d with
      | zero => simp at h; omega
      | succ d =>
        rw [lng_big hn]
        show (if n % 128 + 128 < 128 then _ else numGo (d + 2) (i + 1) (acc + (n % 128 + 128) % 128 * 128 ^ i) (lng (n / 128))) = _
        rw [if_neg (by omega), numGo_lng d (i + 1) _ (n / 128) (by rw [Nat.pow_succ] at h; exact Nat.div_lt_of_lt_mul (by rw [Nat.mul_comm]; exact h))]
theorem sev_last (n : Nat) : ∃ L z, sev n = L ++ [z] ∧ z < 128 ∧ lng n = L ++ [z + 128, 0] ∧ ∀ x ∈ L, x < 256 := by
  induction n using Nat.strongRecOn with
  | ind n ih =>
    by_cases hn : n < 128
    · exact ⟨[], n, by rw [sev_small hn]; rfl, hn, by rw [lng_small hn]; rfl, by simp⟩
    · obtain ⟨L, z, h1, h2, h3, h4⟩ := ih (n / 128) (by omega)
      refine ⟨(n % 128 + 128) :: L, z, by rw [sev_big hn, h1]; rfl, h2, by rw [lng_big hn, h3]; rfl, fun x hx => ?_⟩
      rcases List.mem_cons.1 hx with rfl | hx
      · omega
      · exact h4 x hx
theorem sev_bytes (n : Nat) : ∀ x ∈ sev n, x < 256 := by
  obtain ⟨L, z, h1, h2, _, h4⟩ := sev_last n
  intro x hx
  rw [h1] at hx
  rcases List.mem_append.1 hx with hx | hx
  · exact h4 x hx
  · rw [List.mem_singleton.1 hx]; omega

theorem recFault_lng {k : Nat} (h : k < 2097152) : recFault (lng k) = 4 := by
  have hp : recP (lng k) = .error 4 := by
    unfold recP numP
    rw [numGo_lng 2 0 0 k h]
  obtain ⟨L, z, h1, _, h3, _⟩ := sev_last k
  have hl := sev_le (n := k) (by omega)
  unfold recFault
  rw [if_neg (by rw [h3, List.length_append]; rw [h1, List.length_append] at hl; simp at hl ⊢; omega), hp]
  rfl
theorem rec_sev {k : Nat} (h : 1 ≤ k ∧ k ≤ 1048576) : recFault (sev k) = 0 ∧ recOf (sev k) = (k, []) := by
  have hp : recP (sev k) = .ok ((k, []), []) := by
    unfold recP
    have := num_sev (n := k) (by omega) []
    rw [List.append_nil] at this
    rw [this]
    show (if k = 0 then _ else _) = _
    rw [if_neg (by omega)]
  have hl := sev_le (n := k) (by omega)
  have he : recordErr (k : Int) [] = 0 := by
    unfold recordErr
    rw [show inN (k : Int) = true from decide_eq_true (by omega)]
    simp
    decide +kernel
  have hf : recFault (sev k) = 0 := by
    unfold recFault
    rw [if_neg (by omega), hp]
    show (if (0 : Int) ≠ 0 then _ else recordErr (k : Int) []) = 0
    rw [if_neg (by simp), he]
  refine ⟨hf, ?_⟩
  unfold recOf
  rw [hf, hp, if_neg (by simp)]

end Go.Proofs.YtbobeecagcmclaaDoor
