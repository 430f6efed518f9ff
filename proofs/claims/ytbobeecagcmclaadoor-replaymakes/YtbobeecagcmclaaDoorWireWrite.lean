/-
  Walks: wire.writer: number, text.
-/
import Derived.Test.YtbobeecagcmclaaDoorPenMem
import Derived.Test.YtbobeecagcmclaaDoorWireText
import Derived.OwnWalk
namespace Go.Proofs.YtbobeecagcmclaaDoor
open Go.RowKit Go.Lib

/-- bytes as cells -/
def octs (l : List Nat) : List Value := l.map fun n : Nat => .int .u8 (n : Int)
theorem octs_append (a b : List Nat) : octs (a ++ b) = octs a ++ octs b := List.map_append
/-- what a writing changes: the writer, and its own row -/
structure WrStep (w w' : World) (b : Nat) (wv wv' : Value) : Prop where
  chg : Chg (fun k => k = b ∨ wv.ownBlock = some k) w w'
  mv : ∀ k, wv'.ownBlock = some k → k < w.heap.size → wv.ownBlock = some k
theorem WrStep.refl (w : World) (b : Nat) (wv : Value) : WrStep w w b wv wv := ⟨Chg.refl _ _, fun _ h _ => h⟩
theorem WrStep.trans {w w' w'' : World} {b : Nat} {wv wv' wv'' : Value} (h : WrStep w w' b wv wv') (k : WrStep w' w'' b wv' wv'') : WrStep w w'' b wv wv'' :=
  ⟨h.chg.trans k.chg (fun i hi e => e.elim .inl (fun e => .inr (h.mv i e hi))), fun i e hi => h.mv i (k.mv i e (Nat.lt_of_lt_of_le hi h.chg.size)) hi⟩
theorem WrStep.alloc {w w' : World} {b : Nat} {wv wv' : Value} {o : Obj} (h : WrStep (w.alloc o) w' b wv wv') : WrStep w w' b wv wv' :=
  ⟨((Chg.refl _ w).alloc o).trans h.chg (fun _ _ e => e), fun k e hk => h.mv k e (by simp; omega)⟩

/-- P3.4: a number's digits -/
def sev (n : Nat) : List Nat := if h : n < 128 then [n] else (n % 128 + 128) :: sev (n / 128)
termination_by n
decreasing_by omega
theorem sev_small {n : Nat} (h : n < 128) : sev n = [n] := by rw [sev, dif_pos h]
theorem sev_big {n : Nat} (h : ¬ n < 128) : sev n = (n % 128 + 128) :: sev (n / 128) := by rw [sev, dif_neg h]

theorem own_setW {w : World} {B : Nat} {e T : TypeId} {size : Nat} {v : Value} {n : Nat} {xs : List Value} {b : Nat} {cs : Array Value} {fr : Nat × Nat} (h : w.ownsRow B e size v n xs) (hb : w.heap[b]? = some (.cells cs T fr)) (hT : T ≠ e) (j : Nat) (u : Value) : (w.setCell ⟨b, j, none⟩ u).ownsRow B e size v n xs :=
  own_chg h ((Chg.refl (fun k => k = b) w).setCell (p := ⟨b, j, none⟩) rfl u) (fun k hk e' => row_ne h hb hT (by rw [← e']; exact hk.symm))
theorem sev_len : ∀ (k n : Nat), n < 128 ^ (k + 1) → (sev n).length ≤ k + 1
  | 0, n, h => by rw [sev_small (by simpa using h)]; simp
  | k + 1, n, h => by
    by_cases hn : n < 128
    · rw [sev_small hn]; simp
    · rw [sev_big hn, List.length_cons]
      have := sev_len k (n / 128) (by rw [Nat.pow_succ] at h; exact Nat.div_lt_of_lt_mul (by rw [Nat.mul_comm]; exact h))
      omega
theorem sev_le {n : Nat} (h : n < 268435456) : (sev n).length ≤ 4 := sev_len 3 n h
/-- a text's bytes -/
def sbytes (s : ByteArray) : List Nat := s.data.toList.map fun x => x.toNat
theorem sbytes_length (s : ByteArray) : (sbytes s).length = s.size := by unfold sbytes; rw [List.length_map, Array.length_toList]; rfl
theorem sbytes_bstr {l : List Nat} (h : ∀ x ∈ l, x < 256) : sbytes (bstr l) = l := by
  unfold sbytes bstr
  rw [strOfNums_data, List.map_map, List.map_map]
  conv => rhs; rw [← List.map_id l]
  refine List.map_congr_left fun x hx => ?_
  have := h x hx
  show (UInt8.ofNat ((x : Int)).toNat).toNat = x
  rw [show ((x : Int)).toNat = x by omega, UInt8.toNat_ofNat']
  exact Nat.mod_eq_of_lt this
theorem bstr_sbytes (s : ByteArray) : bstr (sbytes s) = s := by
  have e : (bstr (sbytes s)).data.toList = s.data.toList := by
    unfold bstr sbytes
    rw [strOfNums_data, List.map_map, List.map_map]
    conv => rhs; rw [← List.map_id s.data.toList]
    refine List.map_congr_left fun x _ => ?_
    show UInt8.ofNat ((x.toNat : Int)).toNat = x
    rw [show ((x.toNat : Int)).toNat = x.toNat by omega]
    exact UInt8.ofNat_toNat
  have e2 : (bstr (sbytes s)).data = s.data := Array.toList_inj.1 e
  cases s
  generalize bstr _ = t at *
  cases t
  simpa using e2
theorem sbytes_small (s : ByteArray) : ∀ x ∈ sbytes s, x < 256 := by
  intro x hx
  unfold sbytes at hx
  obtain ⟨y, _, rfl⟩ := List.mem_map.1 hx
  exact y.toNat_lt
theorem sbytes_cells (s : ByteArray) : strCells s = octs (sbytes s) := by
  unfold strCells octs sbytes
  rw [List.map_map]
  rfl

end Go.Proofs.YtbobeecagcmclaaDoor
