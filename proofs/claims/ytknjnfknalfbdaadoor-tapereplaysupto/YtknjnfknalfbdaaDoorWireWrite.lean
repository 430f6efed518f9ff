/-
  Walks: wire.writer: number, text.
-/
import Derived.Test.YtknjnfknalfbdaaDoorPenMem
import Derived.Test.YtknjnfknalfbdaaDoorWireText
import Derived.OwnWalk
namespace Go.Proofs.YtknjnfknalfbdaaDoor
open Go.RowKit Go.Lib

/-- bytes as cells -/
def octs (l : List Nat) : List Value := l.map fun n : Nat => .int .u8 (n : Int)
theorem octs_append (a b : List Nat) : octs (a ++ b) = octs a ++ octs b := List.map_append
/-- a writer: what is written -/
structure WrAt (w : World) (B b : Nat) (wv : Value) (l : List Nat) : Prop where
  base : B ≤ b
  blk : w.heap[b]? = some (.cells #[wv] 134 (0, 0))
  own : w.ownsRow B 5 1 wv l.length (octs l)
theorem wr_cells {w : World} {b : Nat} {wv : Value} (h : w.heap[b]? = some (.cells #[wv] 134 (0, 0))) : w.cell? ⟨b, 0, none⟩ = some wv ∧ b < w.heap.size ∧ w.frozen? ⟨b, 0, none⟩ = false :=
  ⟨by rw [cell_of_row _ _ _ _ _ _ h]; rfl, (Array.getElem?_eq_some_iff.1 h).1, by simp [World.frozen?, h]⟩
theorem WrAt.cells {w : World} {B b : Nat} {wv : Value} {l : List Nat} (h : WrAt w B b wv l) : w.cell? ⟨b, 0, none⟩ = some wv ∧ b < w.heap.size ∧ w.frozen? ⟨b, 0, none⟩ = false :=
  ⟨by rw [cell_of_row _ _ _ _ _ _ h.blk]; rfl, (Array.getElem?_eq_some_iff.1 h.blk).1, by simp [World.frozen?, h.blk]⟩
theorem WrAt.below {w w' : World} {B b : Nat} {wv : Value} {l : List Nat} (h : WrAt w B b wv l) (hb : Below w.heap.size w w') : WrAt w' B b wv l :=
  ⟨h.base, (hb.block _ (Array.getElem?_eq_some_iff.1 h.blk).1).trans h.blk, own_below h.own hb⟩

/-- what a writing changes: the writer, and its own row -/
structure WrStep (w w' : World) (b : Nat) (wv wv' : Value) : Prop where
  chg : Chg (fun k => k = b ∨ wv.ownBlock = some k) w w'
  mv : ∀ k, wv'.ownBlock = some k → k < w.heap.size → wv.ownBlock = some k
theorem WrStep.refl (w : World) (b : Nat) (wv : Value) : WrStep w w b wv wv := ⟨Chg.refl _ _, fun _ h _ => h⟩
theorem WrStep.trans {w w' w'' : World} {b : Nat} {wv wv' wv'' : Value} (h : WrStep w w' b wv wv') (k : WrStep w' w'' b wv' wv'') : WrStep w w'' b wv wv'' :=
  ⟨h.chg.trans k.chg (fun i hi e => e.elim .inl (fun e => .inr (h.mv i e hi))), fun i e hi => h.mv i (k.mv i e (Nat.lt_of_lt_of_le hi h.chg.size)) hi⟩
theorem WrStep.below {w w' : World} {B b : Nat} {wv wv' : Value} {l : List Nat} (h : WrStep w w' b wv wv') (hw : WrAt w B b wv l) (hB : B ≤ w.heap.size) : Below B w w' :=
  h.chg.below (fun k e => e.elim (fun e => by have := hw.base; omega) (fun e => (hw.own.lt k e).1)) hB
theorem WrStep.alloc {w w' : World} {b : Nat} {wv wv' : Value} {o : Obj} (h : WrStep (w.alloc o) w' b wv wv') : WrStep w w' b wv wv' :=
  ⟨((Chg.refl _ w).alloc o).trans h.chg (fun _ _ e => e), fun k e hk => h.mv k e (by simp; omega)⟩

/-- P3.4: a number's digits -/
def sev (n : Nat) : List Nat := if h : n < 128 then [n] else (n % 128 + 128) :: sev (n / 128)
termination_by n
decreasing_by omega
theorem sev_small {n : Nat} (h : n < 128) : sev n = [n] := by rw [sev, dif_pos h]
theorem sev_big {n : Nat} (h : ¬ n < 128) : sev n = (n % 128 + 128) :: sev (n / 128) := by rw [sev, dif_neg h]

theorem own_setW {w : World} {B : Nat} {e T : TypeId} {size : Nat} {v : Value} {n : Nat} {xs : List Value} {b : Nat} {cs : Array Value} {fr : Nat × Nat} (h : w.ownsRow B e size v n xs) (hb : w.heap[b]? = some (.cells cs T fr)) (hT : T ≠ e) (j : Nat) (u : Value) : (w.setCell ⟨b, j, none⟩ u).ownsRow B e size v n xs :=
  own_chg h ((Chg.refl (fun k => k = b) w).setCell (p := ⟨b, j, none⟩) rfl u) (fun k hk e' => row_ne h hb hT (by rw [← e']; exact hk.symm))
theorem sev_len : ∀ (k n : Nat), n < 128 ^ (k + 1) → (sev n).length ≤ k + 1
  | 0, n, h => by rw [sev_small (by simpa using h)]; simp
  | k + 1, n, h => by
    by_cases hn : n < 128
    · rw [sev_small hn]; simp
    · rw [sev_big hn, List.length_cons]
      have := sev_len k (n / 128) (by rw [Nat.pow_succ] at h; exact Nat.div_lt_of_lt_mul (by rw [Nat.mul_comm]; exact h))
      omega
theorem sev_le {n : Nat} (h : n < 268435456) : (sev n).length ≤ 4 := sev_len 3 n h
/-- one byte more -/
theorem wr_append {w w1 : World} {B b : Nat} {wv : Value} {l : List Nat} {x : Nat} {g cap : Nat} (h : WrAt w B b wv l) (hown : w1.ownsRow B 5 1 (.slice (some ⟨g, 0, none⟩) (l.length + 1) cap) (l.length + 1) (octs l ++ [.int .u8 (x : Int)])) (hgr : (w.alloc (.cells #[.int .u8 (x : Int)] 5)).grownBy w1 wv.ownBlock) (hat : wv.ownBlock = some g ∨ g = (w.alloc (.cells #[.int .u8 (x : Int)] 5)).heap.size) :
    w1.heap[b]? = some (.cells #[wv] 134 (0, 0)) ∧ WrAt (w1.setCell ⟨b, 0, none⟩ (.slice (some ⟨g, 0, none⟩) (l.length + 1) cap)) B b (.slice (some ⟨g, 0, none⟩) (l.length + 1) cap) (l ++ [x]) ∧ WrStep w (w1.setCell ⟨b, 0, none⟩ (.slice (some ⟨g, 0, none⟩) (l.length + 1) cap)) b wv (.slice (some ⟨g, 0, none⟩) (l.length + 1) cap) := by
  have ha : (w.alloc (.cells #[.int .u8 (x : Int)] 5)).heap[b]? = some (.cells #[wv] 134 (0, 0)) := row_old h.blk _
  have blk1 := row_kept (h.own.alloc (.cells #[.int .u8 (x : Int)] 5)) ha (by decide) hgr
  have hc1 : Chg (fun k => k = b ∨ wv.ownBlock = some k) w w1 := ((Chg.refl _ w).alloc _).grown hgr (fun k _ e => .inr e)
  refine ⟨blk1, ⟨h.base, by rw [heap_setCell_same w1 b 0 _ _ _ blk1]; rfl, ?_⟩, hc1.setCell (p := ⟨b, 0, none⟩) (.inl rfl) _, fun k e hk => ?_⟩
  · have := own_setW hown blk1 (by decide) 0 (.slice (some ⟨g, 0, none⟩) (l.length + 1) cap)
    rw [List.length_append, octs_append]
    exact this
  · simp only [Value.ownBlock, Option.some.injEq] at e
    subst e
    rcases hat with hat | hat
    · exact hat
    · simp at hat; omega

set_option maxRecDepth 100000 in
set_option maxHeartbeats 2000000 in
theorem wnumber_any (n : Nat) (w : World) (B b : Nat) (wv : Value) (l : List Nat) (h : WrAt w B b wv l) (hB : B ≤ w.heap.size) (hn : n < 268435456) (hl : l.length ≤ 10000000000000) :
    Calls Tryd.prog 103 #[.pointer (some ⟨b, 0, none⟩), .int .i64 (n : Int)] w fun r w' => r = .returned (.tuple #[]) ∧ (∃ wv', WrAt w' B b wv' (l ++ sev n) ∧ WrStep w w' b wv wv') := by
  obtain ⟨i0, hi, hz0, hz1, hz2⟩ := info_parts info_u8
  obtain ⟨R, hR⟩ : ∃ R, R = l ++ sev n := ⟨_, rfl⟩
  rw [← hR]
  have HR : Hid (R = l ++ sev n) := hR
  clear hR
  go_enter Tryd.func103, Tryd.ntmps103
  go_wp2_with fail
  go_loopw [1] (fun nv wr => ∃ (m : Nat) (wv' : Value) (l' : List Nat), nv = .int .i64 (m : Int) ∧ m ≤ n ∧ l'.length + m ≤ 10000000000000 + n ∧ Hid (R = l' ++ sev m) ∧ WrAt wr B b wv' l' ∧ WrStep w wr b wv wv') (fun nv _ => (RowKit.intOf nv).toNat)
  case atStart => exact ⟨n, wv, l, rfl, Nat.le_refl _, by omega, HR, h, WrStep.refl _ _ _⟩
  case round =>
    obtain ⟨m, wv', l', rfl, hmn, hlm, HM, hwr, hbr⟩ := hrel
    obtain ⟨c0, hbl, f0⟩ := hwr.cells
    have hz := hbr.chg.size
    obtain ⟨oa, oc, rfl⟩ := own_form hwr.own
    by_cases hm : m < 128
    · have hmz : ¬ (128 : Int) ≤ (m : Int) := by omega
      go_wp2_with (at_builtin; refine wpList_append_lies _ rfl _ _ 75 rfl B 5 i0 _ 1 1 Tryd.underlying75 hi hz0 hz1 hz2 rfl (by decide) (.slice oa l'.length oc) l'.length (octs l') rfl (hwr.own.alloc _) ⟨wr.heap.size, 0, none⟩ 1 1 [.int .u8 (m : Int)] rfl rfl (World.news_of_block (cs := #[.int .u8 (m : Int)]) (t := 5) (fr := (0, 0)) (heap_alloc_new wr _)) (by simp [Value.oneCell']) (by omega) (by unfold maxLen; omega) (by omega) (by simp; omega) _ rfl ?_; intro g1 cap1 w4 hown4 hgr4 hat4 hlt4; obtain ⟨blk4, hW, hB4⟩ := wr_append hwr hown4 hgr4 hat4; obtain ⟨d0, dl, df⟩ := wr_cells blk4)
      go_end0
      exact ⟨rfl, _, by rw [HM.out, sev_small hm]; exact hW, hbr.trans hB4⟩
    · have hmz : (128 : Int) ≤ (m : Int) := by omega
      go_wp2_with (at_builtin; refine wpList_append_lies _ rfl _ _ 75 rfl B 5 i0 _ 1 1 Tryd.underlying75 hi hz0 hz1 hz2 rfl (by decide) (.slice oa l'.length oc) l'.length (octs l') rfl (hwr.own.alloc _) ⟨wr.heap.size, 0, none⟩ 1 1 [.int .u8 ((m : Int) % 128 + 128)] rfl rfl (World.news_of_block (cs := #[.int .u8 ((m : Int) % 128 + 128)]) (t := 5) (fr := (0, 0)) (heap_alloc_new wr _)) (by simp [Value.oneCell']) (by omega) (by unfold maxLen; omega) (by omega) (by simp; omega) _ rfl ?_; intro g1 cap1 w4 hown4 hgr4 hat4 hlt4; rw [show ((m : Int) % 128 + 128) = ((m % 128 + 128 : Nat) : Int) from by omega] at hown4 hgr4 hat4; obtain ⟨blk4, hW, hB4⟩ := wr_append hwr hown4 hgr4 hat4; obtain ⟨d0, dl, df⟩ := wr_cells blk4)
      go_roundw
      case rel => exact ⟨m / 128, _, l' ++ [m % 128 + 128], val_eq (by omega), by omega, by rw [List.length_append]; simp; omega, by show _ = _; rw [HM.out, sev_big hm, List.append_assoc]; rfl, hW, hbr.trans hB4⟩
      case measure => simp [RowKit.intOf]; omega

/-- a text's bytes -/
def sbytes (s : ByteArray) : List Nat := s.data.toList.map fun x => x.toNat
theorem sbytes_length (s : ByteArray) : (sbytes s).length = s.size := by unfold sbytes; rw [List.length_map, Array.length_toList]; rfl
theorem sbytes_cells (s : ByteArray) : strCells s = octs (sbytes s) := by
  unfold strCells octs sbytes
  rw [List.map_map]
  rfl

set_option maxRecDepth 100000 in
set_option maxHeartbeats 2000000 in
theorem wtext_any (s : ByteArray) (w : World) (B b : Nat) (wv : Value) (l : List Nat) (h : WrAt w B b wv l) (hB : B ≤ w.heap.size) (hn : s.size < 268435456) (hl : l.length ≤ 1000000000000) :
    Calls Tryd.prog 119 #[.pointer (some ⟨b, 0, none⟩), .string s] w fun r w' => r = .returned (.tuple #[]) ∧ (∃ wv', WrAt w' B b wv' (l ++ sev s.size ++ sbytes s) ∧ WrStep w w' b wv wv') := by
  obtain ⟨i0, hi, hz0, hz1, hz2⟩ := info_parts info_u8
  have cN := wnumber_any s.size w B b wv l h hB hn (by omega)
  have hsl := sev_le hn
  obtain ⟨R, hR⟩ : ∃ R, R = l ++ sev s.size := ⟨_, rfl⟩
  rw [← hR] at cN ⊢
  have hrl : R.length ≤ 1000000000004 := by rw [hR, List.length_append]; omega
  clear hR hsl
  go_enter Tryd.func119, Tryd.ntmps119
  go_wp2_with fail
  refine cN.mono ?_
  rintro r w1 ⟨rfl, wv1, hw1, hb1⟩
  obtain ⟨c0, hbl, f0⟩ := hw1.cells
  have hz := hb1.chg.size
  obtain ⟨oa, oc, rfl⟩ := own_form hw1.own
  clear cN
  go_wp2_with (at_builtin; refine wpList_append_string_lies w1 rfl _ _ 75 9 rfl B 5 i0 Tryd.underlying75 Tryd.underlying9 hi hz0 hz1 hz2 (.slice oa R.length oc) R.length (octs R) rfl hw1.own s rfl (by unfold maxLen; omega) (by omega) (by omega) ?_; intro iv' w2 hown2 hgr2 hmv2; obtain ⟨ia, ic, rfl⟩ := own_form hown2; have blk2 := row_kept hw1.own hw1.blk (by decide) hgr2; obtain ⟨d0, dl, df⟩ := wr_cells blk2)
  go_end0
  refine ⟨rfl, _, ⟨hw1.base, by rw [heap_setCell_same w2 b 0 _ _ _ blk2]; rfl, ?_⟩, hb1.trans ⟨((Chg.refl _ w1).grown hgr2 (fun k _ e => .inr e)).setCell (p := ⟨b, 0, none⟩) (.inl rfl) _, fun k e hk => ?_⟩⟩
  · have := own_setW hown2 blk2 (by decide) 0 (.slice ia (R.length + s.size) ic)
    rw [List.length_append, sbytes_length, octs_append, ← sbytes_cells]
    exact this
  · rcases hmv2 k e with h | h
    · exact h
    · omega

end Go.Proofs.YtknjnfknalfbdaaDoor
