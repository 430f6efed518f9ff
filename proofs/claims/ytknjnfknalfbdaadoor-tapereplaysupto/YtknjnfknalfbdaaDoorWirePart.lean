/-
  Walks: wire.reader: part, op.
-/
import Derived.Test.YtknjnfknalfbdaaDoorWireText
import Derived.Test.YtknjnfknalfbdaaDoorEdgeMem
import Derived.OwnWalk
namespace Go.Proofs.YtknjnfknalfbdaaDoor
open Go.RowKit Go.Lib

def mapR {α β : Type} (r : Except Int (α × List Nat)) (f : α → β) : Except Int (β × List Nat) := match r with
  | .ok x => .ok (f x.1, x.2)
  | .error e => .error e
theorem rest_map {α β : Type} (r : Except Int (α × List Nat)) (f : α → β) : rest (mapR r f) = rest r := by cases r <;> rfl
theorem map_ok {α β : Type} {r : Except Int (α × List Nat)} {f : α → β} {v : α} (h : ∀ x, r = .ok x → x.1 = v) : ∀ x, mapR r f = .ok x → x.1 = f v := by
  cases r with
  | error e => intro x hx; cases hx
  | ok y => intro x hx; cases hx; rw [h y rfl]
/-- P3.4: a part, read -/
def partP (l : List Nat) : Except Int (Part × List Nat) := match numP l with
  | .ok x => if x.1 = 2 then mapR (textP x.2) (fun s => ⟨2, 0, s⟩) else mapR (numP x.2) (fun n => ⟨(x.1 : Int), (n : Int), ByteArray.empty⟩)
  | .error e => .error e

theorem part_cells {w : World} {b : Nat} {x y z : Value} (h : w.heap[b]? = some (.cells #[x, y, z] 33 (0, 0))) : (w.cell? ⟨b, 0, none⟩ = some x ∧ w.cell? ⟨b, 1, none⟩ = some y ∧ w.cell? ⟨b, 2, none⟩ = some z) ∧ b < w.heap.size ∧ w.frozen? ⟨b, 0, none⟩ = false ∧ w.frozen? ⟨b, 1, none⟩ = false ∧ w.frozen? ⟨b, 2, none⟩ = false :=
  ⟨⟨by rw [cell_of_row _ _ _ _ _ _ h]; rfl, by rw [cell_of_row _ _ _ _ _ _ h]; rfl, by rw [cell_of_row _ _ _ _ _ _ h]; rfl⟩, (Array.getElem?_eq_some_iff.1 h).1, by simp [World.frozen?, h], by simp [World.frozen?, h], by simp [World.frozen?, h]⟩
theorem RdSt.chg {F : Nat → Prop} {w w' : World} {B b : Nat} {st : Except Int (List Nat)} (h : RdSt w B b st) (hc : Chg F w w') (hF : ∀ k, F k → B ≤ k) : RdSt w' B b st := by
  cases h with
  | ok h => exact .ok (h.chg hc hF)
  | bad he h => exact .bad he (h.chg hc hF)
theorem RdSt.base {w : World} {B b : Nat} {st : Except Int (List Nat)} (h : RdSt w B b st) : b < B ∧ B ≤ w.heap.size := by
  cases h with
  | ok h => exact h.base
  | bad _ h => exact h.base

theorem Chg.row {F : Nat → Prop} {w w' : World} {k : Nat} {o : Obj} (hc : Chg F w w') (h : w.heap[k]? = some o) (hk : ¬ F k) : w'.heap[k]? = some o := (hc.block k (Array.getElem?_eq_some_iff.1 h).1 hk).trans h
/-- a part that is laid into a result -/
theorem part_store {w : World} {k : Nat} {x y z x' y' z' : Value} (h : w.heap[k]? = some (.cells #[x', y', z'] 33 (0, 0))) :
    (((w.setCell ⟨k, 0, none⟩ x).setCell ⟨k, 1, none⟩ y).setCell ⟨k, 2, none⟩ z).heap[k]? = some (.cells #[x, y, z] 33 (0, 0)) ∧ Chg (fun i => i = k) w (((w.setCell ⟨k, 0, none⟩ x).setCell ⟨k, 1, none⟩ y).setCell ⟨k, 2, none⟩ z) := by
  have s1 : (w.setCell ⟨k, 0, none⟩ x).heap[k]? = some (.cells #[x, y', z'] 33 (0, 0)) := by rw [heap_setCell_same w k 0 _ _ _ h]; rfl
  have s2 : ((w.setCell ⟨k, 0, none⟩ x).setCell ⟨k, 1, none⟩ y).heap[k]? = some (.cells #[x, y, z'] 33 (0, 0)) := by rw [heap_setCell_same _ k 1 _ _ _ s1]; rfl
  exact ⟨by rw [heap_setCell_same _ k 2 _ _ _ s2]; rfl, (((Chg.refl (fun i => i = k) w).setCell (p := ⟨k, 0, none⟩) rfl _).setCell (p := ⟨k, 1, none⟩) rfl _).setCell (p := ⟨k, 2, none⟩) rfl _⟩

set_option maxRecDepth 100000 in
set_option maxHeartbeats 2000000 in
theorem part_any (w : World) (B b : Nat) (st : Except Int (List Nat)) (h : RdSt w B b st) :
    Calls Tryd.prog 140 #[.pointer (some ⟨b, 0, none⟩)] w fun r w' => ∃ p : Part, r = .returned (.agg #[.int .i64 p.kind, .int .i64 p.n, .string p.text]) ∧ RdSt w' B b (rest (andR st partP)) ∧ (∀ x, andR st partP = .ok x → x.1 = p) ∧ PartOk 1000000 p ∧ Chg (fun k => k = b) w w' := by
  have hb := h.base
  have hc0 : Chg (fun k => k = b) w (w.alloc (.cells #[.int .i64 0, .int .i64 0, .string ⟨#[]⟩] 33)) := (Chg.refl _ _).alloc _
  have hr0 := heap_alloc_new w (.cells #[.int .i64 0, .int .i64 0, .string ⟨#[]⟩] 33)
  have cN := number_any _ B b st (h.chg ((Chg.refl (fun _ => False) w).alloc (.cells #[.int .i64 0, .int .i64 0, .string ⟨#[]⟩] 33)) (fun _ h => h.elim))
  obtain ⟨R2, hR2⟩ : ∃ R2, R2 = andR st partP := ⟨_, rfl⟩
  rw [← hR2]
  have HK : Hid (R2 = match andR st numP with | .ok x => if x.1 = 2 then mapR (textP x.2) (fun s => ⟨2, 0, s⟩) else mapR (numP x.2) (fun n => ⟨(x.1 : Int), (n : Int), ByteArray.empty⟩) | .error e => .error e) := hR2.trans (by cases st <;> rfl)
  clear hR2
  generalize andR st numP = R at *
  go_enter Tryd.func140, Tryd.ntmps140
  go_wp2_with fail
  refine cN.mono ?_
  rintro r w1 ⟨n, rfl, hn, hst, hx, hc1⟩
  clear cN
  have hres := hc1.row hr0 (by omega)
  replace hc1 := hc0.trans hc1 (fun _ _ h => h)
  have hz1 := hc1.size
  have hrl := (Array.getElem?_eq_some_iff.1 hres).1
  clear hr0 hc0 h
  by_cases h2 : n = 2
  · subst h2
    have cT := rtext_any _ B b _ (hst.chg ((Chg.refl (fun _ => False) w1).alloc (.cells #[.int .i64 2, .int .i64 0, .string ⟨#[]⟩] 33)) (fun _ h => h.elim))
    have hp := heap_alloc_new w1 (.cells #[.int .i64 2, .int .i64 0, .string ⟨#[]⟩] 33)
    have hres1 := row_old hres (.cells #[.int .i64 2, .int .i64 0, .string ⟨#[]⟩] 33)
    have hca : Chg (fun k => k = b) w1 (w1.alloc (.cells #[.int .i64 2, .int .i64 0, .string ⟨#[]⟩] 33)) := (Chg.refl _ _).alloc _
    have HS : Hid (R2 = mapR (andR (rest R) textP) (fun s => ⟨2, 0, s⟩)) := by
      show _ = _
      rw [HK.out]
      cases R with
      | error e => rfl
      | ok x => rw [show (match Except.ok x with | .ok x => if x.1 = 2 then mapR (textP x.2) (fun s => ⟨2, 0, s⟩) else mapR (numP x.2) (fun n => ⟨(x.1 : Int), (n : Int), ByteArray.empty⟩) | .error e => .error e : Except Int (Part × List Nat)) = if x.1 = 2 then mapR (textP x.2) (fun s => ⟨2, 0, s⟩) else mapR (numP x.2) (fun n => ⟨(x.1 : Int), (n : Int), ByteArray.empty⟩) from rfl, if_pos (hx x rfl)]; rfl
    clear HK
    generalize andR (rest R) textP = T at *
    go_wp2_with fail
    refine cT.mono ?_
    rintro r w2 ⟨s, rfl, hst2, hx2, hs, hc2⟩
    have hp2 := hc2.row hp (by omega)
    have hres2 := hc2.row hres1 (by omega)
    have hcc := hc1.trans (hca.trans hc2 (fun _ _ h => h)) (fun _ _ h => h)
    have hz2 := hcc.size
    have hne : w.heap.size ≠ w1.heap.size := by omega
    have hsp : (w2.setCell ⟨w1.heap.size, 2, none⟩ (.string s)).heap[w1.heap.size]? = some (.cells #[.int .i64 2, .int .i64 0, .string s] 33 (0, 0)) := by rw [heap_setCell_same w2 w1.heap.size 2 _ _ _ hp2]; rfl
    have hch3 : Chg (fun k => k = w1.heap.size) w2 (w2.setCell ⟨w1.heap.size, 2, none⟩ (.string s)) := (Chg.refl (fun k => k = w1.heap.size) w2).setCell (p := ⟨w1.heap.size, 2, none⟩) rfl _
    have hsr := hch3.row hres2 hne
    obtain ⟨⟨p0, p1, p2⟩, pl, pf0, pf1, pf2⟩ := part_cells hp2
    obtain ⟨⟨m0, m1, m2⟩, ml, mf0, mf1, mf2⟩ := part_cells hsp
    obtain ⟨⟨r0, r1, r2⟩, rl, rf0, rf1, rf2⟩ := part_cells hsr
    clear cT hp hres1 hp2 hres2 hres
    go_wp2_with fail
    obtain ⟨hfin, hch4⟩ := part_store hsr (x := .int .i64 2) (y := .int .i64 0) (z := .string s)
    generalize hW5 : ((((w2.setCell ⟨w1.heap.size, 2, none⟩ (.string s)).setCell ⟨w.heap.size, 0, none⟩ (.int .i64 2)).setCell ⟨w.heap.size, 1, none⟩ (.int .i64 0)).setCell ⟨w.heap.size, 2, none⟩ (.string s)) = w5 at *
    obtain ⟨⟨t0, t1, t2⟩, _⟩ := part_cells hfin
    refine bodyPost_ret (v := .agg #[.int .i64 2, .int .i64 0, .string s]) (by simp [results, Tryd.results140, go_sem, t0, t1, t2]) rfl ⟨⟨2, 0, s⟩, rfl, ?_, ?_, ⟨by simp, by simp, hs⟩, ?_⟩
    · rw [HS.out, rest_map]
      exact (hst2.chg hch3 (fun k hk => by omega)).chg hch4 (fun k hk => by omega)
    · rw [HS.out]
      exact map_ok hx2
    · exact (hcc.trans hch3 (fun i hi h => by omega)).trans hch4 (fun i hi h => by omega)
  · have g2 : ((n : Int) == 2) = false := by simp; omega
    have cT := number_any _ B b _ (hst.chg ((Chg.refl (fun _ => False) w1).alloc (.cells #[.int .i64 (n : Int), .int .i64 0, .string ⟨#[]⟩] 33)) (fun _ h => h.elim))
    have hp := heap_alloc_new w1 (.cells #[.int .i64 (n : Int), .int .i64 0, .string ⟨#[]⟩] 33)
    have hres1 := row_old hres (.cells #[.int .i64 (n : Int), .int .i64 0, .string ⟨#[]⟩] 33)
    have hca : Chg (fun k => k = b) w1 (w1.alloc (.cells #[.int .i64 (n : Int), .int .i64 0, .string ⟨#[]⟩] 33)) := (Chg.refl _ _).alloc _
    have HS : Hid (R2 = mapR (andR (rest R) numP) (fun m => ⟨(n : Int), (m : Int), ByteArray.empty⟩)) := by
      show _ = _
      rw [HK.out]
      cases R with
      | error e => rfl
      | ok x => rw [show (match Except.ok x with | .ok x => if x.1 = 2 then mapR (textP x.2) (fun s => ⟨2, 0, s⟩) else mapR (numP x.2) (fun n => ⟨(x.1 : Int), (n : Int), ByteArray.empty⟩) | .error e => .error e : Except Int (Part × List Nat)) = if x.1 = 2 then mapR (textP x.2) (fun s => ⟨2, 0, s⟩) else mapR (numP x.2) (fun n => ⟨(x.1 : Int), (n : Int), ByteArray.empty⟩) from rfl, if_neg (by rw [hx x rfl]; exact h2), hx x rfl]; rfl
    clear HK
    generalize andR (rest R) numP = T at *
    go_wp2_with fail
    refine cT.mono ?_
    rintro r w2 ⟨m, rfl, hm, hst2, hx2, hc2⟩
    have hp2 := hc2.row hp (by omega)
    have hres2 := hc2.row hres1 (by omega)
    have hcc := hc1.trans (hca.trans hc2 (fun _ _ h => h)) (fun _ _ h => h)
    have hz2 := hcc.size
    have hne : w.heap.size ≠ w1.heap.size := by omega
    have hsp : (w2.setCell ⟨w1.heap.size, 1, none⟩ (.int .i64 (m : Int))).heap[w1.heap.size]? = some (.cells #[.int .i64 (n : Int), .int .i64 (m : Int), .string ⟨#[]⟩] 33 (0, 0)) := by rw [heap_setCell_same w2 w1.heap.size 1 _ _ _ hp2]; rfl
    have hch3 : Chg (fun k => k = w1.heap.size) w2 (w2.setCell ⟨w1.heap.size, 1, none⟩ (.int .i64 (m : Int))) := (Chg.refl (fun k => k = w1.heap.size) w2).setCell (p := ⟨w1.heap.size, 1, none⟩) rfl _
    have hsr := hch3.row hres2 hne
    obtain ⟨⟨p0, p1, p2⟩, pl, pf0, pf1, pf2⟩ := part_cells hp2
    obtain ⟨⟨m0, m1, m2⟩, ml, mf0, mf1, mf2⟩ := part_cells hsp
    obtain ⟨⟨r0, r1, r2⟩, rl, rf0, rf1, rf2⟩ := part_cells hsr
    clear cT hp hres1 hp2 hres2 hres
    go_wp2_with fail
    obtain ⟨hfin, hch4⟩ := part_store hsr (x := .int .i64 (n : Int)) (y := .int .i64 (m : Int)) (z := .string ⟨#[]⟩)
    generalize hW5 : ((((w2.setCell ⟨w1.heap.size, 1, none⟩ (.int .i64 (m : Int))).setCell ⟨w.heap.size, 0, none⟩ (.int .i64 (n : Int))).setCell ⟨w.heap.size, 1, none⟩ (.int .i64 (m : Int))).setCell ⟨w.heap.size, 2, none⟩ (.string ⟨#[]⟩)) = w5 at *
    obtain ⟨⟨t0, t1, t2⟩, _⟩ := part_cells hfin
    refine bodyPost_ret (v := .agg #[.int .i64 (n : Int), .int .i64 (m : Int), .string ⟨#[]⟩]) (by simp [results, Tryd.results140, go_sem, t0, t1, t2]) rfl ⟨⟨(n : Int), (m : Int), ByteArray.empty⟩, rfl, ?_, ?_, ⟨by simp only; omega, by simp only; omega, by simp⟩, ?_⟩
    · rw [HS.out, rest_map]
      exact (hst2.chg hch3 (fun k hk => by omega)).chg hch4 (fun k hk => by omega)
    · rw [HS.out]
      exact map_ok hx2
    · exact (hcc.trans hch3 (fun i hi h => by omega)).trans hch4 (fun i hi h => by omega)

end Go.Proofs.YtknjnfknalfbdaaDoor
