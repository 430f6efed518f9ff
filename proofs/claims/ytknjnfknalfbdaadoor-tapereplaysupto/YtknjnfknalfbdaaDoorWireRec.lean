/-
  Walks: wire.reader.end, readRecord.
-/
import Derived.Test.YtknjnfknalfbdaaDoorWireOp
namespace Go.Proofs.YtknjnfknalfbdaaDoor
open Go.RowKit Go.Lib

/-- what is wrong at the end -/
def endE (st : Except Int (List Nat)) : Int := match st with
  | .ok [] => 0
  | .ok _ => 4
  | .error e => e

set_option maxRecDepth 100000 in
set_option maxHeartbeats 1000000 in
theorem end_any (w : World) (B b : Nat) (st : Except Int (List Nat)) (h : RdSt w B b st) :
    Calls Tryd.prog 132 #[.pointer (some ⟨b, 0, none⟩)] w fun r w' => r = .returned (.int .i64 (endE st)) ∧ Chg (fun k => k = b) w w' := by
  have key : ∀ (l : List Nat) (er : Int), RdAt w B b l er → Calls Tryd.prog 132 #[.pointer (some ⟨b, 0, none⟩)] w fun r w' => r = .returned (.int .i64 (if l = [] then er else if er = 0 then 4 else er)) ∧ Chg (fun k => k = b) w w' := by
    intro l er h
    obtain ⟨a, c, hblk, _, _⟩ := h.form
    obtain ⟨⟨k0, k1⟩, _, _, _⟩ := rd_cells hblk
    by_cases h0 : l = []
    · subst h0
      rw [if_pos rfl]
      simp only [List.length_nil] at k0
      go_enter Tryd.func132, Tryd.ntmps132
      go_wp2_with fail
      go_ret
      exact ⟨rfl, Chg.refl _ _⟩
    · rw [if_neg h0]
      have cR := refuse_any w B b l er 4 h
      generalize (if er = 0 then (4 : Int) else er) = e2 at *
      have hl : (0 : Int) < (l.length : Int) := by have := List.length_pos_iff.2 h0; omega
      clear hblk
      go_enter Tryd.func132, Tryd.ntmps132
      go_wp2_with fail
      refine cR.mono ?_
      rintro r w1 ⟨rfl, hr, hc⟩
      obtain ⟨a', c', hblk', _, _⟩ := hr.form
      obtain ⟨⟨q0, q1⟩, _, _, _⟩ := rd_cells hblk'
      clear k0 k1 hblk' cR
      go_wp2_with fail
      go_ret
      exact ⟨rfl, hc⟩
  cases h with
  | ok h =>
    rename_i l
    have := key _ _ h
    cases l with
    | nil => exact this
    | cons x l => exact this
  | bad he h =>
    refine (key _ _ h).mono ?_
    rintro r w' ⟨rfl, hc⟩
    refine ⟨?_, hc⟩
    rw [if_neg he, ite_self]
    rfl

/-- P3.6: a record, read -/
def recP (l : List Nat) : Except Int ((Nat × List Part) × List Nat) := match numP l with
  | .ok x => if x.1 = 0 then mapR (opP x.2) (fun ps => (0, ps)) else .ok ((x.1, []), x.2)
  | .error e => .error e
theorem rec_cells {w : World} {b : Nat} {x y : Value} (h : w.heap[b]? = some (.cells #[x, y] 74 (0, 0))) : (w.cell? ⟨b, 0, none⟩ = some x ∧ w.cell? ⟨b, 1, none⟩ = some y) ∧ b < w.heap.size ∧ w.frozen? ⟨b, 0, none⟩ = false ∧ w.frozen? ⟨b, 1, none⟩ = false :=
  ⟨⟨by rw [cell_of_row _ _ _ _ _ _ h]; rfl, by rw [cell_of_row _ _ _ _ _ _ h]; rfl⟩, (Array.getElem?_eq_some_iff.1 h).1, by simp [World.frozen?, h], by simp [World.frozen?, h]⟩
theorem rec_store {w : World} {k : Nat} {x y x' y' : Value} (h : w.heap[k]? = some (.cells #[x', y'] 74 (0, 0))) :
    ((w.setCell ⟨k, 0, none⟩ x).setCell ⟨k, 1, none⟩ y).heap[k]? = some (.cells #[x, y] 74 (0, 0)) ∧ Chg (fun i => i = k) w ((w.setCell ⟨k, 0, none⟩ x).setCell ⟨k, 1, none⟩ y) := by
  have s1 : (w.setCell ⟨k, 0, none⟩ x).heap[k]? = some (.cells #[x, y'] 74 (0, 0)) := by rw [heap_setCell_same w k 0 _ _ _ h]; rfl
  exact ⟨by rw [heap_setCell_same _ k 1 _ _ _ s1]; rfl, ((Chg.refl (fun i => i = k) w).setCell (p := ⟨k, 0, none⟩) rfl _).setCell (p := ⟨k, 1, none⟩) rfl _⟩

set_option maxRecDepth 100000 in
set_option maxHeartbeats 2000000 in
theorem readRecord_any (w : World) (B b : Nat) (st : Except Int (List Nat)) (h : RdSt w B b st) :
    Calls Tryd.prog 121 #[.pointer (some ⟨b, 0, none⟩)] w fun r w' => ∃ (e : Nat) (v : Value) (ps : List Part), r = .returned (.agg #[.int .i64 (e : Int), v]) ∧ w'.ownsRow w.heap.size 33 3 v ps.length (partCells ps) ∧ RdSt w' B b (rest (andR st recP)) ∧ (∀ x, andR st recP = .ok x → x.1 = (e, ps)) ∧ e < 268435456 ∧ ps.length < 268435456 ∧ (∀ p ∈ ps, PartOk 1000000 p) ∧ Chg (fun k => k = b) w w' := by
  have hb := h.base
  have hc0 : Chg (fun k => k = b) w (w.alloc (.cells #[.int .i64 0, .slice none 0 0] 74)) := (Chg.refl _ _).alloc _
  have hr0 := heap_alloc_new w (.cells #[.int .i64 0, .slice none 0 0] 74)
  have cN := number_any _ B b st (h.chg ((Chg.refl (fun _ => False) w).alloc (.cells #[.int .i64 0, .slice none 0 0] 74)) (fun _ h => h.elim))
  obtain ⟨R2, hR2⟩ : ∃ R2, R2 = andR st recP := ⟨_, rfl⟩
  rw [← hR2]
  have HK : Hid (R2 = match andR st numP with | .ok x => if x.1 = 0 then mapR (opP x.2) (fun ps => (0, ps)) else .ok ((x.1, []), x.2) | .error e => .error e) := hR2.trans (by cases st <;> rfl)
  clear hR2
  generalize andR st numP = R at *
  go_enter Tryd.func121, Tryd.ntmps121
  go_wp2_with fail
  refine cN.mono ?_
  rintro r w1 ⟨n, rfl, hn, hst, hx, hc1⟩
  clear cN
  have hres := hc1.row hr0 (by omega)
  replace hc1 := hc0.trans hc1 (fun _ _ h => h)
  have hz1 := hc1.size
  have hrl := (Array.getElem?_eq_some_iff.1 hres).1
  clear hr0 hc0 h
  have hp := heap_alloc_new w1 (.cells #[.int .i64 (n : Int), .slice none 0 0] 74)
  have hres1 := row_old hres (.cells #[.int .i64 (n : Int), .slice none 0 0] 74)
  have hca : Chg (fun k => k = b) w1 (w1.alloc (.cells #[.int .i64 (n : Int), .slice none 0 0] 74)) := (Chg.refl _ _).alloc _
  have hst1 := hst.chg ((Chg.refl (fun _ => False) w1).alloc (.cells #[.int .i64 (n : Int), .slice none 0 0] 74)) (fun _ h => h.elim)
  have hne : w.heap.size ≠ w1.heap.size := by omega
  by_cases h2 : n = 0
  · subst h2
    have cT := rop_any _ B b _ hst1
    have HS : Hid (R2 = mapR (andR (rest R) opP) (fun ps => (0, ps))) := by
      show _ = _
      rw [HK.out]
      cases R with
      | error e => rfl
      | ok x =>
        show (if x.1 = 0 then mapR (opP x.2) (fun ps => (0, ps)) else .ok ((x.1, []), x.2)) = mapR (opP x.2) (fun ps => (0, ps))
        rw [if_pos (hx x rfl)]
    clear HK
    generalize andR (rest R) opP = T at *
    go_wp2_with fail
    refine cT.mono ?_
    rintro r w2 ⟨v, ps, rfl, hown2, hst2, hx2, hl2, hk2, hc2⟩
    obtain ⟨va, vc, rfl⟩ := own_form hown2
    have hp2 := hc2.row hp (by omega)
    have hres2 := hc2.row hres1 (by omega)
    have hcc := hc1.trans (hca.trans hc2 (fun _ _ h => h)) (fun _ _ h => h)
    have hsp : (w2.setCell ⟨w1.heap.size, 1, none⟩ (.slice va ps.length vc)).heap[w1.heap.size]? = some (.cells #[.int .i64 ((0 : Nat) : Int), .slice va ps.length vc] 74 (0, 0)) := by rw [heap_setCell_same w2 w1.heap.size 1 _ _ _ hp2]; rfl
    have hch3 : Chg (fun k => k = w1.heap.size) w2 (w2.setCell ⟨w1.heap.size, 1, none⟩ (.slice va ps.length vc)) := (Chg.refl (fun k => k = w1.heap.size) w2).setCell (p := ⟨w1.heap.size, 1, none⟩) rfl _
    have hsr := hch3.row hres2 hne
    obtain ⟨⟨p0, p1⟩, pl, pf0, pf1⟩ := rec_cells hp2
    obtain ⟨⟨m0, m1⟩, ml, mf0, mf1⟩ := rec_cells hsp
    obtain ⟨⟨r0, r1⟩, rl, rf0, rf1⟩ := rec_cells hsr
    obtain ⟨hfin, hch4⟩ := rec_store hsr (x := .int .i64 ((0 : Nat) : Int)) (y := .slice va ps.length vc)
    have hown3 : (((w2.setCell ⟨w1.heap.size, 1, none⟩ (.slice va ps.length vc)).setCell ⟨w.heap.size, 0, none⟩ (.int .i64 ((0 : Nat) : Int))).setCell ⟨w.heap.size, 1, none⟩ (.slice va ps.length vc)).ownsRow w.heap.size 33 3 (.slice va ps.length vc) ps.length (partCells ps) := own_base (own_chg (own_chg hown2 hch3 (fun k hk e => row_ne hown2 hp2 (by decide) (by rw [← e]; exact hk.symm))) hch4 (fun k hk e => row_ne (own_chg hown2 hch3 (fun k hk e => row_ne hown2 hp2 (by decide) (by rw [← e]; exact hk.symm))) hsr (by decide) (by rw [← e]; exact hk.symm))) (by simp; omega)
    clear cT hp hres1 hp2 hres2 hres
    generalize hpl : ps.length = pn at *
    have HPL : Hid (ps.length = pn) := hpl
    clear hpl
    go_wp2_with fail
    generalize hW5 : (((w2.setCell ⟨w1.heap.size, 1, none⟩ (.slice va pn vc)).setCell ⟨w.heap.size, 0, none⟩ (.int .i64 0)).setCell ⟨w.heap.size, 1, none⟩ (.slice va pn vc)) = w5 at *
    clear hW5
    obtain ⟨⟨t0, t1⟩, _⟩ := rec_cells hfin
    refine bodyPost_ret (v := .agg #[.int .i64 ((0 : Nat) : Int), .slice va pn vc]) (by simp [results, Tryd.results121, go_sem, t0, t1]) rfl ⟨0, .slice va pn vc, ps, rfl, by rw [HPL.out]; exact hown3, ?_, ?_, by omega, by rw [HPL.out]; exact hl2, hk2, ?_⟩
    · rw [HS.out, rest_map]
      exact (hst2.chg hch3 (fun k hk => by omega)).chg hch4 (fun k hk => by omega)
    · rw [HS.out]
      exact map_ok hx2
    · exact (hcc.trans hch3 (fun i hi h => by omega)).trans hch4 (fun i hi h => by omega)
  · have g2 : ((n : Int) == 0) = false := by simp; omega
    have HS : Hid (R2 = mapR R (fun x => (x, []))) := by
      show _ = _
      rw [HK.out]
      cases R with
      | error e => rfl
      | ok x =>
        show (if x.1 = 0 then mapR (opP x.2) (fun ps => (0, ps)) else .ok ((x.1, []), x.2)) = Except.ok ((x.1, []), x.2)
        rw [if_neg (by rw [hx x rfl]; exact h2)]
    clear HK
    obtain ⟨⟨r0, r1⟩, rl, rf0, rf1⟩ := rec_cells hres
    obtain ⟨hfin1, hch4⟩ := rec_store hres (x := .int .i64 (n : Int)) (y := .slice none 0 0)
    have hfin := row_old hfin1 (.cells #[.int .i64 (n : Int), .slice none 0 0] 74)
    have hst2 := (hst.chg hch4 (fun k hk => by omega)).chg ((Chg.refl (fun _ => False) _).alloc (.cells #[.int .i64 (n : Int), .slice none 0 0] 74)) (fun _ h => h.elim)
    have hcc := (hc1.trans hch4 (fun i hi h => by omega)).alloc (.cells #[.int .i64 (n : Int), .slice none 0 0] 74)
    clear hp hres hres1 hfin1 hch4 hst1 hca
    go_wp2_with fail
    generalize (((w1.setCell ⟨w.heap.size, 0, none⟩ (.int .i64 (n : Int))).setCell ⟨w.heap.size, 1, none⟩ (.slice none 0 0)).alloc (.cells #[.int .i64 (n : Int), .slice none 0 0] 74)) = w5 at *
    obtain ⟨⟨t0, t1⟩, _⟩ := rec_cells hfin
    refine bodyPost_ret (v := .agg #[.int .i64 (n : Int), .slice none 0 0]) (by simp [results, Tryd.results121, go_sem, t0, t1]) rfl ⟨n, .slice none 0 0, [], rfl, World.ownsRow_nil _ _ _ _, ?_, ?_, hn, by simp, by simp, ?_⟩
    · rw [HS.out, rest_map]
      exact hst2
    · rw [HS.out]
      exact map_ok (f := fun x => (x, [])) hx
    · exact hcc

end Go.Proofs.YtknjnfknalfbdaaDoor
