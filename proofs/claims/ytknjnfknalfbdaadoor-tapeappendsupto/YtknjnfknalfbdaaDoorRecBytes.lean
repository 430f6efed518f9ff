/-
  Walks: wherryref.RecordBytes; wire.EncodeRecord of what may not be.
-/
import Derived.Test.YtknjnfknalfbdaaDoorOpBytes
import Derived.Test.YtknjnfknalfbdaaDoorWirePacketF
namespace Go.Proofs.YtknjnfknalfbdaaDoor
open Go.RowKit Go.Lib

theorem opW_bound {ps : List Part} (hl : ps.length ≤ 10000) (h : ∀ p ∈ ps, PartW p) : (opW ps).length ≤ 20000000000 := by
  have h1 := flat_bound ps (fun p hp => by
    have hw := h p hp
    unfold partW
    have a1 := sev_le (n := p.kind.toNat) (by have := hw.1; omega)
    have a2 := sev_le (n := p.n.toNat) (by have := hw.2.1; omega)
    have a3 := sev_le (n := p.text.size) (by have := hw.2.2; omega)
    have a4 := hw.2.2
    rw [List.length_append]
    split
    · rw [List.length_append, sbytes_length]; omega
    · omega)
  have h2 := sev_le (n := ps.length) (by omega)
  unfold opW
  rw [List.length_append]
  omega

theorem join2 {w0 wz wy : World} {X Y Q2 : List Nat} (he : Hid (Q2 = X ++ Y)) {az ay : Option Addr} {cz cy : Nat} (hbz : Below w0.heap.size w0 wz) (hx : wz.ownsRow w0.heap.size 5 1 (.slice az X.length cz) X.length (octs X)) (hby : Below wz.heap.size wz wy) (hy : wy.ownsRow wz.heap.size 5 1 (.slice ay Y.length cy) Y.length (octs Y)) (hl : Q2.length ≤ 50000000000) :
    Calls Tryd.prog 82 #[.slice (some ⟨wy.heap.size, 0, none⟩) 2 2] (wy.alloc (.cells #[.slice az X.length cz, .slice ay Y.length cy] 75)) fun r w' => ∃ a c, r = .returned (.slice a Q2.length c) ∧ w'.ownsRow w0.heap.size 5 1 (.slice a Q2.length c) Q2.length (octs Q2) ∧ Below w0.heap.size w0 w' := by
  have hba := (Below.refl wy.heap.size wy).alloc (Nat.le_refl _) (.cells #[.slice az X.length cz, .slice ay Y.length cy] 75)
  have h3 := heap_alloc_new wy (.cells #[.slice az X.length cz, .slice ay Y.length cy] 75)
  have hzb := below_two (below_two hbz hby (Nat.le_refl _)) hba (Nat.le_refl _)
  have g : ∀ {w : World} {B : Nat} {a : Option Addr} {l : List Nat} {c : Nat}, w.ownsRow B 5 1 (.slice a l.length c) l.length (octs l) → Bytes w a l := fun h => by
    obtain ⟨a', c', e, _, h2, _⟩ := srcB_own h
    simp only [Value.slice.injEq, true_and] at e
    obtain ⟨rfl, rfl⟩ := e
    exact h2
  have hL := lists_two h3 (((g hx).below hby).below hba) ((g hy).below hba)
  have e : [X, Y].flatten = Q2 := by rw [he.out]; simp
  have := joined_any [X, Y] _ 2 _ hL (by rw [e]; exact hl) (by simp)
  rw [e] at this
  refine this.mono ?_
  rintro r w' ⟨v, rfl, ho, hb⟩
  obtain ⟨a, c, rfl⟩ := own_form ho
  exact ⟨a, c, rfl, own_base ho hzb.size, below_two hzb hb (Nat.le_refl _)⟩

set_option maxRecDepth 100000 in
set_option maxHeartbeats 2000000 in
theorem recordBytes_bad (e : Int) (ps : List Part) (a : Option Addr) (c : Nat) (w : World) (hop : OpAt w a ps) (hn : ps.length ≤ 9223372036854775806) (hs : ∀ p ∈ ps, p.text.size ≤ 70368744177664) (hT : Tabs w) (herr : recordErr e ps ≠ 0) :
    Calls Tryd.prog 40 #[.agg #[.int .i64 e, .slice a ps.length c]] w fun r w' => r = .returned (.tuple #[.slice none 0 0, .int .i64 (recordErr e ps)]) ∧ Below w.heap.size w w' := by
  have hb0 := (Below.refl w.heap.size w).alloc (Nat.le_refl _) (.cells #[.int .i64 e, .slice a ps.length c] 74)
  have cF := recordFault_any e ps a c _ (hop.below hb0) hn hs (hT.below hb0)
  have hpb := heap_alloc_new w (.cells #[.int .i64 e, .slice a ps.length c] 74)
  obtain ⟨q0, _, _⟩ := blk hpb
  have g : (recordErr e ps != 0) = true := by simpa using herr
  generalize recordErr e ps = er at *
  clear hop hs hT
  go_enter Tryd.func40, Tryd.ntmps40
  go_wp2_with fail
  refine cF.mono ?_
  rintro r w1 ⟨rfl, hb1⟩
  go_wp2_with fail
  go_ret2
  exact ⟨rfl, below_two hb0 hb1 (Nat.le_refl _)⟩

set_option maxRecDepth 100000 in
set_option maxHeartbeats 2000000 in
theorem encodeRecord_bad (e : Int) (ps : List Part) (a : Option Addr) (c : Nat) (w : World) (hop : OpAt w a ps) (hn : ps.length ≤ 9223372036854775806) (hs : ∀ p ∈ ps, p.text.size ≤ 70368744177664) (hT : Tabs w) (herr : recordErr e ps ≠ 0) :
    Calls Tryd.prog 39 #[.agg #[.int .i64 e, .slice a ps.length c]] w fun r w' => r = .returned (.tuple #[.slice none 0 0, .int .i64 (recordErr e ps)]) ∧ Below w.heap.size w w' := by
  have hb0 := (Below.refl w.heap.size w).alloc (Nat.le_refl _) (.cells #[.int .i64 e, .slice a ps.length c] 74)
  have cF := checkRecord_any e ps a c _ (hop.below hb0) hn hs (hT.below hb0)
  have hpb := heap_alloc_new w (.cells #[.int .i64 e, .slice a ps.length c] 74)
  obtain ⟨q0, _, _⟩ := blk hpb
  have g : (recordErr e ps != 0) = true := by simpa using herr
  generalize recordErr e ps = er at *
  clear hop hs hT
  go_enter Tryd.func39, Tryd.ntmps39
  go_wp2_with fail
  refine cF.mono ?_
  rintro r w1 ⟨rfl, hb1⟩
  go_wp2_with fail
  go_ret2
  exact ⟨rfl, below_two hb0 hb1 (Nat.le_refl _)⟩

set_option maxRecDepth 100000 in
set_option maxHeartbeats 4000000 in
theorem recordBytes_ok (e : Int) (ps : List Part) (a : Option Addr) (c : Nat) (w : World) (hop : OpAt w a ps) (hs : ∀ p ∈ ps, p.text.size ≤ 1048576) (hT : Tabs w) (herr : recordErr e ps = 0) :
    Calls Tryd.prog 40 #[.agg #[.int .i64 e, .slice a ps.length c]] w fun r w' => ∃ v, r = .returned (.tuple #[v, .int .i64 0]) ∧ w'.ownsRow w.heap.size 5 1 v (recW e.toNat ps).length (octs (recW e.toNat ps)) ∧ Below w.heap.size w w' := by
  obtain ⟨hr, hnn, ho⟩ := recordErr_zero herr
  obtain ⟨hpl, hpw⟩ := opErr_parts ho hs
  obtain ⟨n, rfl⟩ : ∃ n : Nat, e = (n : Int) := ⟨e.toNat, by omega⟩
  rw [show ((n : Int)).toNat = n by omega]
  have hb0 : Below w.heap.size w (w.alloc (.cells #[.int .i64 (n : Int), .slice a ps.length c] 74)) := (Below.refl w.heap.size w).alloc (Nat.le_refl _) _
  have hpb := heap_alloc_new w (.cells #[.int .i64 (n : Int), .slice a ps.length c] 74)
  have cF := recordFault_any (n : Int) ps a c _ (hop.below hb0) (by omega) (fun p hp => by have := hs p hp; omega) (hT.below hb0)
  rw [herr] at cF
  have hob := opW_bound hpl hpw
  obtain ⟨R, hR⟩ : ∃ R, R = recW n ps := ⟨_, rfl⟩
  rw [← hR]
  obtain ⟨q0, ql0, _⟩ := blk hpb
  go_enter Tryd.func40, Tryd.ntmps40
  go_wp2_with fail
  refine cF.mono ?_
  rintro r w1 ⟨rfl, hb1⟩
  have HB1 := below_two hb0 hb1 (Nat.le_refl _)
  have hp1 := (hb1.block _ ql0).trans hpb
  clear cF q0 ql0 hpb hb0 hb1
  obtain ⟨q1, ql1, _⟩ := blk hp1
  by_cases h0 : n = 0
  · subst h0
    have HR : Hid (R = sev 0 ++ opW ps) := by show _ = _; rw [hR]; unfold recW; rw [if_pos rfl]
    have hrl : R.length ≤ 50000000000 := by
      rw [HR.out, List.length_append]
      have := sev_le (n := 0) (by decide)
      omega
    have cS := fun wx => sevens_any 0 wx (by decide)
    have cO := fun (wx : World) (hx : Below w1.heap.size w1 wx) => opBytes_any ps a c wx ((hop.below HB1).below hx) hpl hpw (by omega)
    have hS0 : (fun w' => w'.cell? ⟨w.heap.size, 1, none⟩ = some (.slice a ps.length c) ∧ Below w1.heap.size w1 w') w1.drew := ⟨by rw [show w1.drew.cell? ⟨w.heap.size, 1, none⟩ = w1.cell? ⟨w.heap.size, 1, none⟩ from rfl, q1]; rfl, ⟨rfl, rfl, rfl, Nat.le_refl _, fun _ _ => rfl⟩⟩
    have keep : ∀ {w' w'' : World}, (fun w' => w'.cell? ⟨w.heap.size, 1, none⟩ = some (.slice a ps.length c) ∧ Below w1.heap.size w1 w') w' → Below w'.heap.size w' w'' → (fun w' => w'.cell? ⟨w.heap.size, 1, none⟩ = some (.slice a ps.length c) ∧ Below w1.heap.size w1 w') w'' := fun {w' w''} h hb => ⟨(hb.cell (p := ⟨w.heap.size, 1, none⟩) (Nat.lt_of_lt_of_le ql1 h.2.size)).trans h.1, below_two h.2 hb (Nat.le_refl _)⟩
    have HB1d : Below w.heap.size w w1.drew := HB1.trans ⟨rfl, rfl, rfl, Nat.le_refl _, fun _ _ => rfl⟩
    generalize opW ps = Y at *
    generalize hX : sev 0 = X at *
    clear hR hX
    go_wp2_with fail
    go_region_held3 (fun w' => w'.cell? ⟨w.heap.size, 1, none⟩ = some (.slice a ps.length c) ∧ Below w1.heap.size w1 w') (with_reducible first | exact hS0 | assumption | exact keep (by assumption) hbz | exact keep (by assumption) hby | exact keep (by assumption) ((Below.refl _ _).alloc (Nat.le_refl _) _) | exact keep hS0 hbj) (first | (go_at_call 81; with_reducible refine Calls.mono (cS _) ?_; rintro e wz ⟨vz, rfl, hox, hbz⟩; have hof := own_form hox; obtain ⟨az, cz, rfl⟩ := hof) | (go_at_call 83; with_reducible refine Calls.mono (cO _ (below_two hS0.2 hbz (Nat.le_refl _))) ?_; rintro e wy ⟨vy, rfl, hoy, hby⟩; have hof := own_form hoy; obtain ⟨ay, cy, rfl⟩ := hof) | (go_at_call 82; with_reducible refine Calls.mono (join2 HR hbz hox hby hoy hrl) ?_; rintro e wj ⟨aj, cj, rfl, hoj, hbj⟩))
    go_wp2_with fail
    go_ret2
    exact ⟨_, rfl, own_base hoj HB1d.size, below_two HB1d hbj (Nat.le_refl _)⟩
  · have g0 : (0 : Int) < (n : Int) := by omega
    have HR : Hid (R = sev n) := by show _ = _; rw [hR]; unfold recW; rw [if_neg h0, List.append_nil]
    have cS := sevens_any n w1 (by omega)
    rw [← HR.out] at cS
    clear hR
    go_wp2_with fail
    refine cS.mono ?_
    rintro r w2 ⟨v2, rfl, hown2, hb2⟩
    go_wp2_with fail
    go_ret2
    exact ⟨_, rfl, own_base hown2 HB1.size, below_two HB1 hb2 (Nat.le_refl _)⟩

end Go.Proofs.YtknjnfknalfbdaaDoor
