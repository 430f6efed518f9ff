/-
  Walks: wire.writer.record, wire.EncodeRecord.
-/
import Derived.Test.YtknjnfknalfbdaaDoorWireWop
namespace Go.Proofs.YtknjnfknalfbdaaDoor
open Go.RowKit Go.Lib

/-- P3.6: a record as bytes -/
def recW (e : Nat) (ps : List Part) : List Nat := sev e ++ (if e = 0 then opW ps else [])

set_option maxRecDepth 100000 in
set_option maxHeartbeats 2000000 in
theorem wrecord_any (e : Nat) (ps : List Part) (a : Option Addr) (c : Nat) (w : World) (B b : Nat) (wv : Value) (l : List Nat) (h : WrAt w B b wv l) (hB : B ≤ w.heap.size) (hsrc : ∀ w', Below B w w' → OpAt w' a ps) (he : e < 268435456) (hps : ps.length ≤ 10000) (hpw : ∀ p ∈ ps, PartW p) (hl : l.length ≤ 10000) :
    Calls Tryd.prog 79 #[.pointer (some ⟨b, 0, none⟩), .agg #[.int .i64 (e : Int), .slice a ps.length c]] w fun r w' => r = .returned (.tuple #[]) ∧ (∃ wv', WrAt w' B b wv' (l ++ recW e ps) ∧ WrStep w w' b wv wv') := by
  have hwa : WrAt (w.alloc (.cells #[.int .i64 (e : Int), .slice a ps.length c] 74)) B b wv l := h.below ((Below.refl _ w).alloc (Nat.le_refl _) _)
  have hpb := heap_alloc_new w (.cells #[.int .i64 (e : Int), .slice a ps.length c] 74)
  have hza : (w.alloc (.cells #[.int .i64 (e : Int), .slice a ps.length c] 74)).heap.size = w.heap.size + 1 := by simp
  have cK := wnumber_any e _ B b wv l hwa (by omega) he (by omega)
  have hel := sev_le he
  have hbl := h.cells.2.1
  have hol := h.own.lt
  have hb0 := (Below.refl B w).alloc hB (.cells #[.int .i64 (e : Int), .slice a ps.length c] 74)
  obtain ⟨R, hR⟩ : ∃ R, R = l ++ recW e ps := ⟨_, rfl⟩
  rw [← hR]
  by_cases h0 : e = 0
  · have HR : Hid (R = (l ++ sev e) ++ opW ps) := by show _ = _; rw [hR]; unfold recW; rw [if_pos h0, List.append_assoc]
    have hl1 : (l ++ sev e).length ≤ 100000 := by rw [List.length_append]; omega
    subst h0
    generalize l ++ sev 0 = l1 at *
    clear hR
    go_enter Tryd.func79, Tryd.ntmps79
    go_wp2_with fail
    refine cK.mono ?_
    have hch0 : Chg (fun k => k = b ∨ wv.ownBlock = some k) w (w.alloc (.cells #[.int .i64 ((0 : Nat) : Int), .slice a ps.length c] 74)) := (Chg.refl _ w).alloc _
    generalize (w.alloc (.cells #[.int .i64 ((0 : Nat) : Int), .slice a ps.length c] 74)) = w0 at *
    rintro r w2 ⟨rfl, wv2, hw2, hs2⟩
    have hp2 := hs2.chg.row hpb (fun e => by rcases e with e | e; omega; have := (hol _ e).2; omega)
    have hz2 := hs2.chg.size
    have hb2 := hs2.below hwa (by omega)
    obtain ⟨⟨p0, p1⟩, pl, pf0, pf1⟩ := rec_cells hp2
    have cO := wop_any ps a c w2 B b wv2 l1 hw2 (by omega) (fun w' hb => hsrc w' ((hb0.trans hb2).trans hb)) hps hpw hl1
    clear cK
    go_wp2_with fail
    refine cO.mono ?_
    rintro r w3 ⟨rfl, wv3, hw3, hs3⟩
    go_wp2_with fail
    go_end0
    exact ⟨rfl, wv3, by rw [HR.out]; exact hw3, WrStep.trans ⟨hch0.trans hs2.chg (fun _ _ e => e), fun k e hk => hs2.mv k e (by omega)⟩ hs3⟩
  · have g0 : ((e : Int) == 0) = false := by simp; omega
    have HR : Hid (R = l ++ sev e) := by show _ = _; rw [hR]; unfold recW; rw [if_neg h0, List.append_nil]
    generalize l ++ sev e = l1 at *
    clear hR
    go_enter Tryd.func79, Tryd.ntmps79
    go_wp2_with fail
    refine cK.mono ?_
    rintro r w2 ⟨rfl, wv2, hw2, hs2⟩
    have hp2 := hs2.chg.row hpb (fun e => by rcases e with e | e; omega; have := (hol _ e).2; omega)
    obtain ⟨⟨p0, p1⟩, pl, pf0, pf1⟩ := rec_cells hp2
    clear cK
    go_wp2_with fail
    go_end0
    exact ⟨rfl, wv2, by rw [HR.out]; exact hw2, hs2.alloc⟩

theorem opErr_parts {ps : List Part} (h : opErr ps = 0) (hs : ∀ p ∈ ps, p.text.size ≤ 1048576) : ps.length ≤ 10000 ∧ ∀ p ∈ ps, PartW p := by
  have ok := opErr_zero h
  refine ⟨by have := ok.many; omega, fun p hp => ?_⟩
  have g := ok.chain.good p hp
  refine ⟨by have := g.kind; omega, ?_, hs p hp⟩
  by_cases h2 : p.kind = 2
  · have := (g.text h2).1; omega
  · have := g.count h2; omega
theorem recordErr_zero {e : Int} {ps : List Part} (h : recordErr e ps = 0) : (0 ≤ e ∧ e ≤ 1048576) ∧ (e ≠ 0 → ps = []) ∧ opErr ps = 0 := by
  unfold recordErr at h
  cases hn : inN e with
  | false => rw [hn] at h; simp at h
  | true =>
    rw [hn, if_neg (by decide)] at h
    have hr : 0 ≤ e ∧ e ≤ 1048576 := of_decide_eq_true hn
    by_cases h2 : e ≠ 0 ∧ ps.length ≠ 0
    · rw [if_pos h2] at h; omega
    · rw [if_neg h2] at h
      exact ⟨hr, fun h0 => List.length_eq_zero_iff.1 (by omega), h⟩

set_option maxRecDepth 100000 in
set_option maxHeartbeats 2000000 in
theorem encodeRecord_ok (e : Int) (ps : List Part) (a : Option Addr) (c : Nat) (w : World) (hop : OpAt w a ps) (hs : ∀ p ∈ ps, p.text.size ≤ 1048576) (hT : Tabs w) (herr : recordErr e ps = 0) :
    Calls Tryd.prog 39 #[.agg #[.int .i64 e, .slice a ps.length c]] w fun r w' => ∃ v, r = .returned (.tuple #[v, .int .i64 0]) ∧ w'.ownsRow w.heap.size 5 1 v (recW e.toNat ps).length (octs (recW e.toNat ps)) ∧ Below w.heap.size w w' := by
  obtain ⟨hr, _, ho⟩ := recordErr_zero herr
  obtain ⟨hpl, hpw⟩ := opErr_parts ho hs
  obtain ⟨n, rfl⟩ : ∃ n : Nat, e = (n : Int) := ⟨e.toNat, by omega⟩
  rw [show ((n : Int)).toNat = n by omega]
  have hb0 := (Below.refl w.heap.size w).alloc (Nat.le_refl _) (.cells #[.int .i64 (n : Int), .slice a ps.length c] 74)
  have hpb := heap_alloc_new w (.cells #[.int .i64 (n : Int), .slice a ps.length c] 74)
  have cC := checkRecord_any (n : Int) ps a c _ (hop.below hb0) (by omega) (fun p hp => by have := hs p hp; omega) (hT.below hb0)
  rw [herr] at cC
  obtain ⟨R, hR⟩ : ∃ R, R = recW n ps := ⟨_, rfl⟩
  rw [← hR]
  have HR : Hid (R = recW n ps) := hR
  clear hR
  go_enter Tryd.func39, Tryd.ntmps39
  go_wp2_with fail
  refine cC.mono ?_
  rintro r w1 ⟨rfl, hb1⟩
  have HB1 := below_two hb0 hb1 (Nat.le_refl _)
  have hp1 := (hb1.block _ (Array.getElem?_eq_some_iff.1 hpb).1).trans hpb
  obtain ⟨⟨p0, p1⟩, pl, pf0, pf1⟩ := rec_cells hp1
  clear cC
  go_wp2_with fail
  have hzw : w.heap.size ≤ w1.heap.size := HB1.size
  have HB2 := HB1.alloc hzw (.cells #[.slice none 0 0] 134)
  have hz2 := HB2.size
  have hwr : WrAt (w1.alloc (.cells #[.slice none 0 0] 134)) w.heap.size w1.heap.size (.slice none 0 0) [] := ⟨hzw, heap_alloc_new w1 _, World.ownsRow_nil _ _ _ _⟩
  have cW := wrecord_any n ps a c _ _ _ _ [] hwr hz2 (fun w' hb => hop.below (HB2.trans hb)) (by omega) hpl hpw (by simp)
  rw [List.nil_append, ← HR.out] at cW
  clear HR
  refine cW.mono ?_
  generalize (w1.alloc (.cells #[.slice none 0 0] 134)) = w2 at *
  rintro r w3 ⟨rfl, wv3, hw3, hs3⟩
  have HB3 := HB2.trans (hs3.below hwr hz2)
  obtain ⟨c0, _, _⟩ := hw3.cells
  obtain ⟨va, vc, rfl⟩ := own_form hw3.own
  clear cW
  go_wp2_with fail
  go_ret2
  exact ⟨_, rfl, hw3.own, HB3⟩

end Go.Proofs.YtknjnfknalfbdaaDoor
