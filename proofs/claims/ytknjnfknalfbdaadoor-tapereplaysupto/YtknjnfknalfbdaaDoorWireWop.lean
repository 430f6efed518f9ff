/-
  Walks: wire.writer: op, record; wire.EncodeRecord.
-/
import Derived.Test.YtknjnfknalfbdaaDoorWireWrite
import Derived.Test.YtknjnfknalfbdaaDoorWireDec
namespace Go.Proofs.YtknjnfknalfbdaaDoor
open Go.RowKit Go.Lib

/-- P3.4: a part as bytes -/
def partW (p : Part) : List Nat := sev p.kind.toNat ++ (if p.kind = 2 then sev p.text.size ++ sbytes p.text else sev p.n.toNat)
/-- P3.4: an operation as bytes -/
def opW (ps : List Part) : List Nat := sev ps.length ++ ps.flatMap partW
/-- what can be written -/
def PartW (p : Part) : Prop := (0 ≤ p.kind ∧ p.kind < 268435456) ∧ (0 ≤ p.n ∧ p.n < 268435456) ∧ p.text.size ≤ 1048576

set_option maxRecDepth 100000 in
set_option maxHeartbeats 2000000 in
theorem wop_any (ps : List Part) (a : Option Addr) (c : Nat) (w : World) (B b : Nat) (wv : Value) (l : List Nat) (h : WrAt w B b wv l) (hB : B ≤ w.heap.size) (hsrc : ∀ w', Below B w w' → OpAt w' a ps) (hps : ps.length ≤ 10000) (hpw : ∀ p ∈ ps, PartW p) (hl : l.length ≤ 100000) :
    Calls Tryd.prog 104 #[.pointer (some ⟨b, 0, none⟩), .slice a ps.length c] w fun r w' => r = .returned (.tuple #[]) ∧ (∃ wv', WrAt w' B b wv' (l ++ opW ps) ∧ WrStep w w' b wv wv') := by
  have cN := wnumber_any ps.length w B b wv l h hB (by omega) (by omega)
  have hsl := sev_le (n := ps.length) (by omega)
  obtain ⟨R, hR⟩ : ∃ R, R = l ++ opW ps := ⟨_, rfl⟩
  rw [← hR]
  have HR : Hid (R = (l ++ sev ps.length) ++ ps.flatMap partW) := by show _ = _; rw [hR]; unfold opW; rw [List.append_assoc]
  clear hR
  have hl0 : (l ++ sev ps.length).length ≤ 100004 := by rw [List.length_append]; omega
  generalize l ++ sev ps.length = l0 at *
  clear hsl
  go_enter Tryd.func104, Tryd.ntmps104
  go_wp2_with fail
  refine cN.mono ?_
  rintro r w1 ⟨rfl, wv1, hw1, hb1⟩
  clear cN
  go_wp2_with fail
  go_loopw [12] (fun i wr => ∃ (j : Nat) (wv' : Value) (l' : List Nat), j ≤ ps.length ∧ i = .int .i64 (j : Int) ∧ l'.length ≤ 100004 + j * 2000000 ∧ Hid (R = l' ++ (ps.drop j).flatMap partW) ∧ WrAt wr B b wv' l' ∧ WrStep w wr b wv wv') (fun i _ => ps.length - (RowKit.intOf i).toNat)
  case atStart => exact ⟨0, wv1, l0, Nat.zero_le _, rfl, by omega, by simpa using HR, hw1, hb1⟩
  case round =>
    obtain ⟨j, wv', l', hj, rfl, hll, HJ, hwr, hbr⟩ := hrel
    have hz := hbr.chg.size
    by_cases hlt : j < ps.length
    · have hjz : (j : Int) < (ps.length : Int) := by omega
      have hpj := hpw _ (List.getElem_mem hlt)
      have hst : R = l' ++ partW ps[j] ++ (ps.drop (j + 1)).flatMap partW := by rw [HJ.out, List.drop_eq_getElem_cons hlt, List.flatMap_cons, List.append_assoc]
      rcases hsrc wr (hbr.below h hB) with h0 | ⟨g, off, rfl, hg, hcell⟩
      · rw [h0] at hlt; simp at hlt
      · obtain ⟨c0, c1, c2⟩ := hcell j hlt
        generalize ps[j] = p at *
        obtain ⟨kd, nn, tx⟩ := p
        obtain ⟨⟨k1, k2⟩, ⟨n1, n2⟩, t1⟩ := hpj
        simp only at c0 c1 c2 k1 k2 n1 n2 t1
        obtain ⟨kn, rfl⟩ : ∃ kn : Nat, kd = (kn : Int) := ⟨kd.toNat, by omega⟩
        obtain ⟨m, rfl⟩ : ∃ m : Nat, nn = (m : Int) := ⟨nn.toNat, by omega⟩
        have hwa : WrAt (wr.alloc (.cells #[.int .i64 (kn : Int), .int .i64 (m : Int), .string tx] 33)) B b wv' l' := hwr.below ((Below.refl _ wr).alloc (Nat.le_refl _) _)
        have hpb := heap_alloc_new wr (.cells #[.int .i64 (kn : Int), .int .i64 (m : Int), .string tx] 33)
        have hza : (wr.alloc (.cells #[.int .i64 (kn : Int), .int .i64 (m : Int), .string tx] 33)).heap.size = wr.heap.size + 1 := by simp
        have cK := wnumber_any kn _ B b wv' l' hwa (by omega) (by omega) (by omega)
        have hkl := sev_le (n := kn) (by omega)
        have hnl := sev_le (n := m) (by omega)
        have htl := sev_le (n := tx.size) (by omega)
        have hbl := hwr.cells.2.1
        have hol := hwr.own.lt
        clear hcell HJ
        go_wp2_with fail
        refine cK.mono ?_
        rintro r w2 ⟨rfl, wv2, hw2, hs2⟩
        have hp2 := hs2.chg.row hpb (fun e => by rcases e with e | e; omega; have := (hol _ e).2; omega)
        have hz2 := hs2.chg.size
        obtain ⟨⟨p0, p1, p2⟩, pl, pf0, pf1, pf2⟩ := part_cells hp2
        clear cK
        by_cases hk2 : kn = 2
        · subst hk2
          have HN : Hid (R = (l' ++ sev 2) ++ sev tx.size ++ sbytes tx ++ (ps.drop (j + 1)).flatMap partW) := by show _ = _; rw [hst]; simp [partW]
          have hl2 : (l' ++ sev 2).length ≤ 100004 + j * 2000000 + 4 := by rw [List.length_append]; omega
          have cT := wtext_any tx w2 B b wv2 (l' ++ sev 2) hw2 (by omega) (by omega) (by omega)
          have hl3 : ((l' ++ sev 2) ++ sev tx.size ++ sbytes tx).length ≤ 100004 + (j + 1) * 2000000 := by rw [List.length_append, List.length_append, sbytes_length]; omega
          generalize (l' ++ sev 2) ++ sev tx.size ++ sbytes tx = l3 at *
          clear hst
          go_wp2_with fail
          refine cT.mono ?_
          rintro r w3 ⟨rfl, wv3, hw3, hs3⟩
          go_wp2_with fail
          go_roundw
          case rel => exact ⟨j + 1, wv3, l3, hlt, by go_num, hl3, HN, hw3, hbr.trans (hs2.alloc.trans hs3)⟩
          case measure => simp [RowKit.intOf]; omega
        · have g2 : ((kn : Int) == 2) = false := by simp; omega
          have hk2' : ¬ ((kn : Int) = 2) := by omega
          have HN : Hid (R = (l' ++ sev kn) ++ sev m ++ (ps.drop (j + 1)).flatMap partW) := by show _ = _; rw [hst]; simp [partW, hk2']
          have hl2 : (l' ++ sev kn).length ≤ 100004 + j * 2000000 + 4 := by rw [List.length_append]; omega
          have cT := wnumber_any m w2 B b wv2 (l' ++ sev kn) hw2 (by omega) (by omega) (by omega)
          have hl3 : ((l' ++ sev kn) ++ sev m).length ≤ 100004 + (j + 1) * 2000000 := by rw [List.length_append]; omega
          generalize (l' ++ sev kn) ++ sev m = l3 at *
          clear hst
          go_wp2_with fail
          refine cT.mono ?_
          rintro r w3 ⟨rfl, wv3, hw3, hs3⟩
          go_wp2_with fail
          go_roundw
          case rel => exact ⟨j + 1, wv3, l3, hlt, by go_num, hl3, HN, hw3, hbr.trans (hs2.alloc.trans hs3)⟩
          case measure => simp [RowKit.intOf]; omega
    · obtain rfl : j = ps.length := by omega
      have HN : Hid (R = l') := by show _ = _; rw [HJ.out]; simp
      clear HJ
      go_wp2_with fail
      go_end0
      exact ⟨rfl, wv', by rw [HN.out]; exact hwr, hbr⟩

end Go.Proofs.YtknjnfknalfbdaaDoor
