/-
  Walk: wherryref.LinkHeard.
-/
import Derived.Test.YtnpjcdfkjgenbaaDoorLinkFil
import Derived.Test.YtnpjcdfkjgenbaaDoorLinkMayR
import Derived.Test.YtnpjcdfkjgenbaaDoorWirePacketF
import Derived.Test.YtnpjcdfkjgenbaaDoorLinkHearF
namespace Go.Proofs.YtnpjcdfkjgenbaaDoor
open Go.RowKit Go.Lib

theorem pkFaultP {w : World} {p : PkI} {v : Value} (ho : OpVal w v p.frame.op) (hs : FrSmall p.frame) (hT : Tabs w) :
    Calls Tryd.prog 17 #[.agg #[.int .i64 p.epoch, .int .i64 p.number, .bool p.bare, .int .i64 p.ack, .int .i64 p.frame.kind, .int .i64 p.frame.heard, .int .i64 p.frame.epoch, v, .string p.frame.text]] w fun r w' => r = .returned (.int .i64 p.err) ∧ Below w.heap.size w w' := by
  obtain ⟨a, c, rfl, hop, _, _⟩ := ho.form
  have h1 := hs.op.1
  exact packetFault_any p.epoch p.number p.bare p.ack p.frame.kind p.frame.heard p.frame.epoch p.frame.op a c p.frame.text w hop (by omega) (fun q hq => by have := (hs.op.2 q hq).2.2; omega) (by have := hs.text; omega) hT

theorem below_drew (w : World) : Below w.heap.size w w.drew := ⟨rfl, rfl, rfl, Nat.le_refl _, fun _ _ => rfl⟩
theorem heap_drewH {w : World} {k : Nat} {o : Option Obj} (h : w.heap[k]? = o) : w.drew.heap[k]? = o := h
set_option maxRecDepth 100000 in
set_option maxHeartbeats 4000000 in
theorem linkHeard_bad {B : Nat} (ep nx hd : Int) (S Q : List FrK) (sv qv : Value) (pe num : Int) (bare : Bool) (ack fk fh fe : Int) (ps : List Part) (tx : ByteArray) (v : Value) (w : World) (hS : InK frS w B sv S) (hQ : InK frS w B qv Q) (fS : ∀ x ∈ S, FrSmall x.1) (fQ : ∀ x ∈ Q, FrSmall x.1) (lS : S.length ≤ 1048577) (lQ : Q.length ≤ 1048577) (ho : OpVal w v ps) (hs : FrSmall ⟨fk, fh, fe, ps, tx⟩) (hT : Tabs w) (herr : lhearErr (mkL ep nx hd S Q) ⟨pe, num, bare, ack, ⟨fk, fh, fe, ps, tx⟩⟩ ≠ 0) :
    Calls Tryd.prog 6 #[.agg #[.int .i64 ep, .int .i64 nx, sv, qv, .int .i64 hd], .agg #[.int .i64 pe, .int .i64 num, .bool bare, .int .i64 ack, .int .i64 fk, .int .i64 fh, .int .i64 fe, v, .string tx]] w fun r w' => r = .returned (.tuple #[.agg #[.int .i64 0, .int .i64 0, .slice none 0 0, .slice none 0 0, .int .i64 0], .agg #[.int .i64 0, .int .i64 0, .int .i64 0, .slice none 0 0, .string ByteArray.empty], .bool false, .slice none 0 0, .int .i64 (lhearErr (mkL ep nx hd S Q) ⟨pe, num, bare, ack, ⟨fk, fh, fe, ps, tx⟩⟩)]) ∧ Below w.heap.size w w' := by
  have cM := fun w1 (hb : Below w.heap.size w w1) => linkMay_any ep nx hd S Q sv qv w1 (hS.below hb) (hQ.below hb) fS fQ lS lQ (hT.below hb)
  have cP := fun w1 (hb : Below w.heap.size w w1) => pkFaultP (p := ⟨pe, num, bare, ack, ⟨fk, fh, fe, ps, tx⟩⟩) (ho.below hb) hs (hT.below hb)
  obtain ⟨sa, sc, rfl, -⟩ := hS.row
  obtain ⟨qa, qc, rfl, -⟩ := hQ.row
  obtain ⟨ua, uc, rfl, -⟩ := ho.form
  obtain ⟨hl, hp, hr, hx, HB0, hz⟩ := four_blocks w (.cells #[.int .i64 ep, .int .i64 nx, .slice sa S.length sc, .slice qa Q.length qc, .int .i64 hd] 24) (.cells #[.int .i64 pe, .int .i64 num, .bool bare, .int .i64 ack, .int .i64 fk, .int .i64 fh, .int .i64 fe, .slice ua ps.length uc, .string tx] 30) (.cells #[.int .i64 0, .int .i64 0, .slice none 0 0, .slice none 0 0, .int .i64 0] 24) (.cells #[.int .i64 0, .int .i64 0, .int .i64 0, .slice none 0 0, .string ⟨#[]⟩] 28)
  have cM1 := cM _ HB0
  have hzx : w.heap.size + 1 + 1 + 1 < ((((w.alloc (.cells #[.int .i64 ep, .int .i64 nx, .slice sa S.length sc, .slice qa Q.length qc, .int .i64 hd] 24)).alloc (.cells #[.int .i64 pe, .int .i64 num, .bool bare, .int .i64 ack, .int .i64 fk, .int .i64 fh, .int .i64 fe, .slice ua ps.length uc, .string tx] 30)).alloc (.cells #[.int .i64 0, .int .i64 0, .slice none 0 0, .slice none 0 0, .int .i64 0] 24)).alloc (.cells #[.int .i64 0, .int .i64 0, .int .i64 0, .slice none 0 0, .string ⟨#[]⟩] 28)).heap.size := by omega
  obtain ⟨PE, hPE⟩ : ∃ PE, PE = PkI.err ⟨pe, num, bare, ack, ⟨fk, fh, fe, ps, tx⟩⟩ := ⟨_, rfl⟩
  obtain ⟨E, hE⟩ : ∃ E, E = lhearErr (mkL ep nx hd S Q) ⟨pe, num, bare, ack, ⟨fk, fh, fe, ps, tx⟩⟩ := ⟨_, rfl⟩
  rw [← hE] at herr ⊢
  have HE : Hid (E = if linkErr (mkL ep nx hd S Q) ≠ 0 then linkErr (mkL ep nx hd S Q) else if PE ≠ 0 then PE else if ep = 0 ∨ pe ≠ ep then 12 else 0) := by rw [hPE]; exact hE
  have HL : Hid (linkErr (mkL ep nx hd S Q) = 0 ∨ linkErr (mkL ep nx hd S Q) = 9) := by show _ ∨ _; unfold linkErr; split <;> simp
  rw [← hPE] at cP
  clear hE hPE cM hS hQ fS fQ hT ho hs hz lS lQ
  obtain ⟨l0, ll0, _⟩ := blk hl
  obtain ⟨p0, pl0, _⟩ := blk hp
  by_cases h1 : linkErr (mkL ep nx hd S Q) = 0
  rotate_left
  · have h9 : linkErr (mkL ep nx hd S Q) = 9 := by rcases HL.out with h | h; exact absurd h h1; exact h
    have he : E = 9 := by rw [HE.out, if_pos h1, h9]
    subst he
    rw [decide_eq_false h1] at cM1
    clear HE HL h9 h1 cP
    go_enter Tryd.func6, Tryd.ntmps6
    go_wp2_with fail
    refine cM1.mono ?_
    generalize ((((w.alloc (.cells #[.int .i64 ep, .int .i64 nx, .slice sa S.length sc, .slice qa Q.length qc, .int .i64 hd] 24)).alloc (.cells #[.int .i64 pe, .int .i64 num, .bool bare, .int .i64 ack, .int .i64 fk, .int .i64 fh, .int .i64 fe, .slice ua ps.length uc, .string tx] 30)).alloc (.cells #[.int .i64 0, .int .i64 0, .slice none 0 0, .slice none 0 0, .int .i64 0] 24)).alloc (.cells #[.int .i64 0, .int .i64 0, .int .i64 0, .slice none 0 0, .string ⟨#[]⟩] 28)) = w0 at *
    rintro r w1 ⟨rfl, hb1⟩
    have HBN := below_two HB0 hb1 (Nat.le_refl _)
    replace hr := (hb1.block _ (by omega)).trans hr
    replace hx := (hb1.block _ hzx).trans hx
    clear l0 ll0 p0 pl0 cM1 hl hp
    obtain ⟨hfin, hch⟩ := puts_all hr [.int .i64 0, .int .i64 0, .slice none 0 0, .slice none 0 0, .int .i64 0] rfl
    simp only [puts, Nat.zero_add, Nat.reduceAdd] at hfin hch
    have HB7 := HBN.trans (hch.below (B := w.heap.size) (fun i e => by omega) HBN.size)
    have hx2 := hch.row hx (by omega)
    obtain ⟨hfix, hcx⟩ := puts_all hx2 [.int .i64 0, .int .i64 0, .int .i64 0, .slice none 0 0, .string ⟨#[]⟩] rfl
    simp only [puts, Nat.zero_add, Nat.reduceAdd] at hfix hcx
    have hfin2 := hcx.row hfin (by omega)
    have HB8 := HB7.trans (hcx.below (B := w.heap.size) (fun i e => by omega) HB7.size)
    clear hch hcx HB7 hfin
    obtain ⟨r0, rl0, rf0⟩ := blk hr
    obtain ⟨x0, xl0, xf0⟩ := blk hx
    obtain ⟨y0, yl0, yf0⟩ := blk hx2
    go_wp2_with fail
    generalize ((((((((((w1.setCell ⟨w.heap.size + 1 + 1, 0, none⟩ (.int .i64 0)).setCell ⟨w.heap.size + 1 + 1, 1, none⟩ (.int .i64 0)).setCell ⟨w.heap.size + 1 + 1, 2, none⟩ (.slice none 0 0)).setCell ⟨w.heap.size + 1 + 1, 3, none⟩ (.slice none 0 0)).setCell ⟨w.heap.size + 1 + 1, 4, none⟩ (.int .i64 0)).setCell ⟨w.heap.size + 1 + 1 + 1, 0, none⟩ (.int .i64 0)).setCell ⟨w.heap.size + 1 + 1 + 1, 1, none⟩ (.int .i64 0)).setCell ⟨w.heap.size + 1 + 1 + 1, 2, none⟩ (.int .i64 0)).setCell ⟨w.heap.size + 1 + 1 + 1, 3, none⟩ (.slice none 0 0)).setCell ⟨w.heap.size + 1 + 1 + 1, 4, none⟩ (.string ⟨#[]⟩)) = w9 at *
    obtain ⟨t9, _, _⟩ := blk hfin2
    obtain ⟨u9, _, _⟩ := blk hfix
    exact bodyPost_ret (v := .tuple #[.agg #[.int .i64 0, .int .i64 0, .slice none 0 0, .slice none 0 0, .int .i64 0], .agg #[.int .i64 0, .int .i64 0, .int .i64 0, .slice none 0 0, .string ⟨#[]⟩], .bool false, .slice none 0 0, .int .i64 9]) (by simp [results, Tryd.results6, go_sem, t9, u9]) rfl ⟨rfl, HB8⟩
  rw [decide_eq_true h1] at cM1
  have HE1 : Hid (E = if PE ≠ 0 then PE else if ep = 0 ∨ pe ≠ ep then 12 else 0) := by show _ = _; rw [HE.out, if_neg (fun e => e h1)]
  clear HE HL h1
  go_enter Tryd.func6, Tryd.ntmps6
  go_wp2_with fail
  refine cM1.mono ?_
  generalize ((((w.alloc (.cells #[.int .i64 ep, .int .i64 nx, .slice sa S.length sc, .slice qa Q.length qc, .int .i64 hd] 24)).alloc (.cells #[.int .i64 pe, .int .i64 num, .bool bare, .int .i64 ack, .int .i64 fk, .int .i64 fh, .int .i64 fe, .slice ua ps.length uc, .string tx] 30)).alloc (.cells #[.int .i64 0, .int .i64 0, .slice none 0 0, .slice none 0 0, .int .i64 0] 24)).alloc (.cells #[.int .i64 0, .int .i64 0, .int .i64 0, .slice none 0 0, .string ⟨#[]⟩] 28)) = w0 at *
  rintro r w1 ⟨rfl, hb1⟩
  have HB1 := below_two HB0 hb1 (Nat.le_refl _)
  have cP1 := cP _ HB1
  have hz1 := hb1.size
  replace hl := (hb1.block _ ll0).trans hl
  replace hp := (hb1.block _ pl0).trans hp
  replace hr := (hb1.block _ (by omega)).trans hr
  replace hx := (hb1.block _ hzx).trans hx
  clear l0 ll0 p0 pl0 cM1 cP hb1
  obtain ⟨l0, ll0, lf0⟩ := blk hl
  obtain ⟨p0, pl0, pf0⟩ := blk hp
  go_wp2_with fail
  refine cP1.mono ?_
  rintro r w2 ⟨rfl, hb2⟩
  have HBN := below_two HB1 hb2 (Nat.le_refl _)
  replace hl := (hb2.block _ ll0).trans hl
  replace hp := (hb2.block _ pl0).trans hp
  replace hr := (hb2.block _ (by omega)).trans hr
  replace hx := (hb2.block _ (by omega)).trans hx
  clear l0 ll0 lf0 p0 pl0 pf0 cP1 hb2 HB1 HB0
  obtain ⟨l0, ll0, lf0⟩ := blk hl
  obtain ⟨p0, pl0, pf0⟩ := blk hp
  by_cases h3 : PE = 0
  rotate_left
  · have he : E = PE := by rw [HE1.out, if_pos h3]
    subst he
    have g3 : (E == 0) = false := by simpa using h3
    have g4 : (E != 0) = true := by simpa using h3
    clear HE1 h3 herr
    obtain ⟨hfin, hch⟩ := puts_all hr [.int .i64 0, .int .i64 0, .slice none 0 0, .slice none 0 0, .int .i64 0] rfl
    simp only [puts, Nat.zero_add, Nat.reduceAdd] at hfin hch
    have HB7 := HBN.trans (hch.below (B := w.heap.size) (fun i e => by omega) HBN.size)
    have hx2 := hch.row hx (by omega)
    obtain ⟨hfix, hcx⟩ := puts_all hx2 [.int .i64 0, .int .i64 0, .int .i64 0, .slice none 0 0, .string ⟨#[]⟩] rfl
    simp only [puts, Nat.zero_add, Nat.reduceAdd] at hfix hcx
    have hfin2 := hcx.row hfin (by omega)
    have HB8 := HB7.trans (hcx.below (B := w.heap.size) (fun i e => by omega) HB7.size)
    clear hch hcx HB7 hfin
    obtain ⟨r0, rl0, rf0⟩ := blk hr
    obtain ⟨x0, xl0, xf0⟩ := blk hx
    obtain ⟨y0, yl0, yf0⟩ := blk hx2
    go_wp2_with fail
    generalize ((((((((((w2.setCell ⟨w.heap.size + 1 + 1, 0, none⟩ (.int .i64 0)).setCell ⟨w.heap.size + 1 + 1, 1, none⟩ (.int .i64 0)).setCell ⟨w.heap.size + 1 + 1, 2, none⟩ (.slice none 0 0)).setCell ⟨w.heap.size + 1 + 1, 3, none⟩ (.slice none 0 0)).setCell ⟨w.heap.size + 1 + 1, 4, none⟩ (.int .i64 0)).setCell ⟨w.heap.size + 1 + 1 + 1, 0, none⟩ (.int .i64 0)).setCell ⟨w.heap.size + 1 + 1 + 1, 1, none⟩ (.int .i64 0)).setCell ⟨w.heap.size + 1 + 1 + 1, 2, none⟩ (.int .i64 0)).setCell ⟨w.heap.size + 1 + 1 + 1, 3, none⟩ (.slice none 0 0)).setCell ⟨w.heap.size + 1 + 1 + 1, 4, none⟩ (.string ⟨#[]⟩)) = w9 at *
    obtain ⟨t9, _, _⟩ := blk hfin2
    obtain ⟨u9, _, _⟩ := blk hfix
    exact bodyPost_ret (v := .tuple #[.agg #[.int .i64 0, .int .i64 0, .slice none 0 0, .slice none 0 0, .int .i64 0], .agg #[.int .i64 0, .int .i64 0, .int .i64 0, .slice none 0 0, .string ⟨#[]⟩], .bool false, .slice none 0 0, .int .i64 E]) (by simp [results, Tryd.results6, go_sem, t9, u9]) rfl ⟨rfl, HB8⟩
  subst h3
  have HC : Hid (ep = 0 ∨ pe ≠ ep) := Classical.byContradiction fun h => herr (by rw [HE1.out, if_neg (by simp), if_neg (show ¬ (ep = 0 ∨ pe ≠ ep) from h)])
  have he : E = 12 := by rw [HE1.out, if_neg (by simp), if_pos (show (ep = 0 ∨ pe ≠ ep) from HC.out)]
  subst he
  clear HE1 herr
  by_cases h2 : ep = 0
  · subst h2
    clear HC
    obtain ⟨hfin, hch⟩ := puts_all hr [.int .i64 0, .int .i64 0, .slice none 0 0, .slice none 0 0, .int .i64 0] rfl
    simp only [puts, Nat.zero_add, Nat.reduceAdd] at hfin hch
    have HB7 := HBN.trans (hch.below (B := w.heap.size) (fun i e => by omega) HBN.size)
    have hx2 := hch.row hx (by omega)
    obtain ⟨hfix, hcx⟩ := puts_all hx2 [.int .i64 0, .int .i64 0, .int .i64 0, .slice none 0 0, .string ⟨#[]⟩] rfl
    simp only [puts, Nat.zero_add, Nat.reduceAdd] at hfix hcx
    have hfin2 := hcx.row hfin (by omega)
    have HB8 := HB7.trans (hcx.below (B := w.heap.size) (fun i e => by omega) HB7.size)
    clear hch hcx HB7 hfin
    obtain ⟨r0, rl0, rf0⟩ := blk hr
    obtain ⟨x0, xl0, xf0⟩ := blk hx
    obtain ⟨y0, yl0, yf0⟩ := blk hx2
    go_wp2_with fail
    generalize ((((((((((w2.setCell ⟨w.heap.size + 1 + 1, 0, none⟩ (.int .i64 0)).setCell ⟨w.heap.size + 1 + 1, 1, none⟩ (.int .i64 0)).setCell ⟨w.heap.size + 1 + 1, 2, none⟩ (.slice none 0 0)).setCell ⟨w.heap.size + 1 + 1, 3, none⟩ (.slice none 0 0)).setCell ⟨w.heap.size + 1 + 1, 4, none⟩ (.int .i64 0)).setCell ⟨w.heap.size + 1 + 1 + 1, 0, none⟩ (.int .i64 0)).setCell ⟨w.heap.size + 1 + 1 + 1, 1, none⟩ (.int .i64 0)).setCell ⟨w.heap.size + 1 + 1 + 1, 2, none⟩ (.int .i64 0)).setCell ⟨w.heap.size + 1 + 1 + 1, 3, none⟩ (.slice none 0 0)).setCell ⟨w.heap.size + 1 + 1 + 1, 4, none⟩ (.string ⟨#[]⟩)) = w9 at *
    obtain ⟨t9, _, _⟩ := blk hfin2
    obtain ⟨u9, _, _⟩ := blk hfix
    exact bodyPost_ret (v := .tuple #[.agg #[.int .i64 0, .int .i64 0, .slice none 0 0, .slice none 0 0, .int .i64 0], .agg #[.int .i64 0, .int .i64 0, .int .i64 0, .slice none 0 0, .string ⟨#[]⟩], .bool false, .slice none 0 0, .int .i64 12]) (by simp [results, Tryd.results6, go_sem, t9, u9]) rfl ⟨rfl, HB8⟩
  · have g1 : (ep == 0) = false := by simpa using h2
    have g2 : (ep != pe) = true := by
      have := HC.out
      simp
      rintro rfl
      rcases this with h | h
      · exact h2 h
      · exact h rfl
    clear HC h2
    obtain ⟨hfin, hch⟩ := puts_all hr [.int .i64 0, .int .i64 0, .slice none 0 0, .slice none 0 0, .int .i64 0] rfl
    simp only [puts, Nat.zero_add, Nat.reduceAdd] at hfin hch
    have HB7 := HBN.trans (hch.below (B := w.heap.size) (fun i e => by omega) HBN.size)
    have hx2 := hch.row hx (by omega)
    obtain ⟨hfix, hcx⟩ := puts_all hx2 [.int .i64 0, .int .i64 0, .int .i64 0, .slice none 0 0, .string ⟨#[]⟩] rfl
    simp only [puts, Nat.zero_add, Nat.reduceAdd] at hfix hcx
    have hfin2 := hcx.row hfin (by omega)
    have HB8 := HB7.trans (hcx.below (B := w.heap.size) (fun i e => by omega) HB7.size)
    clear hch hcx HB7 hfin
    obtain ⟨r0, rl0, rf0⟩ := blk hr
    obtain ⟨x0, xl0, xf0⟩ := blk hx
    obtain ⟨y0, yl0, yf0⟩ := blk hx2
    go_wp2_with fail
    generalize ((((((((((w2.setCell ⟨w.heap.size + 1 + 1, 0, none⟩ (.int .i64 0)).setCell ⟨w.heap.size + 1 + 1, 1, none⟩ (.int .i64 0)).setCell ⟨w.heap.size + 1 + 1, 2, none⟩ (.slice none 0 0)).setCell ⟨w.heap.size + 1 + 1, 3, none⟩ (.slice none 0 0)).setCell ⟨w.heap.size + 1 + 1, 4, none⟩ (.int .i64 0)).setCell ⟨w.heap.size + 1 + 1 + 1, 0, none⟩ (.int .i64 0)).setCell ⟨w.heap.size + 1 + 1 + 1, 1, none⟩ (.int .i64 0)).setCell ⟨w.heap.size + 1 + 1 + 1, 2, none⟩ (.int .i64 0)).setCell ⟨w.heap.size + 1 + 1 + 1, 3, none⟩ (.slice none 0 0)).setCell ⟨w.heap.size + 1 + 1 + 1, 4, none⟩ (.string ⟨#[]⟩)) = w9 at *
    obtain ⟨t9, _, _⟩ := blk hfin2
    obtain ⟨u9, _, _⟩ := blk hfix
    exact bodyPost_ret (v := .tuple #[.agg #[.int .i64 0, .int .i64 0, .slice none 0 0, .slice none 0 0, .int .i64 0], .agg #[.int .i64 0, .int .i64 0, .int .i64 0, .slice none 0 0, .string ⟨#[]⟩], .bool false, .slice none 0 0, .int .i64 12]) (by simp [results, Tryd.results6, go_sem, t9, u9]) rfl ⟨rfl, HB8⟩

set_option maxRecDepth 100000 in
set_option maxHeartbeats 8000000 in
theorem linkHeard_ok {B : Nat} (ep nx hd : Int) (S Q : List FrK) (sv qv : Value) (pe num : Int) (bare : Bool) (ack fk fh fe : Int) (ps : List Part) (tx : ByteArray) (v : Value) (w : World) (hS : InK frS w B sv S) (hQ : InK frS w B qv Q) (fS : ∀ x ∈ S, FrSmall x.1) (fQ : ∀ x ∈ Q, FrSmall x.1) (lS : S.length ≤ 1048576) (lQ : Q.length ≤ 1048576) (ho : OpVal w v ps) (hs : FrSmall ⟨fk, fh, fe, ps, tx⟩) (hT : Tabs w) (herr : lhearErr (mkL ep nx hd S Q) ⟨pe, num, bare, ack, ⟨fk, fh, fe, ps, tx⟩⟩ = 0)
    (H : Int) (T : Bool) (F : FrI) (hH : (bare = false ∧ num = hd + 1 ∧ H = hd + 1 ∧ T = true ∧ F = ⟨fk, fh, fe, ps, tx⟩) ∨ ((bare = true ∨ num ≠ hd + 1) ∧ H = hd ∧ T = false ∧ F = fr0)) :
    Calls Tryd.prog 6 #[.agg #[.int .i64 ep, .int .i64 nx, sv, qv, .int .i64 hd], .agg #[.int .i64 pe, .int .i64 num, .bool bare, .int .i64 ack, .int .i64 fk, .int .i64 fh, .int .i64 fe, v, .string tx]] w fun r w' => ∃ sv' qv' pv fv, r = .returned (.tuple #[.agg #[.int .i64 ep, .int .i64 (nx + (goK (behindL (mkL ep nx hd S Q) ack).sent.length (Q.map (·.1)).length nx : Nat)), sv', qv', .int .i64 H], .agg #[.int .i64 F.kind, .int .i64 F.heard, .int .i64 F.epoch, fv, .string F.text], .bool T, pv, .int .i64 0]) ∧ GoOk w' 0 w.heap.size sv' qv' pv ((LinkI.go ⟨ep, nx, (behindL (mkL ep nx hd S Q) ack).sent, Q.map (·.1), H⟩).1, (LinkI.go ⟨ep, nx, (behindL (mkL ep nx hd S Q) ack).sent, Q.map (·.1), H⟩).2 ++ (if bare = true then [] else [⟨ep, 0, true, H, fr0⟩])) ∧ w'.ownsRow w.heap.size 63 3 fv F.op.length (partCells F.op) ∧ Below w.heap.size w w' := by
  obtain ⟨h1, h3, h2, h4⟩ := lhearErr_zero herr
  simp only at h4
  subst h4
  obtain ⟨k1, k2, k3, k4, k5, k6, k7⟩ := linkOk h1
  obtain ⟨⟨n1, n2⟩, b1, b2⟩ := pkErr_bounds h3
  simp only at n1 n2 b1 b2
  have cM := fun w1 (hb : Below w.heap.size w w1) => linkMay_any pe nx hd S Q sv qv w1 (hS.below hb) (hQ.below hb) fS fQ (by omega) (by omega) (hT.below hb)
  rw [decide_eq_true h1] at cM
  have cP := fun w1 (hb : Below w.heap.size w w1) => pkFaultP (p := ⟨pe, num, bare, ack, ⟨fk, fh, fe, ps, tx⟩⟩) (ho.below hb) hs (hT.below hb)
  rw [h3] at cP
  have cL := fun w1 (hb : Below w.heap.size w w1) => linkCopy_any pe nx hd S Q sv qv w1 (hS.below hb) (hQ.below hb) (fun x hx => (fS x hx).op.1) (fun x hx => (fQ x hx).op.1) (by omega) (by omega)
  have cC := fun w1 (hb : Below w.heap.size w w1) => frameCopy_any ⟨fk, fh, fe, ps, tx⟩ v w1 (ho.below hb) hs.op.1
  have hbs : (behindL (mkL pe nx hd S Q) ack).sent = (S.map (·.1)).drop (cameN (mkL pe nx hd S Q) ack) := rfl
  have hcn : cameN (mkL pe nx hd S Q) ack = if nx - (S.length : Int) ≤ ack ∧ ack ≤ nx - 1 then (ack + 1 - (nx - (S.length : Int))).toNat else 0 := by
    unfold cameN
    have e1 : (mkL pe nx hd S Q).sent.length = S.length := by simp [mkL]
    rw [e1]
    rfl
  obtain ⟨kc0, hkc⟩ : ∃ kc0, kc0 = cameN (mkL pe nx hd S Q) ack := ⟨_, rfl⟩
  rw [← hkc] at hbs hcn
  have HKC : Hid (kc0 = if nx - (S.length : Int) ≤ ack ∧ ack ≤ nx - 1 then (ack + 1 - (nx - (S.length : Int))).toNat else 0) := hcn
  rw [hbs]
  have cFS := fun w1 (hb : Below w.heap.size w w1) (la : Option Addr) (lc : Nat) (hin : InK frS w1 B (.slice la (S.drop kc0).length lc) (S.drop kc0)) => framesCopy_any (S.drop kc0) (.slice la (S.drop kc0).length lc) w1 hin (fun x hx => (fS x (List.mem_of_mem_drop hx)).op.1) (by rw [List.length_drop]; omega)
  have cG : ∀ (B0 : Nat) (sv1 qv1 : Value) (S1 Q1 : List FrK) (w1 : World), B0 ≤ w1.heap.size → InT frS w1 B0 sv1 S1 → S1.map (·.1) = (S.map (·.1)).drop kc0 → InT frS w1 B0 qv1 Q1 → Q1.map (·.1) = Q.map (·.1) → Calls Tryd.prog 20 #[.agg #[.int .i64 pe, .int .i64 nx, sv1, qv1, .int .i64 H]] w1 fun r w' => ∃ sv' qv' pv, r = .returned (.tuple #[.agg #[.int .i64 pe, .int .i64 (nx + (goK ((S.map (·.1)).drop kc0).length (Q.map (·.1)).length nx : Nat)), sv', qv', .int .i64 H], pv]) ∧ GoOk w' B0 w1.heap.size sv' qv' pv (LinkI.go ⟨pe, nx, (S.map (·.1)).drop kc0, Q.map (·.1), H⟩) ∧ Below w1.heap.size w1 w' := by
    intro B0 sv1 qv1 S1 Q1 w1 hB0 hS1 e1 hQ1 e2
    have l1 : S1.length = ((S.map (·.1)).drop kc0).length := by rw [← e1, List.length_map]
    have l2 : Q1.length = (Q.map (·.1)).length := by rw [← e2, List.length_map]
    have l2' : Q1.length = Q.length := by rw [l2, List.length_map]
    have l1' : S1.length ≤ S.length := by rw [l1, List.length_drop, List.length_map]; omega
    have := filled_any pe nx H S1 Q1 sv1 qv1 w1 hS1 hQ1 (by
      rw [e1]
      intro g hg
      obtain ⟨x, hx, rfl⟩ := List.mem_map.1 (List.mem_of_mem_drop hg)
      exact (fS x hx).op.1) (by
      rw [e2]
      intro g hg
      obtain ⟨x, hx, rfl⟩ := List.mem_map.1 hg
      exact (fQ x hx).op.1) (by omega) (by omega) ⟨by omega, k3.2⟩ (by omega) hB0
    rw [l1, l2, e1, e2] at this
    exact this
  simp only at cC
  obtain ⟨p0, hp0, hpz0, hpz1, hpz2⟩ := info_parts info_pk
  have cI := fun w1 => in_any ack (nx - (S.length : Int)) (nx - 1) w1
  have hSlen := k4
  have hgk := goK_le ((S.map (·.1)).drop kc0).length (Q.map (·.1)).length nx
  obtain ⟨sa, sc, rfl, -⟩ := hS.row
  obtain ⟨qa, qc, rfl, -⟩ := hQ.row
  obtain ⟨ua, uc, rfl, -⟩ := ho.form
  obtain ⟨hl, hp, hr, hx, HB0, hz⟩ := four_blocks w (.cells #[.int .i64 pe, .int .i64 nx, .slice sa S.length sc, .slice qa Q.length qc, .int .i64 hd] 24) (.cells #[.int .i64 pe, .int .i64 num, .bool bare, .int .i64 ack, .int .i64 fk, .int .i64 fh, .int .i64 fe, .slice ua ps.length uc, .string tx] 30) (.cells #[.int .i64 0, .int .i64 0, .slice none 0 0, .slice none 0 0, .int .i64 0] 24) (.cells #[.int .i64 0, .int .i64 0, .int .i64 0, .slice none 0 0, .string ⟨#[]⟩] 28)
  have cM1 := cM _ HB0
  have hzx : w.heap.size + 1 + 1 + 1 < ((((w.alloc (.cells #[.int .i64 pe, .int .i64 nx, .slice sa S.length sc, .slice qa Q.length qc, .int .i64 hd] 24)).alloc (.cells #[.int .i64 pe, .int .i64 num, .bool bare, .int .i64 ack, .int .i64 fk, .int .i64 fh, .int .i64 fe, .slice ua ps.length uc, .string tx] 30)).alloc (.cells #[.int .i64 0, .int .i64 0, .slice none 0 0, .slice none 0 0, .int .i64 0] 24)).alloc (.cells #[.int .i64 0, .int .i64 0, .int .i64 0, .slice none 0 0, .string ⟨#[]⟩] 28)).heap.size := by omega
  have hSb := fun w1 (hb : Below w.heap.size w w1) => hS.below hb
  have hSd : Hid ((S.drop kc0).map (·.1) = (S.map (·.1)).drop kc0) := List.map_drop
  have HRl : Hid ((LinkI.go ⟨pe, nx, (S.map (·.1)).drop kc0, Q.map (·.1), H⟩).2.length ≤ 8) := by
    show (packs pe H nx ((Q.map (·.1)).take (goK ((S.map (·.1)).drop kc0).length (Q.map (·.1)).length nx))).length ≤ 8
    rw [packs_length, List.length_take]
    omega
  generalize LinkI.go ⟨pe, nx, (S.map (·.1)).drop kc0, Q.map (·.1), H⟩ = RG at *
  generalize nx + (goK ((S.map (·.1)).drop kc0).length (Q.map (·.1)).length nx : Nat) = N at *
  have g1 : (pe == 0) = false := by simpa using h2
  have hn1 : 0 < nx := k3.1
  have hn2 : nx ≤ 1048576 := k3.2
  have hsn : (S.length : Int) < nx := k5
  have hd1 := k2.1
  have hd2 := k2.2
  have HHH : Hid ((bare = false ∧ num = hd + 1 ∧ H = hd + 1 ∧ T = true ∧ F = ⟨fk, fh, fe, ps, tx⟩) ∨ ((bare = true ∨ num ≠ hd + 1) ∧ H = hd ∧ T = false ∧ F = fr0)) := hH
  clear hH cM hbs hcn hkc h1 h2 h3 herr k1 k2 k3 k4 k5 k6 k7 hgk hs fS fQ hT lS lQ hS hQ ho hz
  obtain ⟨l0, ll0, _⟩ := blk hl
  obtain ⟨p0', pl0, _⟩ := blk hp
  go_enter Tryd.func6, Tryd.ntmps6
  go_wp2_with fail
  refine cM1.mono ?_
  generalize ((((w.alloc (.cells #[.int .i64 pe, .int .i64 nx, .slice sa S.length sc, .slice qa Q.length qc, .int .i64 hd] 24)).alloc (.cells #[.int .i64 pe, .int .i64 num, .bool bare, .int .i64 ack, .int .i64 fk, .int .i64 fh, .int .i64 fe, .slice ua ps.length uc, .string tx] 30)).alloc (.cells #[.int .i64 0, .int .i64 0, .slice none 0 0, .slice none 0 0, .int .i64 0] 24)).alloc (.cells #[.int .i64 0, .int .i64 0, .int .i64 0, .slice none 0 0, .string ⟨#[]⟩] 28)) = w0 at *
  rintro r w1 ⟨rfl, hb1⟩
  have HB1 := below_two HB0 hb1 (Nat.le_refl _)
  have cP1 := cP _ HB1
  have hz1 := hb1.size
  replace hl := (hb1.block _ ll0).trans hl
  replace hp := (hb1.block _ pl0).trans hp
  replace hr := (hb1.block _ (by omega)).trans hr
  replace hx := (hb1.block _ hzx).trans hx
  clear l0 ll0 p0' pl0 cM1 cP hb1
  obtain ⟨l0, ll0, lf0⟩ := blk hl
  obtain ⟨p0', pl0, pf0⟩ := blk hp
  go_wp2_with fail
  refine cP1.mono ?_
  rintro r w2 ⟨rfl, hb2⟩
  have HB2 := below_two HB1 hb2 (Nat.le_refl _)
  have cL2 := cL _ HB2
  have hz2 := hb2.size
  replace hl := (hb2.block _ ll0).trans hl
  replace hp := (hb2.block _ pl0).trans hp
  replace hr := (hb2.block _ (by omega)).trans hr
  replace hx := (hb2.block _ (by omega)).trans hx
  clear l0 ll0 lf0 p0' pl0 pf0 cP1 hb2 HB1 HB0 cL
  obtain ⟨l0, ll0, lf0⟩ := blk hl
  obtain ⟨p0', pl0, pf0⟩ := blk hp
  go_wp2_with fail
  refine cL2.mono ?_
  rintro r w3 ⟨sv3, qv3, rfl, ⟨K, KQ, hK, eK, hKQ, eQ⟩, hb3⟩
  obtain ⟨ka, kc, rfl⟩ := own_form hK.row
  obtain ⟨oa, oc, rfl⟩ := own_form hKQ.row
  have HEK : Hid (K.map (·.1) = S.map (·.1)) := eK
  have HEQ : Hid (KQ.map (·.1) = Q.map (·.1)) := eQ
  have HB3 := below_two HB2 hb3 (Nat.le_refl _)
  have hz3 := hb3.size
  replace hl := (hb3.block _ ll0).trans hl
  replace hp := (hb3.block _ pl0).trans hp
  replace hr := (hb3.block _ (by omega)).trans hr
  replace hx := (hb3.block _ (by omega)).trans hx
  clear l0 ll0 lf0 p0' pl0 pf0 cL2 hb3 eK eQ HB2
  have hbn := (Below.refl w3.heap.size w3).alloc (Nat.le_refl _) (.cells #[.int .i64 pe, .int .i64 nx, .slice ka K.length kc, .slice oa KQ.length oc, .int .i64 hd] 24)
  have hy := heap_alloc_new w3 (.cells #[.int .i64 pe, .int .i64 nx, .slice ka K.length kc, .slice oa KQ.length oc, .int .i64 hd] 24)
  replace hl := row_old hl (.cells #[.int .i64 pe, .int .i64 nx, .slice ka K.length kc, .slice oa KQ.length oc, .int .i64 hd] 24)
  replace hp := row_old hp (.cells #[.int .i64 pe, .int .i64 nx, .slice ka K.length kc, .slice oa KQ.length oc, .int .i64 hd] 24)
  replace hr := row_old hr (.cells #[.int .i64 pe, .int .i64 nx, .slice ka K.length kc, .slice oa KQ.length oc, .int .i64 hd] 24)
  replace hx := row_old hx (.cells #[.int .i64 pe, .int .i64 nx, .slice ka K.length kc, .slice oa KQ.length oc, .int .i64 hd] 24)
  replace hK := (hK.below hbn).inT
  replace hKQ := (hKQ.below hbn).inT
  have HB4 := below_two HB3 hbn (Nat.le_refl _)
  have hq2 : w.heap.size + 1 + 1 + 1 < w2.heap.size := by omega
  have hz4 : w3.heap.size + 1 ≤ (w3.alloc (.cells #[.int .i64 pe, .int .i64 nx, .slice ka K.length kc, .slice oa KQ.length oc, .int .i64 hd] 24)).heap.size := by simp
  obtain ⟨l0, ll0, lf0⟩ := blk hl
  obtain ⟨p0', pl0, pf0⟩ := blk hp
  obtain ⟨y0, yl0, yf0⟩ := blk hy
  clear hbn HB3
  go_wp2_with fail
  generalize (w3.alloc (.cells #[.int .i64 pe, .int .i64 nx, .slice ka K.length kc, .slice oa KQ.length oc, .int .i64 hd] 24)) = w4 at *
  have cI4 := cI w4
  clear cI
  by_cases hin : nx - (S.length : Int) ≤ ack ∧ ack ≤ nx - 1
  · rw [decide_eq_true hin] at cI4
    refine cI4.mono ?_
    rintro r w5 ⟨rfl, hw5⟩
    rw [hw5]
    clear hw5 w5 cI4
    have hk0 : kc0 = (ack + 1 - (nx - (S.length : Int))).toNat := by rw [HKC.out, if_pos hin]
    have hz0 : (ack + 1 - (nx - (S.length : Int))) = (kc0 : Int) := by rw [hk0]; have := hin.1; omega
    obtain ⟨la, lc, hcut, hinK⟩ := cut_inK (hSb w4 HB4) kc0 (by have := hin.2; omega) (ack + 1 - (nx - (S.length : Int))) hz0
    have cS4 := cFS w4 HB4 la lc hinK
    have hi1 := hin.1
    have hi2 := hin.2
    clear hk0 hz0 hinK hin cFS
    have HDR : Hid ((S.drop kc0).map (·.1) = (S.map (·.1)).drop kc0) := hSd
    generalize (S.drop kc0) = SD at *
    go_wp2_with fail
    refine cS4.mono ?_
    rintro r w5 ⟨s5, rfl, ⟨J, hJ, eJ⟩, hb5⟩
    obtain ⟨ja, jc, rfl⟩ := own_form hJ.row
    have HJ : Hid (J.map (·.1) = (S.map (·.1)).drop kc0) := eJ.trans HDR.out
    replace hl := (hb5.block _ ll0).trans hl
    replace hp := (hb5.block _ pl0).trans hp
    replace hr := (hb5.block _ (by omega)).trans hr
    replace hx := (hb5.block _ (by omega)).trans hx
    replace hy := (hb5.block _ yl0).trans hy
    replace hKQ := hKQ.below hb5
    have HB5 := below_two HB4 hb5 (Nat.le_refl _)
    have hz5 := hb5.size
    obtain ⟨hy6, hs6⟩ := blk_put hy 2 (.slice ja J.length jc)
    replace hl := hs6.row hl (by omega)
    replace hp := hs6.row hp (by omega)
    replace hr := hs6.row hr (by omega)
    replace hx := hs6.row hx (by omega)
    have hJ6 := (hJ.stored hy (by decide) (by decide) hs6).inT.base (show w2.heap.size ≤ w4.heap.size by omega)
    replace hKQ := hKQ.stored hy (by decide) (by decide) hs6
    have HB6 := HB5.trans (hs6.below (B := w.heap.size) (fun i e => by omega) HB5.size)
    have hz6 := hs6.size
    clear l0 ll0 lf0 p0' pl0 pf0 y0 yl0 yf0 cS4 hcut hJ eJ hb5 hs6 HB5 HB4 hSb hSd HDR
    obtain ⟨y5, yl5, yf5⟩ := blk hy
    have ql : w.heap.size < w5.heap.size := by omega
    have qp : w.heap.size + 1 < w5.heap.size := by omega
    obtain ⟨l0, ll0, lf0⟩ := blk hl
    obtain ⟨p0', pl0, pf0⟩ := blk hp
    obtain ⟨y6, yl6, yf6⟩ := blk hy6
    rcases HHH.out with ⟨e0, e1, e2, e3, e4⟩ | ⟨e0, e2, e3, e4⟩
    · subst e3 e1 e0 e2
      have HF : Hid (F = ⟨fk, fh, fe, ps, tx⟩) := e4
      have g2 : (hd + 1 == hd + 1) = true := by simp
      have g3 : hd < 1048576 := by omega
      clear e4 HHH
      go_wp2_with fail
      obtain ⟨hy7, hs7⟩ := blk_put hy6 4 (.int .i64 (hd + 1))
      have hl7 := hs7.row hl (by omega)
      have hp7 := hs7.row hp (by omega)
      have hr7 := hs7.row hr (by omega)
      have hx7 := hs7.row hx (by omega)
      have hJ7 := hJ6.stored hy6 (by decide) (by decide) hs7
      have hKQ7 := hKQ.stored hy6 (by decide) (by decide) hs7
      have HB7 := HB6.trans (hs7.below (B := w.heap.size) (fun k e => by omega) HB6.size)
      have hz7 : ((w5.setCell ⟨w3.heap.size, 2, none⟩ (.slice ja J.length jc)).setCell ⟨w3.heap.size, 4, none⟩ (.int .i64 (hd + 1))).heap.size = w5.heap.size := by simp
      have hbF := (Below.refl ((w5.setCell ⟨w3.heap.size, 2, none⟩ (.slice ja J.length jc)).setCell ⟨w3.heap.size, 4, none⟩ (.int .i64 (hd + 1))).heap.size ((w5.setCell ⟨w3.heap.size, 2, none⟩ (.slice ja J.length jc)).setCell ⟨w3.heap.size, 4, none⟩ (.int .i64 (hd + 1)))).alloc (Nat.le_refl _) (.cells #[.int .i64 0, .int .i64 0, .int .i64 0, .slice none 0 0, .string ⟨#[]⟩] 28)
      have hf8 := heap_alloc_new ((w5.setCell ⟨w3.heap.size, 2, none⟩ (.slice ja J.length jc)).setCell ⟨w3.heap.size, 4, none⟩ (.int .i64 (hd + 1))) (.cells #[.int .i64 0, .int .i64 0, .int .i64 0, .slice none 0 0, .string ⟨#[]⟩] 28)
      rw [hz7] at hf8
      have HZ7 : Hid (((w5.setCell ⟨w3.heap.size, 2, none⟩ (.slice ja J.length jc)).setCell ⟨w3.heap.size, 4, none⟩ (.int .i64 (hd + 1))).heap.size = w5.heap.size) := hz7
      have cC8 := cC _ (below_two HB7 hbF (Nat.le_refl _))
      clear l0 ll0 lf0 p0' pl0 pf0 y6 yl6 yf6 y5 yl5 yf5 ql qp cC hz7 hl hp hr hx hy6 hs7 hJ6 hKQ HB6
      refine cC8.mono ?_
      rintro r wD ⟨xu, rfl, hox, hbD⟩
      obtain ⟨xa, xc, rfl⟩ := own_form hox
      have hbE := below_two hbF hbD (Nat.le_refl _)
      have hf9 := (hbD.block _ (Array.getElem?_eq_some_iff.1 hf8).1).trans hf8
      obtain ⟨hf10, hs10⟩ := puts_all hf9 [.int .i64 fk, .int .i64 fh, .int .i64 fe, .slice xa ps.length xc, .string tx] rfl
      simp only [puts, Nat.zero_add, Nat.reduceAdd] at hf10 hs10
      have hbW : Below ((w5.setCell ⟨w3.heap.size, 2, none⟩ (.slice ja J.length jc)).setCell ⟨w3.heap.size, 4, none⟩ (.int .i64 (hd + 1))).heap.size ((w5.setCell ⟨w3.heap.size, 2, none⟩ (.slice ja J.length jc)).setCell ⟨w3.heap.size, 4, none⟩ (.int .i64 (hd + 1))) (((((wD.setCell ⟨w5.heap.size, 0, none⟩ (.int .i64 fk)).setCell ⟨w5.heap.size, 1, none⟩ (.int .i64 fh)).setCell ⟨w5.heap.size, 2, none⟩ (.int .i64 fe)).setCell ⟨w5.heap.size, 3, none⟩ (.slice xa ps.length xc)).setCell ⟨w5.heap.size, 4, none⟩ (.string tx)) := hbE.trans (hs10.below (B := ((w5.setCell ⟨w3.heap.size, 2, none⟩ (.slice ja J.length jc)).setCell ⟨w3.heap.size, 4, none⟩ (.int .i64 (hd + 1))).heap.size) (fun k e => by rw [HZ7.out]; omega) hbE.size)
      have hlE := (hbW.block _ (Array.getElem?_eq_some_iff.1 hl7).1).trans hl7
      have hpE := (hbW.block _ (Array.getElem?_eq_some_iff.1 hp7).1).trans hp7
      have hrE := (hbW.block _ (Array.getElem?_eq_some_iff.1 hr7).1).trans hr7
      have hxE := (hbW.block _ (Array.getElem?_eq_some_iff.1 hx7).1).trans hx7
      have hyE := (hbW.block _ (Array.getElem?_eq_some_iff.1 hy7).1).trans hy7
      have hJE := hJ7.below hbW
      have hKQE := hKQ7.below hbW
      have HBE := below_two HB7 hbW (Nat.le_refl _)
      have hoE0 := own_chg hox hs10 (fun k hk e => row_ne hox hf9 (by decide) (by rw [← e]; exact hk.symm))
      have hzo0 : w.heap.size ≤ (((w5.setCell ⟨w3.heap.size, 2, none⟩ (.slice ja J.length jc)).setCell ⟨w3.heap.size, 4, none⟩ (.int .i64 (hd + 1))).alloc (.cells #[.int .i64 0, .int .i64 0, .int .i64 0, .slice none 0 0, .string ⟨#[]⟩] 28)).heap.size := by have := HB7.size; simp at this ⊢; omega
      have hw2E : w2.heap.size ≤ (((((wD.setCell ⟨w5.heap.size, 0, none⟩ (.int .i64 fk)).setCell ⟨w5.heap.size, 1, none⟩ (.int .i64 fh)).setCell ⟨w5.heap.size, 2, none⟩ (.int .i64 fe)).setCell ⟨w5.heap.size, 3, none⟩ (.slice xa ps.length xc)).setCell ⟨w5.heap.size, 4, none⟩ (.string tx)).heap.size := by have := hbW.size; rw [HZ7.out] at this; omega
      obtain ⟨f9, fl9, ff9⟩ := blk hf9
      obtain ⟨yE, ylE, yfE⟩ := blk hyE
      clear cC8 hl7 hp7 hr7 hx7 hy7 hJ7 hKQ7 HB7 hbF hbD hbE hbW hf8 hox hs10 HZ7
      go_wp2_with fail
      generalize (((((wD.setCell ⟨w5.heap.size, 0, none⟩ (.int .i64 fk)).setCell ⟨w5.heap.size, 1, none⟩ (.int .i64 fh)).setCell ⟨w5.heap.size, 2, none⟩ (.int .i64 fe)).setCell ⟨w5.heap.size, 3, none⟩ (.slice xa ps.length xc)).setCell ⟨w5.heap.size, 4, none⟩ (.string tx)) = wE at *
      have hfE : wE.heap[w5.heap.size]? = some (Obj.cells #[.int .i64 F.kind, .int .i64 F.heard, .int .i64 F.epoch, .slice xa F.op.length xc, .string F.text] 28 (0, 0)) := by rw [HF.out]; exact hf10
      have hoE := own_base (show wE.ownsRow _ 63 3 (.slice xa F.op.length xc) F.op.length (partCells F.op) by rw [HF.out]; exact hoE0) hzo0
      have hzo : w.heap.size ≤ w.heap.size := Nat.le_refl _
      clear hf9 f9 fl9 ff9 yE ylE yfE hf10 hoE0 HF hyE g2 g3 hzo0
      generalize hHX : hd + 1 = H at *
      have HHX : Hid (hd + 1 = H) := hHX
      clear hHX

      have cGE := cG w2.heap.size (.slice ja J.length jc) (.slice oa KQ.length oc) J KQ wE hw2E hJE HJ.out hKQE HEQ.out
      clear cG hJE hKQE
      refine cGE.mono ?_
      rintro r wF ⟨sv9, qv9, pv9, rfl, hG, hbF⟩
      obtain ⟨K9, Q9, P9, q1, q2, q3, q4, q5, q6⟩ := hG.ex
      obtain ⟨sa6, sc6, rfl, -⟩ := q1.row
      obtain ⟨qa6, qc6, rfl, -⟩ := q3.row
      obtain ⟨pa6, pc6, rfl⟩ := own_form q5.row
      have hPl : P9.length ≤ 8 := by have := congrArg List.length q6; rw [List.length_map] at this; have := HRl.out; omega
      have Hq2 : Hid (K9.map (·.1) = RG.1.sent) := q2
      have Hq4 : Hid (Q9.map (·.1) = RG.1.queue) := q4
      have Hq6 : Hid (P9.map (·.1) = RG.2) := q6
      have HBF := below_two HBE hbF (Nat.le_refl _)
      have hzF := hbF.size
      have hwE := HBE.size
      have hlF := (hbF.block _ (Array.getElem?_eq_some_iff.1 hlE).1).trans hlE
      have hpF := (hbF.block _ (Array.getElem?_eq_some_iff.1 hpE).1).trans hpE
      have hrF := (hbF.block _ (Array.getElem?_eq_some_iff.1 hrE).1).trans hrE
      have hxF := (hbF.block _ (Array.getElem?_eq_some_iff.1 hxE).1).trans hxE
      have hfF := (hbF.block _ (Array.getElem?_eq_some_iff.1 hfE).1).trans hfE
      have hoF := own_below hoE hbF
      have hbY := (Below.refl wF.heap.size wF).alloc (Nat.le_refl _) (.cells #[.int .i64 pe, .int .i64 N, .slice sa6 K9.length sc6, .slice qa6 Q9.length qc6, .int .i64 H] 24)
      have hyY := heap_alloc_new wF (.cells #[.int .i64 pe, .int .i64 N, .slice sa6 K9.length sc6, .slice qa6 Q9.length qc6, .int .i64 H] 24)
      have hrY := row_old hrF (.cells #[.int .i64 pe, .int .i64 N, .slice sa6 K9.length sc6, .slice qa6 Q9.length qc6, .int .i64 H] 24)
      have hxY := row_old hxF (.cells #[.int .i64 pe, .int .i64 N, .slice sa6 K9.length sc6, .slice qa6 Q9.length qc6, .int .i64 H] 24)
      have hfY := row_old hfF (.cells #[.int .i64 pe, .int .i64 N, .slice sa6 K9.length sc6, .slice qa6 Q9.length qc6, .int .i64 H] 24)
      have k1 := q1.below hbY
      have k3 := q3.below hbY
      have k5 := q5.below hbY
      have hoY := own_below hoF hbY
      have HBY := below_two HBF hbY (Nat.le_refl _)
      have hn1 : w5.heap.size < wF.heap.size := (Array.getElem?_eq_some_iff.1 hfF).1
      have hn2 : w.heap.size + 1 < wF.heap.size := (Array.getElem?_eq_some_iff.1 hpF).1
      have hn3 : w.heap.size + 1 + 1 + 1 < wF.heap.size := (Array.getElem?_eq_some_iff.1 hxF).1
      have hn4 : w.heap.size + 1 + 1 < wF.heap.size := (Array.getElem?_eq_some_iff.1 hrF).1
      have hn6' : w.heap.size + 1 + 1 + 1 < w5.heap.size := by omega
      have hn5 : w.heap.size < wF.heap.size := (Array.getElem?_eq_some_iff.1 hlF).1
      have hzY : wF.heap.size + 1 ≤ (wF.alloc (.cells #[.int .i64 pe, .int .i64 N, .slice sa6 K9.length sc6, .slice qa6 Q9.length qc6, .int .i64 H] 24)).heap.size := by simp
      clear hG q1 q2 q3 q4 q5 q6 hlE hpE hrE hxE hfE hoE hoF hbF cGE hbY HBE
      obtain ⟨lF, llF, lfF⟩ := blk hlF
      obtain ⟨pF, plF, pfF⟩ := blk hpF
      obtain ⟨fF, flF, ffF⟩ := blk hfF
      obtain ⟨rF, rlF, rfF⟩ := blk hrF
      obtain ⟨xF, xlF, xfF⟩ := blk hxF
      obtain ⟨yY, ylY, yfY⟩ := blk hyY
      have hrw := k5.ownPk
      go_wp2_with (at_builtin; refine wpList_append_lies _ rfl _ _ 32 rfl wE.heap.size 30 p0 (.agg #[.int .i64 0, .int .i64 0, .bool false, .int .i64 0, .int .i64 0, .int .i64 0, .int .i64 0, .slice none 0 0, .string .empty]) 9 96 Tryd.underlying32 hp0 hpz0 hpz1 hpz2 rfl (by decide) _ _ _ rfl (hrw.alloc _) ⟨wF.heap.size + 1, 0, none⟩ 1 1 [.int .i64 pe, .int .i64 0, .bool true, .int .i64 H, .int .i64 0, .int .i64 0, .int .i64 0, .slice none 0 0, .string ⟨#[]⟩] rfl rfl (by have hq := World.news_of_block (cs := #[.int .i64 pe, .int .i64 0, .bool true, .int .i64 H, .int .i64 0, .int .i64 0, .int .i64 0, .slice none 0 0, .string ⟨#[]⟩]) (t := 30) (fr := (0, 0)) (heap_alloc_new (wF.alloc (.cells #[.int .i64 pe, .int .i64 N, .slice sa6 K9.length sc6, .slice qa6 Q9.length qc6, .int .i64 H] 24)) _); rw [show (wF.alloc (.cells #[.int .i64 pe, .int .i64 N, .slice sa6 K9.length sc6, .slice qa6 Q9.length qc6, .int .i64 H] 24)).heap.size = wF.heap.size + 1 by simp] at hq; exact hq) (by simp [Value.oneCell']) (by decide) (by unfold maxLen; omega) (by omega) (by simp; omega) _ rfl ?_; intro g8 cap8 w8 hown8 hgr8 hat8 hlt8)
      have hyZ := row_kept (hrw.alloc _) (row_old hyY _) (by decide) hgr8
      have hfZ := row_kept (hrw.alloc _) (row_old hfY _) (by decide) hgr8
      have hrZ := row_kept (hrw.alloc _) (row_old hrY _) (by decide) hgr8
      have hxZ := row_kept (hrw.alloc _) (row_old hxY _) (by decide) hgr8
      have hoZ := own_grown hoY hrw hgr8 (by decide)
      have hGZ : GoOk w8 w2.heap.size wE.heap.size (.slice sa6 K9.length sc6) (.slice qa6 Q9.length qc6) (.slice (some ⟨g8, 0, none⟩) (P9.length + 1) cap8) (RG.1, RG.2 ++ [⟨pe, 0, true, H, fr0⟩]) := ⟨K9, Q9, _, k1.other hrw hgr8 (by decide) (by decide), Hq2.out, k3.other hrw hgr8 (by decide) (by decide), Hq4.out, RowK.app (x := ((⟨pe, 0, true, H, fr0⟩, Value.slice none 0 0) : PkK)) k5 (World.ownsRow_nil _ _ _ _) hown8 hgr8, by rw [List.map_append, Hq6.out]; rfl⟩
      have HBZ : Below w.heap.size w w8 := (HBY.alloc HBY.size _).grown hgr8 (by have := HBY.size; simp at this ⊢; omega) (fun k e => by have := (hrw.lt k e).1; omega)
      have hn6 := hgr8.size
      clear lF llF lfF pF plF pfF fF flF ffF rF rlF rfF xF xlF xfF yY ylY yfY hrw hown8 hgr8 hat8 hlt8 HBY
      obtain ⟨rrd0, rrd1, rrd2⟩ := blk hrZ
      have rra0 : w8.cell? ⟨w.heap.size + 1 + 1, 0, none⟩ = some (.int .i64 0) := rrd0 0
      have rrb0 : w8.frozen? ⟨w.heap.size + 1 + 1, 0, none⟩ = false := rrd2 0
      have rra1 : w8.cell? ⟨w.heap.size + 1 + 1, 1, none⟩ = some (.int .i64 0) := rrd0 1
      have rrb1 : w8.frozen? ⟨w.heap.size + 1 + 1, 1, none⟩ = false := rrd2 1
      have rra2 : w8.cell? ⟨w.heap.size + 1 + 1, 2, none⟩ = some (.slice none 0 0) := rrd0 2
      have rrb2 : w8.frozen? ⟨w.heap.size + 1 + 1, 2, none⟩ = false := rrd2 2
      have rra3 : w8.cell? ⟨w.heap.size + 1 + 1, 3, none⟩ = some (.slice none 0 0) := rrd0 3
      have rrb3 : w8.frozen? ⟨w.heap.size + 1 + 1, 3, none⟩ = false := rrd2 3
      have rra4 : w8.cell? ⟨w.heap.size + 1 + 1, 4, none⟩ = some (.int .i64 0) := rrd0 4
      have rrb4 : w8.frozen? ⟨w.heap.size + 1 + 1, 4, none⟩ = false := rrd2 4
      clear rrd0 rrd1 rrd2
      obtain ⟨xxd0, xxd1, xxd2⟩ := blk hxZ
      have xxa0 : w8.cell? ⟨w.heap.size + 1 + 1 + 1, 0, none⟩ = some (.int .i64 0) := xxd0 0
      have xxb0 : w8.frozen? ⟨w.heap.size + 1 + 1 + 1, 0, none⟩ = false := xxd2 0
      have xxa1 : w8.cell? ⟨w.heap.size + 1 + 1 + 1, 1, none⟩ = some (.int .i64 0) := xxd0 1
      have xxb1 : w8.frozen? ⟨w.heap.size + 1 + 1 + 1, 1, none⟩ = false := xxd2 1
      have xxa2 : w8.cell? ⟨w.heap.size + 1 + 1 + 1, 2, none⟩ = some (.int .i64 0) := xxd0 2
      have xxb2 : w8.frozen? ⟨w.heap.size + 1 + 1 + 1, 2, none⟩ = false := xxd2 2
      have xxa3 : w8.cell? ⟨w.heap.size + 1 + 1 + 1, 3, none⟩ = some (.slice none 0 0) := xxd0 3
      have xxb3 : w8.frozen? ⟨w.heap.size + 1 + 1 + 1, 3, none⟩ = false := xxd2 3
      have xxa4 : w8.cell? ⟨w.heap.size + 1 + 1 + 1, 4, none⟩ = some (.string ⟨#[]⟩) := xxd0 4
      have xxb4 : w8.frozen? ⟨w.heap.size + 1 + 1 + 1, 4, none⟩ = false := xxd2 4
      clear xxd0 xxd1 xxd2
      obtain ⟨yyd0, yyd1, yyd2⟩ := blk hyZ
      have yya0 : w8.cell? ⟨wF.heap.size, 0, none⟩ = some (.int .i64 pe) := yyd0 0
      have yya1 : w8.cell? ⟨wF.heap.size, 1, none⟩ = some (.int .i64 N) := yyd0 1
      have yya2 : w8.cell? ⟨wF.heap.size, 2, none⟩ = some (.slice sa6 K9.length sc6) := yyd0 2
      have yya3 : w8.cell? ⟨wF.heap.size, 3, none⟩ = some (.slice qa6 Q9.length qc6) := yyd0 3
      have yya4 : w8.cell? ⟨wF.heap.size, 4, none⟩ = some (.int .i64 H) := yyd0 4
      clear yyd0 yyd1 yyd2
      obtain ⟨ffd0, ffd1, ffd2⟩ := blk hfZ
      have ffa0 : w8.cell? ⟨w5.heap.size, 0, none⟩ = some (.int .i64 F.kind) := ffd0 0
      have ffa1 : w8.cell? ⟨w5.heap.size, 1, none⟩ = some (.int .i64 F.heard) := ffd0 1
      have ffa2 : w8.cell? ⟨w5.heap.size, 2, none⟩ = some (.int .i64 F.epoch) := ffd0 2
      have ffa3 : w8.cell? ⟨w5.heap.size, 3, none⟩ = some (.slice xa F.op.length xc) := ffd0 3
      have ffa4 : w8.cell? ⟨w5.heap.size, 4, none⟩ = some (.string F.text) := ffd0 4
      clear ffd0 ffd1 ffd2

      have hne0 : w.heap.size + 1 + 1 ≠ w.heap.size + 1 + 1 + 1 := by omega
      have hne1 : w.heap.size + 1 + 1 ≠ wF.heap.size := by omega
      have hne2 : w.heap.size + 1 + 1 ≠ w5.heap.size := by omega
      have hne3 : w.heap.size + 1 + 1 + 1 ≠ w.heap.size + 1 + 1 := by omega
      have hne4 : w.heap.size + 1 + 1 + 1 ≠ wF.heap.size := by omega
      have hne5 : w.heap.size + 1 + 1 + 1 ≠ w5.heap.size := by omega
      have hne6 : wF.heap.size ≠ w.heap.size + 1 + 1 := by omega
      have hne7 : wF.heap.size ≠ w.heap.size + 1 + 1 + 1 := by omega
      have hne8 : wF.heap.size ≠ w5.heap.size := by omega
      have hne9 : w5.heap.size ≠ w.heap.size + 1 + 1 := by omega
      have hne10 : w5.heap.size ≠ w.heap.size + 1 + 1 + 1 := by omega
      have hne11 : w5.heap.size ≠ wF.heap.size := by omega
      have HGZ : Hid (GoOk w8 w2.heap.size wE.heap.size (.slice sa6 K9.length sc6) (.slice qa6 Q9.length qc6) (.slice (some ⟨g8, 0, none⟩) (P9.length + 1) cap8) (RG.1, RG.2 ++ [⟨pe, 0, true, H, fr0⟩])) := hGZ
      have HOZ : Hid (w8.ownsRow w.heap.size 63 3 (.slice xa F.op.length xc) F.op.length (partCells F.op)) := own_base hoZ hzo
      have HBZh : Hid (Below w.heap.size w w8) := HBZ
      have HRZ : Hid (w8.heap[w.heap.size + 1 + 1]? = some (Obj.cells #[.int .i64 0, .int .i64 0, .slice none 0 0, .slice none 0 0, .int .i64 0] 24 (0, 0))) := hrZ
      have HXZ : Hid (w8.heap[w.heap.size + 1 + 1 + 1]? = some (Obj.cells #[.int .i64 0, .int .i64 0, .int .i64 0, .slice none 0 0, .string ⟨#[]⟩] 28 (0, 0))) := hxZ
      clear hGZ hoZ HBZ hrZ hxZ hyZ hfZ k1 k3 k5 hoY hrY hxY hyY hfY
      go_region
      all_goals
        go_wp2_with fail
        obtain ⟨hr11, hc1⟩ := puts_all HRZ.out [.int .i64 pe, .int .i64 N, .slice sa6 K9.length sc6, .slice qa6 Q9.length qc6, .int .i64 H] rfl
        simp only [puts, Nat.zero_add, Nat.reduceAdd] at hr11 hc1
        have hx11 := hc1.row HXZ.out (by omega)
        obtain ⟨hx12, hc2⟩ := puts_all hx11 [.int .i64 F.kind, .int .i64 F.heard, .int .i64 F.epoch, .slice xa F.op.length xc, .string F.text] rfl
        simp only [puts, Nat.zero_add, Nat.reduceAdd] at hx12 hc2
        have hr12 := hc2.row hr11 (by omega)
        have ho1 := own_chg HOZ.out hc1 (fun k hk e => row_ne HOZ.out HRZ.out (by decide) (by rw [← e]; exact hk.symm))
        have ho2 := own_chg ho1 hc2 (fun k hk e => row_ne ho1 hx11 (by decide) (by rw [← e]; exact hk.symm))
        have hsz := HBZh.out.size
        have HBN := (HBZh.out.trans (hc1.below (B := w.heap.size) (fun i e => by omega) hsz)).trans (hc2.below (B := w.heap.size) (fun i e => by omega) (Nat.le_trans hsz hc1.size))
        have HGK := ((HGZ.out.ahead (show w.heap.size + 1 + 1 < w2.heap.size by omega) (show w.heap.size + 1 + 1 < wE.heap.size by omega) hc1).ahead (show w.heap.size + 1 + 1 + 1 < w2.heap.size by omega) (show w.heap.size + 1 + 1 + 1 < wE.heap.size by omega) hc2).base (Nat.zero_le _) (show w.heap.size ≤ wE.heap.size by omega)
        have hdw := below_drew ((((((((((w8.setCell ⟨w.heap.size + 1 + 1, 0, none⟩ (.int .i64 pe)).setCell ⟨w.heap.size + 1 + 1, 1, none⟩ (.int .i64 N)).setCell ⟨w.heap.size + 1 + 1, 2, none⟩ (.slice sa6 K9.length sc6)).setCell ⟨w.heap.size + 1 + 1, 3, none⟩ (.slice qa6 Q9.length qc6)).setCell ⟨w.heap.size + 1 + 1, 4, none⟩ (.int .i64 H)).setCell ⟨w.heap.size + 1 + 1 + 1, 0, none⟩ (.int .i64 F.kind)).setCell ⟨w.heap.size + 1 + 1 + 1, 1, none⟩ (.int .i64 F.heard)).setCell ⟨w.heap.size + 1 + 1 + 1, 2, none⟩ (.int .i64 F.epoch)).setCell ⟨w.heap.size + 1 + 1 + 1, 3, none⟩ (.slice xa F.op.length xc)).setCell ⟨w.heap.size + 1 + 1 + 1, 4, none⟩ (.string F.text))
        have hr13 := heap_drewH hr12
        have hx13 := heap_drewH hx12
        have ho3 := own_below ho2 hdw
        have HBN3 := HBN.drew
        have HGK3 := HGK.below hdw
        clear hr11 hc1 hx11 hx12 hc2 hr12 ho1 ho2 HBN HGK hdw HGZ HOZ HBZh HRZ HXZ
        generalize ((((((((((w8.setCell ⟨w.heap.size + 1 + 1, 0, none⟩ (.int .i64 pe)).setCell ⟨w.heap.size + 1 + 1, 1, none⟩ (.int .i64 N)).setCell ⟨w.heap.size + 1 + 1, 2, none⟩ (.slice sa6 K9.length sc6)).setCell ⟨w.heap.size + 1 + 1, 3, none⟩ (.slice qa6 Q9.length qc6)).setCell ⟨w.heap.size + 1 + 1, 4, none⟩ (.int .i64 H)).setCell ⟨w.heap.size + 1 + 1 + 1, 0, none⟩ (.int .i64 F.kind)).setCell ⟨w.heap.size + 1 + 1 + 1, 1, none⟩ (.int .i64 F.heard)).setCell ⟨w.heap.size + 1 + 1 + 1, 2, none⟩ (.int .i64 F.epoch)).setCell ⟨w.heap.size + 1 + 1 + 1, 3, none⟩ (.slice xa F.op.length xc)).setCell ⟨w.heap.size + 1 + 1 + 1, 4, none⟩ (.string F.text)).drew = w9 at *
        obtain ⟨t9, _, _⟩ := blk hr13
        obtain ⟨u9, _, _⟩ := blk hx13
        exact bodyPost_ret (v := .tuple #[.agg #[.int .i64 pe, .int .i64 N, .slice sa6 K9.length sc6, .slice qa6 Q9.length qc6, .int .i64 H], .agg #[.int .i64 F.kind, .int .i64 F.heard, .int .i64 F.epoch, .slice xa F.op.length xc, .string F.text], .bool true, .slice (some ⟨g8, 0, none⟩) (P9.length + 1) cap8, .int .i64 0]) (by simp [results, Tryd.results6, go_sem, t9, u9]) rfl (by rw [HHX.out]; exact ⟨_, _, _, _, rfl, HGK3, ho3, HBN3⟩)
    · cases bare
      · have g2 : (num == hd + 1) = false := by rcases e0 with h | h; cases h; simpa using h
        subst e3 e2
        clear e0
        have HF : Hid (F = fr0) := e4
        clear e4 HHH
        go_wp2_with fail
        clear g2
        have hbF := (Below.refl (w5.setCell ⟨w3.heap.size, 2, none⟩ (.slice ja J.length jc)).heap.size (w5.setCell ⟨w3.heap.size, 2, none⟩ (.slice ja J.length jc))).alloc (Nat.le_refl _) (.cells #[.int .i64 0, .int .i64 0, .int .i64 0, .slice none 0 0, .string ⟨#[]⟩] 28)
        have hf8 := heap_alloc_new (w5.setCell ⟨w3.heap.size, 2, none⟩ (.slice ja J.length jc)) (.cells #[.int .i64 0, .int .i64 0, .int .i64 0, .slice none 0 0, .string ⟨#[]⟩] 28)
        rw [show (w5.setCell ⟨w3.heap.size, 2, none⟩ (.slice ja J.length jc)).heap.size = w5.heap.size by first | rfl | simp] at hf8
        have hlE := row_old hl (.cells #[.int .i64 0, .int .i64 0, .int .i64 0, .slice none 0 0, .string ⟨#[]⟩] 28)
        have hpE := row_old hp (.cells #[.int .i64 0, .int .i64 0, .int .i64 0, .slice none 0 0, .string ⟨#[]⟩] 28)
        have hrE := row_old hr (.cells #[.int .i64 0, .int .i64 0, .int .i64 0, .slice none 0 0, .string ⟨#[]⟩] 28)
        have hxE := row_old hx (.cells #[.int .i64 0, .int .i64 0, .int .i64 0, .slice none 0 0, .string ⟨#[]⟩] 28)
        have hJE := hJ6.below hbF
        have hKQE := hKQ.below hbF
        have HBE := below_two HB6 hbF (Nat.le_refl _)
        have hw2E : w2.heap.size ≤ ((w5.setCell ⟨w3.heap.size, 2, none⟩ (.slice ja J.length jc)).alloc (.cells #[.int .i64 0, .int .i64 0, .int .i64 0, .slice none 0 0, .string ⟨#[]⟩] 28)).heap.size := by have := hbF.size; simp at this ⊢; omega
        clear l0 ll0 lf0 p0' pl0 pf0 y6 yl6 yf6 y5 yl5 yf5 ql qp cC hl hp hr hx hy6 hJ6 hKQ HB6 hbF
        generalize ((w5.setCell ⟨w3.heap.size, 2, none⟩ (.slice ja J.length jc)).alloc (.cells #[.int .i64 0, .int .i64 0, .int .i64 0, .slice none 0 0, .string ⟨#[]⟩] 28)) = wE at *
        obtain ⟨xa, xc, hxa⟩ : ∃ xa xc, (Value.slice xa 0 xc) = .slice none 0 0 := ⟨none, 0, rfl⟩
        have hfE : wE.heap[w5.heap.size]? = some (Obj.cells #[.int .i64 F.kind, .int .i64 F.heard, .int .i64 F.epoch, .slice xa F.op.length xc, .string F.text] 28 (0, 0)) := by rw [HF.out]; show _ = some (Obj.cells #[.int .i64 0, .int .i64 0, .int .i64 0, .slice xa 0 xc, .string ⟨#[]⟩] 28 (0, 0)); rw [hxa]; exact hf8
        have hoE : wE.ownsRow w.heap.size 63 3 (.slice xa F.op.length xc) F.op.length (partCells F.op) := by rw [HF.out]; show wE.ownsRow w.heap.size 63 3 (.slice xa 0 xc) 0 []; rw [hxa]; exact World.ownsRow_nil _ _ _ _
        have hzo : w.heap.size ≤ w.heap.size := Nat.le_refl _
        clear hf8 hxa HF

        have cGE := cG w2.heap.size (.slice ja J.length jc) (.slice oa KQ.length oc) J KQ wE hw2E hJE HJ.out hKQE HEQ.out
        clear cG hJE hKQE
        refine cGE.mono ?_
        rintro r wF ⟨sv9, qv9, pv9, rfl, hG, hbF⟩
        obtain ⟨K9, Q9, P9, q1, q2, q3, q4, q5, q6⟩ := hG.ex
        obtain ⟨sa6, sc6, rfl, -⟩ := q1.row
        obtain ⟨qa6, qc6, rfl, -⟩ := q3.row
        obtain ⟨pa6, pc6, rfl⟩ := own_form q5.row
        have hPl : P9.length ≤ 8 := by have := congrArg List.length q6; rw [List.length_map] at this; have := HRl.out; omega
        have Hq2 : Hid (K9.map (·.1) = RG.1.sent) := q2
        have Hq4 : Hid (Q9.map (·.1) = RG.1.queue) := q4
        have Hq6 : Hid (P9.map (·.1) = RG.2) := q6
        have HBF := below_two HBE hbF (Nat.le_refl _)
        have hzF := hbF.size
        have hwE := HBE.size
        have hlF := (hbF.block _ (Array.getElem?_eq_some_iff.1 hlE).1).trans hlE
        have hpF := (hbF.block _ (Array.getElem?_eq_some_iff.1 hpE).1).trans hpE
        have hrF := (hbF.block _ (Array.getElem?_eq_some_iff.1 hrE).1).trans hrE
        have hxF := (hbF.block _ (Array.getElem?_eq_some_iff.1 hxE).1).trans hxE
        have hfF := (hbF.block _ (Array.getElem?_eq_some_iff.1 hfE).1).trans hfE
        have hoF := own_below hoE hbF
        have hbY := (Below.refl wF.heap.size wF).alloc (Nat.le_refl _) (.cells #[.int .i64 pe, .int .i64 N, .slice sa6 K9.length sc6, .slice qa6 Q9.length qc6, .int .i64 H] 24)
        have hyY := heap_alloc_new wF (.cells #[.int .i64 pe, .int .i64 N, .slice sa6 K9.length sc6, .slice qa6 Q9.length qc6, .int .i64 H] 24)
        have hrY := row_old hrF (.cells #[.int .i64 pe, .int .i64 N, .slice sa6 K9.length sc6, .slice qa6 Q9.length qc6, .int .i64 H] 24)
        have hxY := row_old hxF (.cells #[.int .i64 pe, .int .i64 N, .slice sa6 K9.length sc6, .slice qa6 Q9.length qc6, .int .i64 H] 24)
        have hfY := row_old hfF (.cells #[.int .i64 pe, .int .i64 N, .slice sa6 K9.length sc6, .slice qa6 Q9.length qc6, .int .i64 H] 24)
        have k1 := q1.below hbY
        have k3 := q3.below hbY
        have k5 := q5.below hbY
        have hoY := own_below hoF hbY
        have HBY := below_two HBF hbY (Nat.le_refl _)
        have hn1 : w5.heap.size < wF.heap.size := (Array.getElem?_eq_some_iff.1 hfF).1
        have hn2 : w.heap.size + 1 < wF.heap.size := (Array.getElem?_eq_some_iff.1 hpF).1
        have hn3 : w.heap.size + 1 + 1 + 1 < wF.heap.size := (Array.getElem?_eq_some_iff.1 hxF).1
        have hn4 : w.heap.size + 1 + 1 < wF.heap.size := (Array.getElem?_eq_some_iff.1 hrF).1
        have hn6' : w.heap.size + 1 + 1 + 1 < w5.heap.size := by omega
        have hn5 : w.heap.size < wF.heap.size := (Array.getElem?_eq_some_iff.1 hlF).1
        have hzY : wF.heap.size + 1 ≤ (wF.alloc (.cells #[.int .i64 pe, .int .i64 N, .slice sa6 K9.length sc6, .slice qa6 Q9.length qc6, .int .i64 H] 24)).heap.size := by simp
        clear hG q1 q2 q3 q4 q5 q6 hlE hpE hrE hxE hfE hoE hoF hbF cGE hbY HBE
        obtain ⟨lF, llF, lfF⟩ := blk hlF
        obtain ⟨pF, plF, pfF⟩ := blk hpF
        obtain ⟨fF, flF, ffF⟩ := blk hfF
        obtain ⟨rF, rlF, rfF⟩ := blk hrF
        obtain ⟨xF, xlF, xfF⟩ := blk hxF
        obtain ⟨yY, ylY, yfY⟩ := blk hyY
        have hrw := k5.ownPk
        go_wp2_with (at_builtin; refine wpList_append_lies _ rfl _ _ 32 rfl wE.heap.size 30 p0 (.agg #[.int .i64 0, .int .i64 0, .bool false, .int .i64 0, .int .i64 0, .int .i64 0, .int .i64 0, .slice none 0 0, .string .empty]) 9 96 Tryd.underlying32 hp0 hpz0 hpz1 hpz2 rfl (by decide) _ _ _ rfl (hrw.alloc _) ⟨wF.heap.size + 1, 0, none⟩ 1 1 [.int .i64 pe, .int .i64 0, .bool true, .int .i64 H, .int .i64 0, .int .i64 0, .int .i64 0, .slice none 0 0, .string ⟨#[]⟩] rfl rfl (by have hq := World.news_of_block (cs := #[.int .i64 pe, .int .i64 0, .bool true, .int .i64 H, .int .i64 0, .int .i64 0, .int .i64 0, .slice none 0 0, .string ⟨#[]⟩]) (t := 30) (fr := (0, 0)) (heap_alloc_new (wF.alloc (.cells #[.int .i64 pe, .int .i64 N, .slice sa6 K9.length sc6, .slice qa6 Q9.length qc6, .int .i64 H] 24)) _); rw [show (wF.alloc (.cells #[.int .i64 pe, .int .i64 N, .slice sa6 K9.length sc6, .slice qa6 Q9.length qc6, .int .i64 H] 24)).heap.size = wF.heap.size + 1 by simp] at hq; exact hq) (by simp [Value.oneCell']) (by decide) (by unfold maxLen; omega) (by omega) (by simp; omega) _ rfl ?_; intro g8 cap8 w8 hown8 hgr8 hat8 hlt8)
        have hyZ := row_kept (hrw.alloc _) (row_old hyY _) (by decide) hgr8
        have hfZ := row_kept (hrw.alloc _) (row_old hfY _) (by decide) hgr8
        have hrZ := row_kept (hrw.alloc _) (row_old hrY _) (by decide) hgr8
        have hxZ := row_kept (hrw.alloc _) (row_old hxY _) (by decide) hgr8
        have hoZ := own_grown hoY hrw hgr8 (by decide)
        have hGZ : GoOk w8 w2.heap.size wE.heap.size (.slice sa6 K9.length sc6) (.slice qa6 Q9.length qc6) (.slice (some ⟨g8, 0, none⟩) (P9.length + 1) cap8) (RG.1, RG.2 ++ [⟨pe, 0, true, H, fr0⟩]) := ⟨K9, Q9, _, k1.other hrw hgr8 (by decide) (by decide), Hq2.out, k3.other hrw hgr8 (by decide) (by decide), Hq4.out, RowK.app (x := ((⟨pe, 0, true, H, fr0⟩, Value.slice none 0 0) : PkK)) k5 (World.ownsRow_nil _ _ _ _) hown8 hgr8, by rw [List.map_append, Hq6.out]; rfl⟩
        have HBZ : Below w.heap.size w w8 := (HBY.alloc HBY.size _).grown hgr8 (by have := HBY.size; simp at this ⊢; omega) (fun k e => by have := (hrw.lt k e).1; omega)
        have hn6 := hgr8.size
        clear lF llF lfF pF plF pfF fF flF ffF rF rlF rfF xF xlF xfF yY ylY yfY hrw hown8 hgr8 hat8 hlt8 HBY
        obtain ⟨rrd0, rrd1, rrd2⟩ := blk hrZ
        have rra0 : w8.cell? ⟨w.heap.size + 1 + 1, 0, none⟩ = some (.int .i64 0) := rrd0 0
        have rrb0 : w8.frozen? ⟨w.heap.size + 1 + 1, 0, none⟩ = false := rrd2 0
        have rra1 : w8.cell? ⟨w.heap.size + 1 + 1, 1, none⟩ = some (.int .i64 0) := rrd0 1
        have rrb1 : w8.frozen? ⟨w.heap.size + 1 + 1, 1, none⟩ = false := rrd2 1
        have rra2 : w8.cell? ⟨w.heap.size + 1 + 1, 2, none⟩ = some (.slice none 0 0) := rrd0 2
        have rrb2 : w8.frozen? ⟨w.heap.size + 1 + 1, 2, none⟩ = false := rrd2 2
        have rra3 : w8.cell? ⟨w.heap.size + 1 + 1, 3, none⟩ = some (.slice none 0 0) := rrd0 3
        have rrb3 : w8.frozen? ⟨w.heap.size + 1 + 1, 3, none⟩ = false := rrd2 3
        have rra4 : w8.cell? ⟨w.heap.size + 1 + 1, 4, none⟩ = some (.int .i64 0) := rrd0 4
        have rrb4 : w8.frozen? ⟨w.heap.size + 1 + 1, 4, none⟩ = false := rrd2 4
        clear rrd0 rrd1 rrd2
        obtain ⟨xxd0, xxd1, xxd2⟩ := blk hxZ
        have xxa0 : w8.cell? ⟨w.heap.size + 1 + 1 + 1, 0, none⟩ = some (.int .i64 0) := xxd0 0
        have xxb0 : w8.frozen? ⟨w.heap.size + 1 + 1 + 1, 0, none⟩ = false := xxd2 0
        have xxa1 : w8.cell? ⟨w.heap.size + 1 + 1 + 1, 1, none⟩ = some (.int .i64 0) := xxd0 1
        have xxb1 : w8.frozen? ⟨w.heap.size + 1 + 1 + 1, 1, none⟩ = false := xxd2 1
        have xxa2 : w8.cell? ⟨w.heap.size + 1 + 1 + 1, 2, none⟩ = some (.int .i64 0) := xxd0 2
        have xxb2 : w8.frozen? ⟨w.heap.size + 1 + 1 + 1, 2, none⟩ = false := xxd2 2
        have xxa3 : w8.cell? ⟨w.heap.size + 1 + 1 + 1, 3, none⟩ = some (.slice none 0 0) := xxd0 3
        have xxb3 : w8.frozen? ⟨w.heap.size + 1 + 1 + 1, 3, none⟩ = false := xxd2 3
        have xxa4 : w8.cell? ⟨w.heap.size + 1 + 1 + 1, 4, none⟩ = some (.string ⟨#[]⟩) := xxd0 4
        have xxb4 : w8.frozen? ⟨w.heap.size + 1 + 1 + 1, 4, none⟩ = false := xxd2 4
        clear xxd0 xxd1 xxd2
        obtain ⟨yyd0, yyd1, yyd2⟩ := blk hyZ
        have yya0 : w8.cell? ⟨wF.heap.size, 0, none⟩ = some (.int .i64 pe) := yyd0 0
        have yya1 : w8.cell? ⟨wF.heap.size, 1, none⟩ = some (.int .i64 N) := yyd0 1
        have yya2 : w8.cell? ⟨wF.heap.size, 2, none⟩ = some (.slice sa6 K9.length sc6) := yyd0 2
        have yya3 : w8.cell? ⟨wF.heap.size, 3, none⟩ = some (.slice qa6 Q9.length qc6) := yyd0 3
        have yya4 : w8.cell? ⟨wF.heap.size, 4, none⟩ = some (.int .i64 H) := yyd0 4
        clear yyd0 yyd1 yyd2
        obtain ⟨ffd0, ffd1, ffd2⟩ := blk hfZ
        have ffa0 : w8.cell? ⟨w5.heap.size, 0, none⟩ = some (.int .i64 F.kind) := ffd0 0
        have ffa1 : w8.cell? ⟨w5.heap.size, 1, none⟩ = some (.int .i64 F.heard) := ffd0 1
        have ffa2 : w8.cell? ⟨w5.heap.size, 2, none⟩ = some (.int .i64 F.epoch) := ffd0 2
        have ffa3 : w8.cell? ⟨w5.heap.size, 3, none⟩ = some (.slice xa F.op.length xc) := ffd0 3
        have ffa4 : w8.cell? ⟨w5.heap.size, 4, none⟩ = some (.string F.text) := ffd0 4
        clear ffd0 ffd1 ffd2

        have hne0 : w.heap.size + 1 + 1 ≠ w.heap.size + 1 + 1 + 1 := by omega
        have hne1 : w.heap.size + 1 + 1 ≠ wF.heap.size := by omega
        have hne2 : w.heap.size + 1 + 1 ≠ w5.heap.size := by omega
        have hne3 : w.heap.size + 1 + 1 + 1 ≠ w.heap.size + 1 + 1 := by omega
        have hne4 : w.heap.size + 1 + 1 + 1 ≠ wF.heap.size := by omega
        have hne5 : w.heap.size + 1 + 1 + 1 ≠ w5.heap.size := by omega
        have hne6 : wF.heap.size ≠ w.heap.size + 1 + 1 := by omega
        have hne7 : wF.heap.size ≠ w.heap.size + 1 + 1 + 1 := by omega
        have hne8 : wF.heap.size ≠ w5.heap.size := by omega
        have hne9 : w5.heap.size ≠ w.heap.size + 1 + 1 := by omega
        have hne10 : w5.heap.size ≠ w.heap.size + 1 + 1 + 1 := by omega
        have hne11 : w5.heap.size ≠ wF.heap.size := by omega
        have HGZ : Hid (GoOk w8 w2.heap.size wE.heap.size (.slice sa6 K9.length sc6) (.slice qa6 Q9.length qc6) (.slice (some ⟨g8, 0, none⟩) (P9.length + 1) cap8) (RG.1, RG.2 ++ [⟨pe, 0, true, H, fr0⟩])) := hGZ
        have HOZ : Hid (w8.ownsRow w.heap.size 63 3 (.slice xa F.op.length xc) F.op.length (partCells F.op)) := own_base hoZ hzo
        have HBZh : Hid (Below w.heap.size w w8) := HBZ
        have HRZ : Hid (w8.heap[w.heap.size + 1 + 1]? = some (Obj.cells #[.int .i64 0, .int .i64 0, .slice none 0 0, .slice none 0 0, .int .i64 0] 24 (0, 0))) := hrZ
        have HXZ : Hid (w8.heap[w.heap.size + 1 + 1 + 1]? = some (Obj.cells #[.int .i64 0, .int .i64 0, .int .i64 0, .slice none 0 0, .string ⟨#[]⟩] 28 (0, 0))) := hxZ
        clear hGZ hoZ HBZ hrZ hxZ hyZ hfZ k1 k3 k5 hoY hrY hxY hyY hfY
        go_region
        all_goals
          go_wp2_with fail
          obtain ⟨hr11, hc1⟩ := puts_all HRZ.out [.int .i64 pe, .int .i64 N, .slice sa6 K9.length sc6, .slice qa6 Q9.length qc6, .int .i64 H] rfl
          simp only [puts, Nat.zero_add, Nat.reduceAdd] at hr11 hc1
          have hx11 := hc1.row HXZ.out (by omega)
          obtain ⟨hx12, hc2⟩ := puts_all hx11 [.int .i64 F.kind, .int .i64 F.heard, .int .i64 F.epoch, .slice xa F.op.length xc, .string F.text] rfl
          simp only [puts, Nat.zero_add, Nat.reduceAdd] at hx12 hc2
          have hr12 := hc2.row hr11 (by omega)
          have ho1 := own_chg HOZ.out hc1 (fun k hk e => row_ne HOZ.out HRZ.out (by decide) (by rw [← e]; exact hk.symm))
          have ho2 := own_chg ho1 hc2 (fun k hk e => row_ne ho1 hx11 (by decide) (by rw [← e]; exact hk.symm))
          have hsz := HBZh.out.size
          have HBN := (HBZh.out.trans (hc1.below (B := w.heap.size) (fun i e => by omega) hsz)).trans (hc2.below (B := w.heap.size) (fun i e => by omega) (Nat.le_trans hsz hc1.size))
          have HGK := ((HGZ.out.ahead (show w.heap.size + 1 + 1 < w2.heap.size by omega) (show w.heap.size + 1 + 1 < wE.heap.size by omega) hc1).ahead (show w.heap.size + 1 + 1 + 1 < w2.heap.size by omega) (show w.heap.size + 1 + 1 + 1 < wE.heap.size by omega) hc2).base (Nat.zero_le _) (show w.heap.size ≤ wE.heap.size by omega)
          have hdw := below_drew ((((((((((w8.setCell ⟨w.heap.size + 1 + 1, 0, none⟩ (.int .i64 pe)).setCell ⟨w.heap.size + 1 + 1, 1, none⟩ (.int .i64 N)).setCell ⟨w.heap.size + 1 + 1, 2, none⟩ (.slice sa6 K9.length sc6)).setCell ⟨w.heap.size + 1 + 1, 3, none⟩ (.slice qa6 Q9.length qc6)).setCell ⟨w.heap.size + 1 + 1, 4, none⟩ (.int .i64 H)).setCell ⟨w.heap.size + 1 + 1 + 1, 0, none⟩ (.int .i64 F.kind)).setCell ⟨w.heap.size + 1 + 1 + 1, 1, none⟩ (.int .i64 F.heard)).setCell ⟨w.heap.size + 1 + 1 + 1, 2, none⟩ (.int .i64 F.epoch)).setCell ⟨w.heap.size + 1 + 1 + 1, 3, none⟩ (.slice xa F.op.length xc)).setCell ⟨w.heap.size + 1 + 1 + 1, 4, none⟩ (.string F.text))
          have hr13 := heap_drewH hr12
          have hx13 := heap_drewH hx12
          have ho3 := own_below ho2 hdw
          have HBN3 := HBN.drew
          have HGK3 := HGK.below hdw
          clear hr11 hc1 hx11 hx12 hc2 hr12 ho1 ho2 HBN HGK hdw HGZ HOZ HBZh HRZ HXZ
          generalize ((((((((((w8.setCell ⟨w.heap.size + 1 + 1, 0, none⟩ (.int .i64 pe)).setCell ⟨w.heap.size + 1 + 1, 1, none⟩ (.int .i64 N)).setCell ⟨w.heap.size + 1 + 1, 2, none⟩ (.slice sa6 K9.length sc6)).setCell ⟨w.heap.size + 1 + 1, 3, none⟩ (.slice qa6 Q9.length qc6)).setCell ⟨w.heap.size + 1 + 1, 4, none⟩ (.int .i64 H)).setCell ⟨w.heap.size + 1 + 1 + 1, 0, none⟩ (.int .i64 F.kind)).setCell ⟨w.heap.size + 1 + 1 + 1, 1, none⟩ (.int .i64 F.heard)).setCell ⟨w.heap.size + 1 + 1 + 1, 2, none⟩ (.int .i64 F.epoch)).setCell ⟨w.heap.size + 1 + 1 + 1, 3, none⟩ (.slice xa F.op.length xc)).setCell ⟨w.heap.size + 1 + 1 + 1, 4, none⟩ (.string F.text)).drew = w9 at *
          obtain ⟨t9, _, _⟩ := blk hr13
          obtain ⟨u9, _, _⟩ := blk hx13
          exact bodyPost_ret (v := .tuple #[.agg #[.int .i64 pe, .int .i64 N, .slice sa6 K9.length sc6, .slice qa6 Q9.length qc6, .int .i64 H], .agg #[.int .i64 F.kind, .int .i64 F.heard, .int .i64 F.epoch, .slice xa F.op.length xc, .string F.text], .bool false, .slice (some ⟨g8, 0, none⟩) (P9.length + 1) cap8, .int .i64 0]) (by simp [results, Tryd.results6, go_sem, t9, u9]) rfl ⟨_, _, _, _, rfl, HGK3, ho3, HBN3⟩
      · subst e3 e2
        clear e0
        have HF : Hid (F = fr0) := e4
        clear e4 HHH
        go_wp2_with fail
        have hbF := (Below.refl (w5.setCell ⟨w3.heap.size, 2, none⟩ (.slice ja J.length jc)).heap.size (w5.setCell ⟨w3.heap.size, 2, none⟩ (.slice ja J.length jc))).alloc (Nat.le_refl _) (.cells #[.int .i64 0, .int .i64 0, .int .i64 0, .slice none 0 0, .string ⟨#[]⟩] 28)
        have hf8 := heap_alloc_new (w5.setCell ⟨w3.heap.size, 2, none⟩ (.slice ja J.length jc)) (.cells #[.int .i64 0, .int .i64 0, .int .i64 0, .slice none 0 0, .string ⟨#[]⟩] 28)
        rw [show (w5.setCell ⟨w3.heap.size, 2, none⟩ (.slice ja J.length jc)).heap.size = w5.heap.size by first | rfl | simp] at hf8
        have hlE := row_old hl (.cells #[.int .i64 0, .int .i64 0, .int .i64 0, .slice none 0 0, .string ⟨#[]⟩] 28)
        have hpE := row_old hp (.cells #[.int .i64 0, .int .i64 0, .int .i64 0, .slice none 0 0, .string ⟨#[]⟩] 28)
        have hrE := row_old hr (.cells #[.int .i64 0, .int .i64 0, .int .i64 0, .slice none 0 0, .string ⟨#[]⟩] 28)
        have hxE := row_old hx (.cells #[.int .i64 0, .int .i64 0, .int .i64 0, .slice none 0 0, .string ⟨#[]⟩] 28)
        have hJE := hJ6.below hbF
        have hKQE := hKQ.below hbF
        have HBE := below_two HB6 hbF (Nat.le_refl _)
        have hw2E : w2.heap.size ≤ ((w5.setCell ⟨w3.heap.size, 2, none⟩ (.slice ja J.length jc)).alloc (.cells #[.int .i64 0, .int .i64 0, .int .i64 0, .slice none 0 0, .string ⟨#[]⟩] 28)).heap.size := by have := hbF.size; simp at this ⊢; omega
        clear l0 ll0 lf0 p0' pl0 pf0 y6 yl6 yf6 y5 yl5 yf5 ql qp cC hl hp hr hx hy6 hJ6 hKQ HB6 hbF
        generalize ((w5.setCell ⟨w3.heap.size, 2, none⟩ (.slice ja J.length jc)).alloc (.cells #[.int .i64 0, .int .i64 0, .int .i64 0, .slice none 0 0, .string ⟨#[]⟩] 28)) = wE at *
        obtain ⟨xa, xc, hxa⟩ : ∃ xa xc, (Value.slice xa 0 xc) = .slice none 0 0 := ⟨none, 0, rfl⟩
        have hfE : wE.heap[w5.heap.size]? = some (Obj.cells #[.int .i64 F.kind, .int .i64 F.heard, .int .i64 F.epoch, .slice xa F.op.length xc, .string F.text] 28 (0, 0)) := by rw [HF.out]; show _ = some (Obj.cells #[.int .i64 0, .int .i64 0, .int .i64 0, .slice xa 0 xc, .string ⟨#[]⟩] 28 (0, 0)); rw [hxa]; exact hf8
        have hoE : wE.ownsRow w.heap.size 63 3 (.slice xa F.op.length xc) F.op.length (partCells F.op) := by rw [HF.out]; show wE.ownsRow w.heap.size 63 3 (.slice xa 0 xc) 0 []; rw [hxa]; exact World.ownsRow_nil _ _ _ _
        have hzo : w.heap.size ≤ w.heap.size := Nat.le_refl _
        clear hf8 hxa HF

        have cGE := cG w2.heap.size (.slice ja J.length jc) (.slice oa KQ.length oc) J KQ wE hw2E hJE HJ.out hKQE HEQ.out
        clear cG hJE hKQE
        refine cGE.mono ?_
        rintro r wF ⟨sv9, qv9, pv9, rfl, hG, hbF⟩
        obtain ⟨K9, Q9, P9, q1, q2, q3, q4, q5, q6⟩ := hG.ex
        obtain ⟨sa6, sc6, rfl, -⟩ := q1.row
        obtain ⟨qa6, qc6, rfl, -⟩ := q3.row
        obtain ⟨pa6, pc6, rfl⟩ := own_form q5.row
        have hPl : P9.length ≤ 8 := by have := congrArg List.length q6; rw [List.length_map] at this; have := HRl.out; omega
        have Hq2 : Hid (K9.map (·.1) = RG.1.sent) := q2
        have Hq4 : Hid (Q9.map (·.1) = RG.1.queue) := q4
        have Hq6 : Hid (P9.map (·.1) = RG.2) := q6
        have HBF := below_two HBE hbF (Nat.le_refl _)
        have hzF := hbF.size
        have hwE := HBE.size
        have hlF := (hbF.block _ (Array.getElem?_eq_some_iff.1 hlE).1).trans hlE
        have hpF := (hbF.block _ (Array.getElem?_eq_some_iff.1 hpE).1).trans hpE
        have hrF := (hbF.block _ (Array.getElem?_eq_some_iff.1 hrE).1).trans hrE
        have hxF := (hbF.block _ (Array.getElem?_eq_some_iff.1 hxE).1).trans hxE
        have hfF := (hbF.block _ (Array.getElem?_eq_some_iff.1 hfE).1).trans hfE
        have hoF := own_below hoE hbF
        have hbY := (Below.refl wF.heap.size wF).alloc (Nat.le_refl _) (.cells #[.int .i64 pe, .int .i64 N, .slice sa6 K9.length sc6, .slice qa6 Q9.length qc6, .int .i64 H] 24)
        have hyY := heap_alloc_new wF (.cells #[.int .i64 pe, .int .i64 N, .slice sa6 K9.length sc6, .slice qa6 Q9.length qc6, .int .i64 H] 24)
        have hrY := row_old hrF (.cells #[.int .i64 pe, .int .i64 N, .slice sa6 K9.length sc6, .slice qa6 Q9.length qc6, .int .i64 H] 24)
        have hxY := row_old hxF (.cells #[.int .i64 pe, .int .i64 N, .slice sa6 K9.length sc6, .slice qa6 Q9.length qc6, .int .i64 H] 24)
        have hfY := row_old hfF (.cells #[.int .i64 pe, .int .i64 N, .slice sa6 K9.length sc6, .slice qa6 Q9.length qc6, .int .i64 H] 24)
        have k1 := q1.below hbY
        have k3 := q3.below hbY
        have k5 := q5.below hbY
        have hoY := own_below hoF hbY
        have HBY := below_two HBF hbY (Nat.le_refl _)
        have hn1 : w5.heap.size < wF.heap.size := (Array.getElem?_eq_some_iff.1 hfF).1
        have hn2 : w.heap.size + 1 < wF.heap.size := (Array.getElem?_eq_some_iff.1 hpF).1
        have hn3 : w.heap.size + 1 + 1 + 1 < wF.heap.size := (Array.getElem?_eq_some_iff.1 hxF).1
        have hn4 : w.heap.size + 1 + 1 < wF.heap.size := (Array.getElem?_eq_some_iff.1 hrF).1
        have hn6' : w.heap.size + 1 + 1 + 1 < w5.heap.size := by omega
        have hn5 : w.heap.size < wF.heap.size := (Array.getElem?_eq_some_iff.1 hlF).1
        have hzY : wF.heap.size + 1 ≤ (wF.alloc (.cells #[.int .i64 pe, .int .i64 N, .slice sa6 K9.length sc6, .slice qa6 Q9.length qc6, .int .i64 H] 24)).heap.size := by simp
        clear hG q1 q2 q3 q4 q5 q6 hlE hpE hrE hxE hfE hoE hoF hbF cGE hbY HBE
        obtain ⟨lF, llF, lfF⟩ := blk hlF
        obtain ⟨pF, plF, pfF⟩ := blk hpF
        obtain ⟨fF, flF, ffF⟩ := blk hfF
        obtain ⟨rF, rlF, rfF⟩ := blk hrF
        obtain ⟨xF, xlF, xfF⟩ := blk hxF
        obtain ⟨yY, ylY, yfY⟩ := blk hyY
        go_wp2_with fail
        clear lF llF lfF pF plF pfF fF flF ffF rF rlF rfF xF xlF xfF yY ylY yfY
        have hrZ := hrY
        have hxZ := hxY
        have hyZ := hyY
        have hfZ := hfY
        have hoZ := hoY
        have hGZ : GoOk (wF.alloc (.cells #[.int .i64 pe, .int .i64 N, .slice sa6 K9.length sc6, .slice qa6 Q9.length qc6, .int .i64 H] 24)) w2.heap.size wE.heap.size (.slice sa6 K9.length sc6) (.slice qa6 Q9.length qc6) (.slice pa6 P9.length pc6) (RG.1, RG.2) := ⟨K9, Q9, P9, k1, Hq2.out, k3, Hq4.out, k5, Hq6.out⟩
        have HBZ := HBY
        clear HBY
        generalize (wF.alloc (.cells #[.int .i64 pe, .int .i64 N, .slice sa6 K9.length sc6, .slice qa6 Q9.length qc6, .int .i64 H] 24)) = w8 at *
        obtain ⟨rrd0, rrd1, rrd2⟩ := blk hrZ
        have rra0 : w8.cell? ⟨w.heap.size + 1 + 1, 0, none⟩ = some (.int .i64 0) := rrd0 0
        have rrb0 : w8.frozen? ⟨w.heap.size + 1 + 1, 0, none⟩ = false := rrd2 0
        have rra1 : w8.cell? ⟨w.heap.size + 1 + 1, 1, none⟩ = some (.int .i64 0) := rrd0 1
        have rrb1 : w8.frozen? ⟨w.heap.size + 1 + 1, 1, none⟩ = false := rrd2 1
        have rra2 : w8.cell? ⟨w.heap.size + 1 + 1, 2, none⟩ = some (.slice none 0 0) := rrd0 2
        have rrb2 : w8.frozen? ⟨w.heap.size + 1 + 1, 2, none⟩ = false := rrd2 2
        have rra3 : w8.cell? ⟨w.heap.size + 1 + 1, 3, none⟩ = some (.slice none 0 0) := rrd0 3
        have rrb3 : w8.frozen? ⟨w.heap.size + 1 + 1, 3, none⟩ = false := rrd2 3
        have rra4 : w8.cell? ⟨w.heap.size + 1 + 1, 4, none⟩ = some (.int .i64 0) := rrd0 4
        have rrb4 : w8.frozen? ⟨w.heap.size + 1 + 1, 4, none⟩ = false := rrd2 4
        clear rrd0 rrd1 rrd2
        obtain ⟨xxd0, xxd1, xxd2⟩ := blk hxZ
        have xxa0 : w8.cell? ⟨w.heap.size + 1 + 1 + 1, 0, none⟩ = some (.int .i64 0) := xxd0 0
        have xxb0 : w8.frozen? ⟨w.heap.size + 1 + 1 + 1, 0, none⟩ = false := xxd2 0
        have xxa1 : w8.cell? ⟨w.heap.size + 1 + 1 + 1, 1, none⟩ = some (.int .i64 0) := xxd0 1
        have xxb1 : w8.frozen? ⟨w.heap.size + 1 + 1 + 1, 1, none⟩ = false := xxd2 1
        have xxa2 : w8.cell? ⟨w.heap.size + 1 + 1 + 1, 2, none⟩ = some (.int .i64 0) := xxd0 2
        have xxb2 : w8.frozen? ⟨w.heap.size + 1 + 1 + 1, 2, none⟩ = false := xxd2 2
        have xxa3 : w8.cell? ⟨w.heap.size + 1 + 1 + 1, 3, none⟩ = some (.slice none 0 0) := xxd0 3
        have xxb3 : w8.frozen? ⟨w.heap.size + 1 + 1 + 1, 3, none⟩ = false := xxd2 3
        have xxa4 : w8.cell? ⟨w.heap.size + 1 + 1 + 1, 4, none⟩ = some (.string ⟨#[]⟩) := xxd0 4
        have xxb4 : w8.frozen? ⟨w.heap.size + 1 + 1 + 1, 4, none⟩ = false := xxd2 4
        clear xxd0 xxd1 xxd2
        obtain ⟨yyd0, yyd1, yyd2⟩ := blk hyZ
        have yya0 : w8.cell? ⟨wF.heap.size, 0, none⟩ = some (.int .i64 pe) := yyd0 0
        have yya1 : w8.cell? ⟨wF.heap.size, 1, none⟩ = some (.int .i64 N) := yyd0 1
        have yya2 : w8.cell? ⟨wF.heap.size, 2, none⟩ = some (.slice sa6 K9.length sc6) := yyd0 2
        have yya3 : w8.cell? ⟨wF.heap.size, 3, none⟩ = some (.slice qa6 Q9.length qc6) := yyd0 3
        have yya4 : w8.cell? ⟨wF.heap.size, 4, none⟩ = some (.int .i64 H) := yyd0 4
        clear yyd0 yyd1 yyd2
        obtain ⟨ffd0, ffd1, ffd2⟩ := blk hfZ
        have ffa0 : w8.cell? ⟨w5.heap.size, 0, none⟩ = some (.int .i64 F.kind) := ffd0 0
        have ffa1 : w8.cell? ⟨w5.heap.size, 1, none⟩ = some (.int .i64 F.heard) := ffd0 1
        have ffa2 : w8.cell? ⟨w5.heap.size, 2, none⟩ = some (.int .i64 F.epoch) := ffd0 2
        have ffa3 : w8.cell? ⟨w5.heap.size, 3, none⟩ = some (.slice xa F.op.length xc) := ffd0 3
        have ffa4 : w8.cell? ⟨w5.heap.size, 4, none⟩ = some (.string F.text) := ffd0 4
        clear ffd0 ffd1 ffd2

        have hne0 : w.heap.size + 1 + 1 ≠ w.heap.size + 1 + 1 + 1 := by omega
        have hne1 : w.heap.size + 1 + 1 ≠ wF.heap.size := by omega
        have hne2 : w.heap.size + 1 + 1 ≠ w5.heap.size := by omega
        have hne3 : w.heap.size + 1 + 1 + 1 ≠ w.heap.size + 1 + 1 := by omega
        have hne4 : w.heap.size + 1 + 1 + 1 ≠ wF.heap.size := by omega
        have hne5 : w.heap.size + 1 + 1 + 1 ≠ w5.heap.size := by omega
        have hne6 : wF.heap.size ≠ w.heap.size + 1 + 1 := by omega
        have hne7 : wF.heap.size ≠ w.heap.size + 1 + 1 + 1 := by omega
        have hne8 : wF.heap.size ≠ w5.heap.size := by omega
        have hne9 : w5.heap.size ≠ w.heap.size + 1 + 1 := by omega
        have hne10 : w5.heap.size ≠ w.heap.size + 1 + 1 + 1 := by omega
        have hne11 : w5.heap.size ≠ wF.heap.size := by omega
        have HGZ : Hid (GoOk w8 w2.heap.size wE.heap.size (.slice sa6 K9.length sc6) (.slice qa6 Q9.length qc6) (.slice pa6 P9.length pc6) (RG.1, RG.2)) := hGZ
        have HOZ : Hid (w8.ownsRow w.heap.size 63 3 (.slice xa F.op.length xc) F.op.length (partCells F.op)) := own_base hoZ hzo
        have HBZh : Hid (Below w.heap.size w w8) := HBZ
        have HRZ : Hid (w8.heap[w.heap.size + 1 + 1]? = some (Obj.cells #[.int .i64 0, .int .i64 0, .slice none 0 0, .slice none 0 0, .int .i64 0] 24 (0, 0))) := hrZ
        have HXZ : Hid (w8.heap[w.heap.size + 1 + 1 + 1]? = some (Obj.cells #[.int .i64 0, .int .i64 0, .int .i64 0, .slice none 0 0, .string ⟨#[]⟩] 28 (0, 0))) := hxZ
        clear hGZ hoZ HBZ hrZ hxZ hyZ hfZ k1 k3 k5 hoY hrY hxY hyY hfY
        go_region
        all_goals
          go_wp2_with fail
          obtain ⟨hr11, hc1⟩ := puts_all HRZ.out [.int .i64 pe, .int .i64 N, .slice sa6 K9.length sc6, .slice qa6 Q9.length qc6, .int .i64 H] rfl
          simp only [puts, Nat.zero_add, Nat.reduceAdd] at hr11 hc1
          have hx11 := hc1.row HXZ.out (by omega)
          obtain ⟨hx12, hc2⟩ := puts_all hx11 [.int .i64 F.kind, .int .i64 F.heard, .int .i64 F.epoch, .slice xa F.op.length xc, .string F.text] rfl
          simp only [puts, Nat.zero_add, Nat.reduceAdd] at hx12 hc2
          have hr12 := hc2.row hr11 (by omega)
          have ho1 := own_chg HOZ.out hc1 (fun k hk e => row_ne HOZ.out HRZ.out (by decide) (by rw [← e]; exact hk.symm))
          have ho2 := own_chg ho1 hc2 (fun k hk e => row_ne ho1 hx11 (by decide) (by rw [← e]; exact hk.symm))
          have hsz := HBZh.out.size
          have HBN := (HBZh.out.trans (hc1.below (B := w.heap.size) (fun i e => by omega) hsz)).trans (hc2.below (B := w.heap.size) (fun i e => by omega) (Nat.le_trans hsz hc1.size))
          have HGK := ((HGZ.out.ahead (show w.heap.size + 1 + 1 < w2.heap.size by omega) (show w.heap.size + 1 + 1 < wE.heap.size by omega) hc1).ahead (show w.heap.size + 1 + 1 + 1 < w2.heap.size by omega) (show w.heap.size + 1 + 1 + 1 < wE.heap.size by omega) hc2).base (Nat.zero_le _) (show w.heap.size ≤ wE.heap.size by omega)
          have hdw := below_drew ((((((((((w8.setCell ⟨w.heap.size + 1 + 1, 0, none⟩ (.int .i64 pe)).setCell ⟨w.heap.size + 1 + 1, 1, none⟩ (.int .i64 N)).setCell ⟨w.heap.size + 1 + 1, 2, none⟩ (.slice sa6 K9.length sc6)).setCell ⟨w.heap.size + 1 + 1, 3, none⟩ (.slice qa6 Q9.length qc6)).setCell ⟨w.heap.size + 1 + 1, 4, none⟩ (.int .i64 H)).setCell ⟨w.heap.size + 1 + 1 + 1, 0, none⟩ (.int .i64 F.kind)).setCell ⟨w.heap.size + 1 + 1 + 1, 1, none⟩ (.int .i64 F.heard)).setCell ⟨w.heap.size + 1 + 1 + 1, 2, none⟩ (.int .i64 F.epoch)).setCell ⟨w.heap.size + 1 + 1 + 1, 3, none⟩ (.slice xa F.op.length xc)).setCell ⟨w.heap.size + 1 + 1 + 1, 4, none⟩ (.string F.text))
          have hr13 := heap_drewH hr12
          have hx13 := heap_drewH hx12
          have ho3 := own_below ho2 hdw
          have HBN3 := HBN.drew
          have HGK3 := HGK.below hdw
          clear hr11 hc1 hx11 hx12 hc2 hr12 ho1 ho2 HBN HGK hdw HGZ HOZ HBZh HRZ HXZ
          generalize ((((((((((w8.setCell ⟨w.heap.size + 1 + 1, 0, none⟩ (.int .i64 pe)).setCell ⟨w.heap.size + 1 + 1, 1, none⟩ (.int .i64 N)).setCell ⟨w.heap.size + 1 + 1, 2, none⟩ (.slice sa6 K9.length sc6)).setCell ⟨w.heap.size + 1 + 1, 3, none⟩ (.slice qa6 Q9.length qc6)).setCell ⟨w.heap.size + 1 + 1, 4, none⟩ (.int .i64 H)).setCell ⟨w.heap.size + 1 + 1 + 1, 0, none⟩ (.int .i64 F.kind)).setCell ⟨w.heap.size + 1 + 1 + 1, 1, none⟩ (.int .i64 F.heard)).setCell ⟨w.heap.size + 1 + 1 + 1, 2, none⟩ (.int .i64 F.epoch)).setCell ⟨w.heap.size + 1 + 1 + 1, 3, none⟩ (.slice xa F.op.length xc)).setCell ⟨w.heap.size + 1 + 1 + 1, 4, none⟩ (.string F.text)).drew = w9 at *
          obtain ⟨t9, _, _⟩ := blk hr13
          obtain ⟨u9, _, _⟩ := blk hx13
          exact bodyPost_ret (v := .tuple #[.agg #[.int .i64 pe, .int .i64 N, .slice sa6 K9.length sc6, .slice qa6 Q9.length qc6, .int .i64 H], .agg #[.int .i64 F.kind, .int .i64 F.heard, .int .i64 F.epoch, .slice xa F.op.length xc, .string F.text], .bool false, .slice pa6 P9.length pc6, .int .i64 0]) (by simp [results, Tryd.results6, go_sem, t9, u9]) rfl ⟨_, _, _, _, rfl, HGK3, ho3, HBN3⟩
  · rw [decide_eq_false hin] at cI4
    refine cI4.mono ?_
    rintro r w5 ⟨rfl, hw5⟩
    rw [hw5]
    clear hw5 w5 cI4
    have hk0 : kc0 = 0 := by rw [HKC.out, if_neg hin]
    have HJ : Hid (K.map (·.1) = (S.map (·.1)).drop kc0) := by show _ = _; rw [HEK.out, hk0]; rfl
    have hy6 := hy
    have hJ6 := hK
    have HB6 := HB4
    obtain ⟨J, rfl⟩ : ∃ J, J = K := ⟨_, rfl⟩
    obtain ⟨ja, rfl⟩ : ∃ ja, ja = ka := ⟨_, rfl⟩
    obtain ⟨jc, rfl⟩ : ∃ jc, jc = kc := ⟨_, rfl⟩
    have y5 := y0
    have yl5 := yl0
    have yf5 := yf0
    have ql := ll0
    have qp := pl0
    clear l0 ll0 lf0 p0' pl0 pf0 y0 yl0 yf0 hin hk0 hK hy HB4 cFS hSb hSd HEK
    obtain ⟨l0, ll0, lf0⟩ := blk hl
    obtain ⟨p0', pl0, pf0⟩ := blk hp
    obtain ⟨y6, yl6, yf6⟩ := blk hy6
    rcases HHH.out with ⟨e0, e1, e2, e3, e4⟩ | ⟨e0, e2, e3, e4⟩
    · subst e3 e1 e0 e2
      have HF : Hid (F = ⟨fk, fh, fe, ps, tx⟩) := e4
      have g2 : (hd + 1 == hd + 1) = true := by simp
      have g3 : hd < 1048576 := by omega
      clear e4 HHH
      go_wp2_with fail
      obtain ⟨hy7, hs7⟩ := blk_put hy6 4 (.int .i64 (hd + 1))
      have hl7 := hs7.row hl (by omega)
      have hp7 := hs7.row hp (by omega)
      have hr7 := hs7.row hr (by omega)
      have hx7 := hs7.row hx (by omega)
      have hJ7 := hJ6.stored hy6 (by decide) (by decide) hs7
      have hKQ7 := hKQ.stored hy6 (by decide) (by decide) hs7
      have HB7 := HB6.trans (hs7.below (B := w.heap.size) (fun k e => by omega) HB6.size)
      have hz7 : (w4.setCell ⟨w3.heap.size, 4, none⟩ (.int .i64 (hd + 1))).heap.size = w4.heap.size := by simp
      have hbF := (Below.refl (w4.setCell ⟨w3.heap.size, 4, none⟩ (.int .i64 (hd + 1))).heap.size (w4.setCell ⟨w3.heap.size, 4, none⟩ (.int .i64 (hd + 1)))).alloc (Nat.le_refl _) (.cells #[.int .i64 0, .int .i64 0, .int .i64 0, .slice none 0 0, .string ⟨#[]⟩] 28)
      have hf8 := heap_alloc_new (w4.setCell ⟨w3.heap.size, 4, none⟩ (.int .i64 (hd + 1))) (.cells #[.int .i64 0, .int .i64 0, .int .i64 0, .slice none 0 0, .string ⟨#[]⟩] 28)
      rw [hz7] at hf8
      have HZ7 : Hid ((w4.setCell ⟨w3.heap.size, 4, none⟩ (.int .i64 (hd + 1))).heap.size = w4.heap.size) := hz7
      have cC8 := cC _ (below_two HB7 hbF (Nat.le_refl _))
      clear l0 ll0 lf0 p0' pl0 pf0 y6 yl6 yf6 y5 yl5 yf5 ql qp cC hz7 hl hp hr hx hy6 hs7 hJ6 hKQ HB6
      refine cC8.mono ?_
      rintro r wD ⟨xu, rfl, hox, hbD⟩
      obtain ⟨xa, xc, rfl⟩ := own_form hox
      have hbE := below_two hbF hbD (Nat.le_refl _)
      have hf9 := (hbD.block _ (Array.getElem?_eq_some_iff.1 hf8).1).trans hf8
      obtain ⟨hf10, hs10⟩ := puts_all hf9 [.int .i64 fk, .int .i64 fh, .int .i64 fe, .slice xa ps.length xc, .string tx] rfl
      simp only [puts, Nat.zero_add, Nat.reduceAdd] at hf10 hs10
      have hbW : Below (w4.setCell ⟨w3.heap.size, 4, none⟩ (.int .i64 (hd + 1))).heap.size (w4.setCell ⟨w3.heap.size, 4, none⟩ (.int .i64 (hd + 1))) (((((wD.setCell ⟨w4.heap.size, 0, none⟩ (.int .i64 fk)).setCell ⟨w4.heap.size, 1, none⟩ (.int .i64 fh)).setCell ⟨w4.heap.size, 2, none⟩ (.int .i64 fe)).setCell ⟨w4.heap.size, 3, none⟩ (.slice xa ps.length xc)).setCell ⟨w4.heap.size, 4, none⟩ (.string tx)) := hbE.trans (hs10.below (B := (w4.setCell ⟨w3.heap.size, 4, none⟩ (.int .i64 (hd + 1))).heap.size) (fun k e => by rw [HZ7.out]; omega) hbE.size)
      have hlE := (hbW.block _ (Array.getElem?_eq_some_iff.1 hl7).1).trans hl7
      have hpE := (hbW.block _ (Array.getElem?_eq_some_iff.1 hp7).1).trans hp7
      have hrE := (hbW.block _ (Array.getElem?_eq_some_iff.1 hr7).1).trans hr7
      have hxE := (hbW.block _ (Array.getElem?_eq_some_iff.1 hx7).1).trans hx7
      have hyE := (hbW.block _ (Array.getElem?_eq_some_iff.1 hy7).1).trans hy7
      have hJE := hJ7.below hbW
      have hKQE := hKQ7.below hbW
      have HBE := below_two HB7 hbW (Nat.le_refl _)
      have hoE0 := own_chg hox hs10 (fun k hk e => row_ne hox hf9 (by decide) (by rw [← e]; exact hk.symm))
      have hzo0 : w.heap.size ≤ ((w4.setCell ⟨w3.heap.size, 4, none⟩ (.int .i64 (hd + 1))).alloc (.cells #[.int .i64 0, .int .i64 0, .int .i64 0, .slice none 0 0, .string ⟨#[]⟩] 28)).heap.size := by have := HB7.size; simp at this ⊢; omega
      have hw2E : w2.heap.size ≤ (((((wD.setCell ⟨w4.heap.size, 0, none⟩ (.int .i64 fk)).setCell ⟨w4.heap.size, 1, none⟩ (.int .i64 fh)).setCell ⟨w4.heap.size, 2, none⟩ (.int .i64 fe)).setCell ⟨w4.heap.size, 3, none⟩ (.slice xa ps.length xc)).setCell ⟨w4.heap.size, 4, none⟩ (.string tx)).heap.size := by have := hbW.size; rw [HZ7.out] at this; omega
      obtain ⟨f9, fl9, ff9⟩ := blk hf9
      obtain ⟨yE, ylE, yfE⟩ := blk hyE
      clear cC8 hl7 hp7 hr7 hx7 hy7 hJ7 hKQ7 HB7 hbF hbD hbE hbW hf8 hox hs10 HZ7
      go_wp2_with fail
      generalize (((((wD.setCell ⟨w4.heap.size, 0, none⟩ (.int .i64 fk)).setCell ⟨w4.heap.size, 1, none⟩ (.int .i64 fh)).setCell ⟨w4.heap.size, 2, none⟩ (.int .i64 fe)).setCell ⟨w4.heap.size, 3, none⟩ (.slice xa ps.length xc)).setCell ⟨w4.heap.size, 4, none⟩ (.string tx)) = wE at *
      have hfE : wE.heap[w4.heap.size]? = some (Obj.cells #[.int .i64 F.kind, .int .i64 F.heard, .int .i64 F.epoch, .slice xa F.op.length xc, .string F.text] 28 (0, 0)) := by rw [HF.out]; exact hf10
      have hoE := own_base (show wE.ownsRow _ 63 3 (.slice xa F.op.length xc) F.op.length (partCells F.op) by rw [HF.out]; exact hoE0) hzo0
      have hzo : w.heap.size ≤ w.heap.size := Nat.le_refl _
      clear hf9 f9 fl9 ff9 yE ylE yfE hf10 hoE0 HF hyE g2 g3 hzo0
      generalize hHX : hd + 1 = H at *
      have HHX : Hid (hd + 1 = H) := hHX
      clear hHX

      have cGE := cG w2.heap.size (.slice ja J.length jc) (.slice oa KQ.length oc) J KQ wE hw2E hJE HJ.out hKQE HEQ.out
      clear cG hJE hKQE
      refine cGE.mono ?_
      rintro r wF ⟨sv9, qv9, pv9, rfl, hG, hbF⟩
      obtain ⟨K9, Q9, P9, q1, q2, q3, q4, q5, q6⟩ := hG.ex
      obtain ⟨sa6, sc6, rfl, -⟩ := q1.row
      obtain ⟨qa6, qc6, rfl, -⟩ := q3.row
      obtain ⟨pa6, pc6, rfl⟩ := own_form q5.row
      have hPl : P9.length ≤ 8 := by have := congrArg List.length q6; rw [List.length_map] at this; have := HRl.out; omega
      have Hq2 : Hid (K9.map (·.1) = RG.1.sent) := q2
      have Hq4 : Hid (Q9.map (·.1) = RG.1.queue) := q4
      have Hq6 : Hid (P9.map (·.1) = RG.2) := q6
      have HBF := below_two HBE hbF (Nat.le_refl _)
      have hzF := hbF.size
      have hwE := HBE.size
      have hlF := (hbF.block _ (Array.getElem?_eq_some_iff.1 hlE).1).trans hlE
      have hpF := (hbF.block _ (Array.getElem?_eq_some_iff.1 hpE).1).trans hpE
      have hrF := (hbF.block _ (Array.getElem?_eq_some_iff.1 hrE).1).trans hrE
      have hxF := (hbF.block _ (Array.getElem?_eq_some_iff.1 hxE).1).trans hxE
      have hfF := (hbF.block _ (Array.getElem?_eq_some_iff.1 hfE).1).trans hfE
      have hoF := own_below hoE hbF
      have hbY := (Below.refl wF.heap.size wF).alloc (Nat.le_refl _) (.cells #[.int .i64 pe, .int .i64 N, .slice sa6 K9.length sc6, .slice qa6 Q9.length qc6, .int .i64 H] 24)
      have hyY := heap_alloc_new wF (.cells #[.int .i64 pe, .int .i64 N, .slice sa6 K9.length sc6, .slice qa6 Q9.length qc6, .int .i64 H] 24)
      have hrY := row_old hrF (.cells #[.int .i64 pe, .int .i64 N, .slice sa6 K9.length sc6, .slice qa6 Q9.length qc6, .int .i64 H] 24)
      have hxY := row_old hxF (.cells #[.int .i64 pe, .int .i64 N, .slice sa6 K9.length sc6, .slice qa6 Q9.length qc6, .int .i64 H] 24)
      have hfY := row_old hfF (.cells #[.int .i64 pe, .int .i64 N, .slice sa6 K9.length sc6, .slice qa6 Q9.length qc6, .int .i64 H] 24)
      have k1 := q1.below hbY
      have k3 := q3.below hbY
      have k5 := q5.below hbY
      have hoY := own_below hoF hbY
      have HBY := below_two HBF hbY (Nat.le_refl _)
      have hn1 : w4.heap.size < wF.heap.size := (Array.getElem?_eq_some_iff.1 hfF).1
      have hn2 : w.heap.size + 1 < wF.heap.size := (Array.getElem?_eq_some_iff.1 hpF).1
      have hn3 : w.heap.size + 1 + 1 + 1 < wF.heap.size := (Array.getElem?_eq_some_iff.1 hxF).1
      have hn4 : w.heap.size + 1 + 1 < wF.heap.size := (Array.getElem?_eq_some_iff.1 hrF).1
      have hn6' : w.heap.size + 1 + 1 + 1 < w4.heap.size := by omega
      have hn5 : w.heap.size < wF.heap.size := (Array.getElem?_eq_some_iff.1 hlF).1
      have hzY : wF.heap.size + 1 ≤ (wF.alloc (.cells #[.int .i64 pe, .int .i64 N, .slice sa6 K9.length sc6, .slice qa6 Q9.length qc6, .int .i64 H] 24)).heap.size := by simp
      clear hG q1 q2 q3 q4 q5 q6 hlE hpE hrE hxE hfE hoE hoF hbF cGE hbY HBE
      obtain ⟨lF, llF, lfF⟩ := blk hlF
      obtain ⟨pF, plF, pfF⟩ := blk hpF
      obtain ⟨fF, flF, ffF⟩ := blk hfF
      obtain ⟨rF, rlF, rfF⟩ := blk hrF
      obtain ⟨xF, xlF, xfF⟩ := blk hxF
      obtain ⟨yY, ylY, yfY⟩ := blk hyY
      have hrw := k5.ownPk
      go_wp2_with (at_builtin; refine wpList_append_lies _ rfl _ _ 32 rfl wE.heap.size 30 p0 (.agg #[.int .i64 0, .int .i64 0, .bool false, .int .i64 0, .int .i64 0, .int .i64 0, .int .i64 0, .slice none 0 0, .string .empty]) 9 96 Tryd.underlying32 hp0 hpz0 hpz1 hpz2 rfl (by decide) _ _ _ rfl (hrw.alloc _) ⟨wF.heap.size + 1, 0, none⟩ 1 1 [.int .i64 pe, .int .i64 0, .bool true, .int .i64 H, .int .i64 0, .int .i64 0, .int .i64 0, .slice none 0 0, .string ⟨#[]⟩] rfl rfl (by have hq := World.news_of_block (cs := #[.int .i64 pe, .int .i64 0, .bool true, .int .i64 H, .int .i64 0, .int .i64 0, .int .i64 0, .slice none 0 0, .string ⟨#[]⟩]) (t := 30) (fr := (0, 0)) (heap_alloc_new (wF.alloc (.cells #[.int .i64 pe, .int .i64 N, .slice sa6 K9.length sc6, .slice qa6 Q9.length qc6, .int .i64 H] 24)) _); rw [show (wF.alloc (.cells #[.int .i64 pe, .int .i64 N, .slice sa6 K9.length sc6, .slice qa6 Q9.length qc6, .int .i64 H] 24)).heap.size = wF.heap.size + 1 by simp] at hq; exact hq) (by simp [Value.oneCell']) (by decide) (by unfold maxLen; omega) (by omega) (by simp; omega) _ rfl ?_; intro g8 cap8 w8 hown8 hgr8 hat8 hlt8)
      have hyZ := row_kept (hrw.alloc _) (row_old hyY _) (by decide) hgr8
      have hfZ := row_kept (hrw.alloc _) (row_old hfY _) (by decide) hgr8
      have hrZ := row_kept (hrw.alloc _) (row_old hrY _) (by decide) hgr8
      have hxZ := row_kept (hrw.alloc _) (row_old hxY _) (by decide) hgr8
      have hoZ := own_grown hoY hrw hgr8 (by decide)
      have hGZ : GoOk w8 w2.heap.size wE.heap.size (.slice sa6 K9.length sc6) (.slice qa6 Q9.length qc6) (.slice (some ⟨g8, 0, none⟩) (P9.length + 1) cap8) (RG.1, RG.2 ++ [⟨pe, 0, true, H, fr0⟩]) := ⟨K9, Q9, _, k1.other hrw hgr8 (by decide) (by decide), Hq2.out, k3.other hrw hgr8 (by decide) (by decide), Hq4.out, RowK.app (x := ((⟨pe, 0, true, H, fr0⟩, Value.slice none 0 0) : PkK)) k5 (World.ownsRow_nil _ _ _ _) hown8 hgr8, by rw [List.map_append, Hq6.out]; rfl⟩
      have HBZ : Below w.heap.size w w8 := (HBY.alloc HBY.size _).grown hgr8 (by have := HBY.size; simp at this ⊢; omega) (fun k e => by have := (hrw.lt k e).1; omega)
      have hn6 := hgr8.size
      clear lF llF lfF pF plF pfF fF flF ffF rF rlF rfF xF xlF xfF yY ylY yfY hrw hown8 hgr8 hat8 hlt8 HBY
      obtain ⟨rrd0, rrd1, rrd2⟩ := blk hrZ
      have rra0 : w8.cell? ⟨w.heap.size + 1 + 1, 0, none⟩ = some (.int .i64 0) := rrd0 0
      have rrb0 : w8.frozen? ⟨w.heap.size + 1 + 1, 0, none⟩ = false := rrd2 0
      have rra1 : w8.cell? ⟨w.heap.size + 1 + 1, 1, none⟩ = some (.int .i64 0) := rrd0 1
      have rrb1 : w8.frozen? ⟨w.heap.size + 1 + 1, 1, none⟩ = false := rrd2 1
      have rra2 : w8.cell? ⟨w.heap.size + 1 + 1, 2, none⟩ = some (.slice none 0 0) := rrd0 2
      have rrb2 : w8.frozen? ⟨w.heap.size + 1 + 1, 2, none⟩ = false := rrd2 2
      have rra3 : w8.cell? ⟨w.heap.size + 1 + 1, 3, none⟩ = some (.slice none 0 0) := rrd0 3
      have rrb3 : w8.frozen? ⟨w.heap.size + 1 + 1, 3, none⟩ = false := rrd2 3
      have rra4 : w8.cell? ⟨w.heap.size + 1 + 1, 4, none⟩ = some (.int .i64 0) := rrd0 4
      have rrb4 : w8.frozen? ⟨w.heap.size + 1 + 1, 4, none⟩ = false := rrd2 4
      clear rrd0 rrd1 rrd2
      obtain ⟨xxd0, xxd1, xxd2⟩ := blk hxZ
      have xxa0 : w8.cell? ⟨w.heap.size + 1 + 1 + 1, 0, none⟩ = some (.int .i64 0) := xxd0 0
      have xxb0 : w8.frozen? ⟨w.heap.size + 1 + 1 + 1, 0, none⟩ = false := xxd2 0
      have xxa1 : w8.cell? ⟨w.heap.size + 1 + 1 + 1, 1, none⟩ = some (.int .i64 0) := xxd0 1
      have xxb1 : w8.frozen? ⟨w.heap.size + 1 + 1 + 1, 1, none⟩ = false := xxd2 1
      have xxa2 : w8.cell? ⟨w.heap.size + 1 + 1 + 1, 2, none⟩ = some (.int .i64 0) := xxd0 2
      have xxb2 : w8.frozen? ⟨w.heap.size + 1 + 1 + 1, 2, none⟩ = false := xxd2 2
      have xxa3 : w8.cell? ⟨w.heap.size + 1 + 1 + 1, 3, none⟩ = some (.slice none 0 0) := xxd0 3
      have xxb3 : w8.frozen? ⟨w.heap.size + 1 + 1 + 1, 3, none⟩ = false := xxd2 3
      have xxa4 : w8.cell? ⟨w.heap.size + 1 + 1 + 1, 4, none⟩ = some (.string ⟨#[]⟩) := xxd0 4
      have xxb4 : w8.frozen? ⟨w.heap.size + 1 + 1 + 1, 4, none⟩ = false := xxd2 4
      clear xxd0 xxd1 xxd2
      obtain ⟨yyd0, yyd1, yyd2⟩ := blk hyZ
      have yya0 : w8.cell? ⟨wF.heap.size, 0, none⟩ = some (.int .i64 pe) := yyd0 0
      have yya1 : w8.cell? ⟨wF.heap.size, 1, none⟩ = some (.int .i64 N) := yyd0 1
      have yya2 : w8.cell? ⟨wF.heap.size, 2, none⟩ = some (.slice sa6 K9.length sc6) := yyd0 2
      have yya3 : w8.cell? ⟨wF.heap.size, 3, none⟩ = some (.slice qa6 Q9.length qc6) := yyd0 3
      have yya4 : w8.cell? ⟨wF.heap.size, 4, none⟩ = some (.int .i64 H) := yyd0 4
      clear yyd0 yyd1 yyd2
      obtain ⟨ffd0, ffd1, ffd2⟩ := blk hfZ
      have ffa0 : w8.cell? ⟨w4.heap.size, 0, none⟩ = some (.int .i64 F.kind) := ffd0 0
      have ffa1 : w8.cell? ⟨w4.heap.size, 1, none⟩ = some (.int .i64 F.heard) := ffd0 1
      have ffa2 : w8.cell? ⟨w4.heap.size, 2, none⟩ = some (.int .i64 F.epoch) := ffd0 2
      have ffa3 : w8.cell? ⟨w4.heap.size, 3, none⟩ = some (.slice xa F.op.length xc) := ffd0 3
      have ffa4 : w8.cell? ⟨w4.heap.size, 4, none⟩ = some (.string F.text) := ffd0 4
      clear ffd0 ffd1 ffd2

      have hne0 : w.heap.size + 1 + 1 ≠ w.heap.size + 1 + 1 + 1 := by omega
      have hne1 : w.heap.size + 1 + 1 ≠ wF.heap.size := by omega
      have hne2 : w.heap.size + 1 + 1 ≠ w4.heap.size := by omega
      have hne3 : w.heap.size + 1 + 1 + 1 ≠ w.heap.size + 1 + 1 := by omega
      have hne4 : w.heap.size + 1 + 1 + 1 ≠ wF.heap.size := by omega
      have hne5 : w.heap.size + 1 + 1 + 1 ≠ w4.heap.size := by omega
      have hne6 : wF.heap.size ≠ w.heap.size + 1 + 1 := by omega
      have hne7 : wF.heap.size ≠ w.heap.size + 1 + 1 + 1 := by omega
      have hne8 : wF.heap.size ≠ w4.heap.size := by omega
      have hne9 : w4.heap.size ≠ w.heap.size + 1 + 1 := by omega
      have hne10 : w4.heap.size ≠ w.heap.size + 1 + 1 + 1 := by omega
      have hne11 : w4.heap.size ≠ wF.heap.size := by omega
      have HGZ : Hid (GoOk w8 w2.heap.size wE.heap.size (.slice sa6 K9.length sc6) (.slice qa6 Q9.length qc6) (.slice (some ⟨g8, 0, none⟩) (P9.length + 1) cap8) (RG.1, RG.2 ++ [⟨pe, 0, true, H, fr0⟩])) := hGZ
      have HOZ : Hid (w8.ownsRow w.heap.size 63 3 (.slice xa F.op.length xc) F.op.length (partCells F.op)) := own_base hoZ hzo
      have HBZh : Hid (Below w.heap.size w w8) := HBZ
      have HRZ : Hid (w8.heap[w.heap.size + 1 + 1]? = some (Obj.cells #[.int .i64 0, .int .i64 0, .slice none 0 0, .slice none 0 0, .int .i64 0] 24 (0, 0))) := hrZ
      have HXZ : Hid (w8.heap[w.heap.size + 1 + 1 + 1]? = some (Obj.cells #[.int .i64 0, .int .i64 0, .int .i64 0, .slice none 0 0, .string ⟨#[]⟩] 28 (0, 0))) := hxZ
      clear hGZ hoZ HBZ hrZ hxZ hyZ hfZ k1 k3 k5 hoY hrY hxY hyY hfY
      go_region
      all_goals
        go_wp2_with fail
        obtain ⟨hr11, hc1⟩ := puts_all HRZ.out [.int .i64 pe, .int .i64 N, .slice sa6 K9.length sc6, .slice qa6 Q9.length qc6, .int .i64 H] rfl
        simp only [puts, Nat.zero_add, Nat.reduceAdd] at hr11 hc1
        have hx11 := hc1.row HXZ.out (by omega)
        obtain ⟨hx12, hc2⟩ := puts_all hx11 [.int .i64 F.kind, .int .i64 F.heard, .int .i64 F.epoch, .slice xa F.op.length xc, .string F.text] rfl
        simp only [puts, Nat.zero_add, Nat.reduceAdd] at hx12 hc2
        have hr12 := hc2.row hr11 (by omega)
        have ho1 := own_chg HOZ.out hc1 (fun k hk e => row_ne HOZ.out HRZ.out (by decide) (by rw [← e]; exact hk.symm))
        have ho2 := own_chg ho1 hc2 (fun k hk e => row_ne ho1 hx11 (by decide) (by rw [← e]; exact hk.symm))
        have hsz := HBZh.out.size
        have HBN := (HBZh.out.trans (hc1.below (B := w.heap.size) (fun i e => by omega) hsz)).trans (hc2.below (B := w.heap.size) (fun i e => by omega) (Nat.le_trans hsz hc1.size))
        have HGK := ((HGZ.out.ahead (show w.heap.size + 1 + 1 < w2.heap.size by omega) (show w.heap.size + 1 + 1 < wE.heap.size by omega) hc1).ahead (show w.heap.size + 1 + 1 + 1 < w2.heap.size by omega) (show w.heap.size + 1 + 1 + 1 < wE.heap.size by omega) hc2).base (Nat.zero_le _) (show w.heap.size ≤ wE.heap.size by omega)
        have hdw := below_drew ((((((((((w8.setCell ⟨w.heap.size + 1 + 1, 0, none⟩ (.int .i64 pe)).setCell ⟨w.heap.size + 1 + 1, 1, none⟩ (.int .i64 N)).setCell ⟨w.heap.size + 1 + 1, 2, none⟩ (.slice sa6 K9.length sc6)).setCell ⟨w.heap.size + 1 + 1, 3, none⟩ (.slice qa6 Q9.length qc6)).setCell ⟨w.heap.size + 1 + 1, 4, none⟩ (.int .i64 H)).setCell ⟨w.heap.size + 1 + 1 + 1, 0, none⟩ (.int .i64 F.kind)).setCell ⟨w.heap.size + 1 + 1 + 1, 1, none⟩ (.int .i64 F.heard)).setCell ⟨w.heap.size + 1 + 1 + 1, 2, none⟩ (.int .i64 F.epoch)).setCell ⟨w.heap.size + 1 + 1 + 1, 3, none⟩ (.slice xa F.op.length xc)).setCell ⟨w.heap.size + 1 + 1 + 1, 4, none⟩ (.string F.text))
        have hr13 := heap_drewH hr12
        have hx13 := heap_drewH hx12
        have ho3 := own_below ho2 hdw
        have HBN3 := HBN.drew
        have HGK3 := HGK.below hdw
        clear hr11 hc1 hx11 hx12 hc2 hr12 ho1 ho2 HBN HGK hdw HGZ HOZ HBZh HRZ HXZ
        generalize ((((((((((w8.setCell ⟨w.heap.size + 1 + 1, 0, none⟩ (.int .i64 pe)).setCell ⟨w.heap.size + 1 + 1, 1, none⟩ (.int .i64 N)).setCell ⟨w.heap.size + 1 + 1, 2, none⟩ (.slice sa6 K9.length sc6)).setCell ⟨w.heap.size + 1 + 1, 3, none⟩ (.slice qa6 Q9.length qc6)).setCell ⟨w.heap.size + 1 + 1, 4, none⟩ (.int .i64 H)).setCell ⟨w.heap.size + 1 + 1 + 1, 0, none⟩ (.int .i64 F.kind)).setCell ⟨w.heap.size + 1 + 1 + 1, 1, none⟩ (.int .i64 F.heard)).setCell ⟨w.heap.size + 1 + 1 + 1, 2, none⟩ (.int .i64 F.epoch)).setCell ⟨w.heap.size + 1 + 1 + 1, 3, none⟩ (.slice xa F.op.length xc)).setCell ⟨w.heap.size + 1 + 1 + 1, 4, none⟩ (.string F.text)).drew = w9 at *
        obtain ⟨t9, _, _⟩ := blk hr13
        obtain ⟨u9, _, _⟩ := blk hx13
        exact bodyPost_ret (v := .tuple #[.agg #[.int .i64 pe, .int .i64 N, .slice sa6 K9.length sc6, .slice qa6 Q9.length qc6, .int .i64 H], .agg #[.int .i64 F.kind, .int .i64 F.heard, .int .i64 F.epoch, .slice xa F.op.length xc, .string F.text], .bool true, .slice (some ⟨g8, 0, none⟩) (P9.length + 1) cap8, .int .i64 0]) (by simp [results, Tryd.results6, go_sem, t9, u9]) rfl (by rw [HHX.out]; exact ⟨_, _, _, _, rfl, HGK3, ho3, HBN3⟩)
    · cases bare
      · have g2 : (num == hd + 1) = false := by rcases e0 with h | h; cases h; simpa using h
        subst e3 e2
        clear e0
        have HF : Hid (F = fr0) := e4
        clear e4 HHH
        go_wp2_with fail
        clear g2
        have hbF := (Below.refl w4.heap.size w4).alloc (Nat.le_refl _) (.cells #[.int .i64 0, .int .i64 0, .int .i64 0, .slice none 0 0, .string ⟨#[]⟩] 28)
        have hf8 := heap_alloc_new w4 (.cells #[.int .i64 0, .int .i64 0, .int .i64 0, .slice none 0 0, .string ⟨#[]⟩] 28)
        rw [show w4.heap.size = w4.heap.size by first | rfl | simp] at hf8
        have hlE := row_old hl (.cells #[.int .i64 0, .int .i64 0, .int .i64 0, .slice none 0 0, .string ⟨#[]⟩] 28)
        have hpE := row_old hp (.cells #[.int .i64 0, .int .i64 0, .int .i64 0, .slice none 0 0, .string ⟨#[]⟩] 28)
        have hrE := row_old hr (.cells #[.int .i64 0, .int .i64 0, .int .i64 0, .slice none 0 0, .string ⟨#[]⟩] 28)
        have hxE := row_old hx (.cells #[.int .i64 0, .int .i64 0, .int .i64 0, .slice none 0 0, .string ⟨#[]⟩] 28)
        have hJE := hJ6.below hbF
        have hKQE := hKQ.below hbF
        have HBE := below_two HB6 hbF (Nat.le_refl _)
        have hw2E : w2.heap.size ≤ (w4.alloc (.cells #[.int .i64 0, .int .i64 0, .int .i64 0, .slice none 0 0, .string ⟨#[]⟩] 28)).heap.size := by have := hbF.size; simp at this ⊢; omega
        clear l0 ll0 lf0 p0' pl0 pf0 y6 yl6 yf6 y5 yl5 yf5 ql qp cC hl hp hr hx hy6 hJ6 hKQ HB6 hbF
        generalize (w4.alloc (.cells #[.int .i64 0, .int .i64 0, .int .i64 0, .slice none 0 0, .string ⟨#[]⟩] 28)) = wE at *
        obtain ⟨xa, xc, hxa⟩ : ∃ xa xc, (Value.slice xa 0 xc) = .slice none 0 0 := ⟨none, 0, rfl⟩
        have hfE : wE.heap[w4.heap.size]? = some (Obj.cells #[.int .i64 F.kind, .int .i64 F.heard, .int .i64 F.epoch, .slice xa F.op.length xc, .string F.text] 28 (0, 0)) := by rw [HF.out]; show _ = some (Obj.cells #[.int .i64 0, .int .i64 0, .int .i64 0, .slice xa 0 xc, .string ⟨#[]⟩] 28 (0, 0)); rw [hxa]; exact hf8
        have hoE : wE.ownsRow w.heap.size 63 3 (.slice xa F.op.length xc) F.op.length (partCells F.op) := by rw [HF.out]; show wE.ownsRow w.heap.size 63 3 (.slice xa 0 xc) 0 []; rw [hxa]; exact World.ownsRow_nil _ _ _ _
        have hzo : w.heap.size ≤ w.heap.size := Nat.le_refl _
        clear hf8 hxa HF

        have cGE := cG w2.heap.size (.slice ja J.length jc) (.slice oa KQ.length oc) J KQ wE hw2E hJE HJ.out hKQE HEQ.out
        clear cG hJE hKQE
        refine cGE.mono ?_
        rintro r wF ⟨sv9, qv9, pv9, rfl, hG, hbF⟩
        obtain ⟨K9, Q9, P9, q1, q2, q3, q4, q5, q6⟩ := hG.ex
        obtain ⟨sa6, sc6, rfl, -⟩ := q1.row
        obtain ⟨qa6, qc6, rfl, -⟩ := q3.row
        obtain ⟨pa6, pc6, rfl⟩ := own_form q5.row
        have hPl : P9.length ≤ 8 := by have := congrArg List.length q6; rw [List.length_map] at this; have := HRl.out; omega
        have Hq2 : Hid (K9.map (·.1) = RG.1.sent) := q2
        have Hq4 : Hid (Q9.map (·.1) = RG.1.queue) := q4
        have Hq6 : Hid (P9.map (·.1) = RG.2) := q6
        have HBF := below_two HBE hbF (Nat.le_refl _)
        have hzF := hbF.size
        have hwE := HBE.size
        have hlF := (hbF.block _ (Array.getElem?_eq_some_iff.1 hlE).1).trans hlE
        have hpF := (hbF.block _ (Array.getElem?_eq_some_iff.1 hpE).1).trans hpE
        have hrF := (hbF.block _ (Array.getElem?_eq_some_iff.1 hrE).1).trans hrE
        have hxF := (hbF.block _ (Array.getElem?_eq_some_iff.1 hxE).1).trans hxE
        have hfF := (hbF.block _ (Array.getElem?_eq_some_iff.1 hfE).1).trans hfE
        have hoF := own_below hoE hbF
        have hbY := (Below.refl wF.heap.size wF).alloc (Nat.le_refl _) (.cells #[.int .i64 pe, .int .i64 N, .slice sa6 K9.length sc6, .slice qa6 Q9.length qc6, .int .i64 H] 24)
        have hyY := heap_alloc_new wF (.cells #[.int .i64 pe, .int .i64 N, .slice sa6 K9.length sc6, .slice qa6 Q9.length qc6, .int .i64 H] 24)
        have hrY := row_old hrF (.cells #[.int .i64 pe, .int .i64 N, .slice sa6 K9.length sc6, .slice qa6 Q9.length qc6, .int .i64 H] 24)
        have hxY := row_old hxF (.cells #[.int .i64 pe, .int .i64 N, .slice sa6 K9.length sc6, .slice qa6 Q9.length qc6, .int .i64 H] 24)
        have hfY := row_old hfF (.cells #[.int .i64 pe, .int .i64 N, .slice sa6 K9.length sc6, .slice qa6 Q9.length qc6, .int .i64 H] 24)
        have k1 := q1.below hbY
        have k3 := q3.below hbY
        have k5 := q5.below hbY
        have hoY := own_below hoF hbY
        have HBY := below_two HBF hbY (Nat.le_refl _)
        have hn1 : w4.heap.size < wF.heap.size := (Array.getElem?_eq_some_iff.1 hfF).1
        have hn2 : w.heap.size + 1 < wF.heap.size := (Array.getElem?_eq_some_iff.1 hpF).1
        have hn3 : w.heap.size + 1 + 1 + 1 < wF.heap.size := (Array.getElem?_eq_some_iff.1 hxF).1
        have hn4 : w.heap.size + 1 + 1 < wF.heap.size := (Array.getElem?_eq_some_iff.1 hrF).1
        have hn6' : w.heap.size + 1 + 1 + 1 < w4.heap.size := by omega
        have hn5 : w.heap.size < wF.heap.size := (Array.getElem?_eq_some_iff.1 hlF).1
        have hzY : wF.heap.size + 1 ≤ (wF.alloc (.cells #[.int .i64 pe, .int .i64 N, .slice sa6 K9.length sc6, .slice qa6 Q9.length qc6, .int .i64 H] 24)).heap.size := by simp
        clear hG q1 q2 q3 q4 q5 q6 hlE hpE hrE hxE hfE hoE hoF hbF cGE hbY HBE
        obtain ⟨lF, llF, lfF⟩ := blk hlF
        obtain ⟨pF, plF, pfF⟩ := blk hpF
        obtain ⟨fF, flF, ffF⟩ := blk hfF
        obtain ⟨rF, rlF, rfF⟩ := blk hrF
        obtain ⟨xF, xlF, xfF⟩ := blk hxF
        obtain ⟨yY, ylY, yfY⟩ := blk hyY
        have hrw := k5.ownPk
        go_wp2_with (at_builtin; refine wpList_append_lies _ rfl _ _ 32 rfl wE.heap.size 30 p0 (.agg #[.int .i64 0, .int .i64 0, .bool false, .int .i64 0, .int .i64 0, .int .i64 0, .int .i64 0, .slice none 0 0, .string .empty]) 9 96 Tryd.underlying32 hp0 hpz0 hpz1 hpz2 rfl (by decide) _ _ _ rfl (hrw.alloc _) ⟨wF.heap.size + 1, 0, none⟩ 1 1 [.int .i64 pe, .int .i64 0, .bool true, .int .i64 H, .int .i64 0, .int .i64 0, .int .i64 0, .slice none 0 0, .string ⟨#[]⟩] rfl rfl (by have hq := World.news_of_block (cs := #[.int .i64 pe, .int .i64 0, .bool true, .int .i64 H, .int .i64 0, .int .i64 0, .int .i64 0, .slice none 0 0, .string ⟨#[]⟩]) (t := 30) (fr := (0, 0)) (heap_alloc_new (wF.alloc (.cells #[.int .i64 pe, .int .i64 N, .slice sa6 K9.length sc6, .slice qa6 Q9.length qc6, .int .i64 H] 24)) _); rw [show (wF.alloc (.cells #[.int .i64 pe, .int .i64 N, .slice sa6 K9.length sc6, .slice qa6 Q9.length qc6, .int .i64 H] 24)).heap.size = wF.heap.size + 1 by simp] at hq; exact hq) (by simp [Value.oneCell']) (by decide) (by unfold maxLen; omega) (by omega) (by simp; omega) _ rfl ?_; intro g8 cap8 w8 hown8 hgr8 hat8 hlt8)
        have hyZ := row_kept (hrw.alloc _) (row_old hyY _) (by decide) hgr8
        have hfZ := row_kept (hrw.alloc _) (row_old hfY _) (by decide) hgr8
        have hrZ := row_kept (hrw.alloc _) (row_old hrY _) (by decide) hgr8
        have hxZ := row_kept (hrw.alloc _) (row_old hxY _) (by decide) hgr8
        have hoZ := own_grown hoY hrw hgr8 (by decide)
        have hGZ : GoOk w8 w2.heap.size wE.heap.size (.slice sa6 K9.length sc6) (.slice qa6 Q9.length qc6) (.slice (some ⟨g8, 0, none⟩) (P9.length + 1) cap8) (RG.1, RG.2 ++ [⟨pe, 0, true, H, fr0⟩]) := ⟨K9, Q9, _, k1.other hrw hgr8 (by decide) (by decide), Hq2.out, k3.other hrw hgr8 (by decide) (by decide), Hq4.out, RowK.app (x := ((⟨pe, 0, true, H, fr0⟩, Value.slice none 0 0) : PkK)) k5 (World.ownsRow_nil _ _ _ _) hown8 hgr8, by rw [List.map_append, Hq6.out]; rfl⟩
        have HBZ : Below w.heap.size w w8 := (HBY.alloc HBY.size _).grown hgr8 (by have := HBY.size; simp at this ⊢; omega) (fun k e => by have := (hrw.lt k e).1; omega)
        have hn6 := hgr8.size
        clear lF llF lfF pF plF pfF fF flF ffF rF rlF rfF xF xlF xfF yY ylY yfY hrw hown8 hgr8 hat8 hlt8 HBY
        obtain ⟨rrd0, rrd1, rrd2⟩ := blk hrZ
        have rra0 : w8.cell? ⟨w.heap.size + 1 + 1, 0, none⟩ = some (.int .i64 0) := rrd0 0
        have rrb0 : w8.frozen? ⟨w.heap.size + 1 + 1, 0, none⟩ = false := rrd2 0
        have rra1 : w8.cell? ⟨w.heap.size + 1 + 1, 1, none⟩ = some (.int .i64 0) := rrd0 1
        have rrb1 : w8.frozen? ⟨w.heap.size + 1 + 1, 1, none⟩ = false := rrd2 1
        have rra2 : w8.cell? ⟨w.heap.size + 1 + 1, 2, none⟩ = some (.slice none 0 0) := rrd0 2
        have rrb2 : w8.frozen? ⟨w.heap.size + 1 + 1, 2, none⟩ = false := rrd2 2
        have rra3 : w8.cell? ⟨w.heap.size + 1 + 1, 3, none⟩ = some (.slice none 0 0) := rrd0 3
        have rrb3 : w8.frozen? ⟨w.heap.size + 1 + 1, 3, none⟩ = false := rrd2 3
        have rra4 : w8.cell? ⟨w.heap.size + 1 + 1, 4, none⟩ = some (.int .i64 0) := rrd0 4
        have rrb4 : w8.frozen? ⟨w.heap.size + 1 + 1, 4, none⟩ = false := rrd2 4
        clear rrd0 rrd1 rrd2
        obtain ⟨xxd0, xxd1, xxd2⟩ := blk hxZ
        have xxa0 : w8.cell? ⟨w.heap.size + 1 + 1 + 1, 0, none⟩ = some (.int .i64 0) := xxd0 0
        have xxb0 : w8.frozen? ⟨w.heap.size + 1 + 1 + 1, 0, none⟩ = false := xxd2 0
        have xxa1 : w8.cell? ⟨w.heap.size + 1 + 1 + 1, 1, none⟩ = some (.int .i64 0) := xxd0 1
        have xxb1 : w8.frozen? ⟨w.heap.size + 1 + 1 + 1, 1, none⟩ = false := xxd2 1
        have xxa2 : w8.cell? ⟨w.heap.size + 1 + 1 + 1, 2, none⟩ = some (.int .i64 0) := xxd0 2
        have xxb2 : w8.frozen? ⟨w.heap.size + 1 + 1 + 1, 2, none⟩ = false := xxd2 2
        have xxa3 : w8.cell? ⟨w.heap.size + 1 + 1 + 1, 3, none⟩ = some (.slice none 0 0) := xxd0 3
        have xxb3 : w8.frozen? ⟨w.heap.size + 1 + 1 + 1, 3, none⟩ = false := xxd2 3
        have xxa4 : w8.cell? ⟨w.heap.size + 1 + 1 + 1, 4, none⟩ = some (.string ⟨#[]⟩) := xxd0 4
        have xxb4 : w8.frozen? ⟨w.heap.size + 1 + 1 + 1, 4, none⟩ = false := xxd2 4
        clear xxd0 xxd1 xxd2
        obtain ⟨yyd0, yyd1, yyd2⟩ := blk hyZ
        have yya0 : w8.cell? ⟨wF.heap.size, 0, none⟩ = some (.int .i64 pe) := yyd0 0
        have yya1 : w8.cell? ⟨wF.heap.size, 1, none⟩ = some (.int .i64 N) := yyd0 1
        have yya2 : w8.cell? ⟨wF.heap.size, 2, none⟩ = some (.slice sa6 K9.length sc6) := yyd0 2
        have yya3 : w8.cell? ⟨wF.heap.size, 3, none⟩ = some (.slice qa6 Q9.length qc6) := yyd0 3
        have yya4 : w8.cell? ⟨wF.heap.size, 4, none⟩ = some (.int .i64 H) := yyd0 4
        clear yyd0 yyd1 yyd2
        obtain ⟨ffd0, ffd1, ffd2⟩ := blk hfZ
        have ffa0 : w8.cell? ⟨w4.heap.size, 0, none⟩ = some (.int .i64 F.kind) := ffd0 0
        have ffa1 : w8.cell? ⟨w4.heap.size, 1, none⟩ = some (.int .i64 F.heard) := ffd0 1
        have ffa2 : w8.cell? ⟨w4.heap.size, 2, none⟩ = some (.int .i64 F.epoch) := ffd0 2
        have ffa3 : w8.cell? ⟨w4.heap.size, 3, none⟩ = some (.slice xa F.op.length xc) := ffd0 3
        have ffa4 : w8.cell? ⟨w4.heap.size, 4, none⟩ = some (.string F.text) := ffd0 4
        clear ffd0 ffd1 ffd2

        have hne0 : w.heap.size + 1 + 1 ≠ w.heap.size + 1 + 1 + 1 := by omega
        have hne1 : w.heap.size + 1 + 1 ≠ wF.heap.size := by omega
        have hne2 : w.heap.size + 1 + 1 ≠ w4.heap.size := by omega
        have hne3 : w.heap.size + 1 + 1 + 1 ≠ w.heap.size + 1 + 1 := by omega
        have hne4 : w.heap.size + 1 + 1 + 1 ≠ wF.heap.size := by omega
        have hne5 : w.heap.size + 1 + 1 + 1 ≠ w4.heap.size := by omega
        have hne6 : wF.heap.size ≠ w.heap.size + 1 + 1 := by omega
        have hne7 : wF.heap.size ≠ w.heap.size + 1 + 1 + 1 := by omega
        have hne8 : wF.heap.size ≠ w4.heap.size := by omega
        have hne9 : w4.heap.size ≠ w.heap.size + 1 + 1 := by omega
        have hne10 : w4.heap.size ≠ w.heap.size + 1 + 1 + 1 := by omega
        have hne11 : w4.heap.size ≠ wF.heap.size := by omega
        have HGZ : Hid (GoOk w8 w2.heap.size wE.heap.size (.slice sa6 K9.length sc6) (.slice qa6 Q9.length qc6) (.slice (some ⟨g8, 0, none⟩) (P9.length + 1) cap8) (RG.1, RG.2 ++ [⟨pe, 0, true, H, fr0⟩])) := hGZ
        have HOZ : Hid (w8.ownsRow w.heap.size 63 3 (.slice xa F.op.length xc) F.op.length (partCells F.op)) := own_base hoZ hzo
        have HBZh : Hid (Below w.heap.size w w8) := HBZ
        have HRZ : Hid (w8.heap[w.heap.size + 1 + 1]? = some (Obj.cells #[.int .i64 0, .int .i64 0, .slice none 0 0, .slice none 0 0, .int .i64 0] 24 (0, 0))) := hrZ
        have HXZ : Hid (w8.heap[w.heap.size + 1 + 1 + 1]? = some (Obj.cells #[.int .i64 0, .int .i64 0, .int .i64 0, .slice none 0 0, .string ⟨#[]⟩] 28 (0, 0))) := hxZ
        clear hGZ hoZ HBZ hrZ hxZ hyZ hfZ k1 k3 k5 hoY hrY hxY hyY hfY
        go_region
        all_goals
          go_wp2_with fail
          obtain ⟨hr11, hc1⟩ := puts_all HRZ.out [.int .i64 pe, .int .i64 N, .slice sa6 K9.length sc6, .slice qa6 Q9.length qc6, .int .i64 H] rfl
          simp only [puts, Nat.zero_add, Nat.reduceAdd] at hr11 hc1
          have hx11 := hc1.row HXZ.out (by omega)
          obtain ⟨hx12, hc2⟩ := puts_all hx11 [.int .i64 F.kind, .int .i64 F.heard, .int .i64 F.epoch, .slice xa F.op.length xc, .string F.text] rfl
          simp only [puts, Nat.zero_add, Nat.reduceAdd] at hx12 hc2
          have hr12 := hc2.row hr11 (by omega)
          have ho1 := own_chg HOZ.out hc1 (fun k hk e => row_ne HOZ.out HRZ.out (by decide) (by rw [← e]; exact hk.symm))
          have ho2 := own_chg ho1 hc2 (fun k hk e => row_ne ho1 hx11 (by decide) (by rw [← e]; exact hk.symm))
          have hsz := HBZh.out.size
          have HBN := (HBZh.out.trans (hc1.below (B := w.heap.size) (fun i e => by omega) hsz)).trans (hc2.below (B := w.heap.size) (fun i e => by omega) (Nat.le_trans hsz hc1.size))
          have HGK := ((HGZ.out.ahead (show w.heap.size + 1 + 1 < w2.heap.size by omega) (show w.heap.size + 1 + 1 < wE.heap.size by omega) hc1).ahead (show w.heap.size + 1 + 1 + 1 < w2.heap.size by omega) (show w.heap.size + 1 + 1 + 1 < wE.heap.size by omega) hc2).base (Nat.zero_le _) (show w.heap.size ≤ wE.heap.size by omega)
          have hdw := below_drew ((((((((((w8.setCell ⟨w.heap.size + 1 + 1, 0, none⟩ (.int .i64 pe)).setCell ⟨w.heap.size + 1 + 1, 1, none⟩ (.int .i64 N)).setCell ⟨w.heap.size + 1 + 1, 2, none⟩ (.slice sa6 K9.length sc6)).setCell ⟨w.heap.size + 1 + 1, 3, none⟩ (.slice qa6 Q9.length qc6)).setCell ⟨w.heap.size + 1 + 1, 4, none⟩ (.int .i64 H)).setCell ⟨w.heap.size + 1 + 1 + 1, 0, none⟩ (.int .i64 F.kind)).setCell ⟨w.heap.size + 1 + 1 + 1, 1, none⟩ (.int .i64 F.heard)).setCell ⟨w.heap.size + 1 + 1 + 1, 2, none⟩ (.int .i64 F.epoch)).setCell ⟨w.heap.size + 1 + 1 + 1, 3, none⟩ (.slice xa F.op.length xc)).setCell ⟨w.heap.size + 1 + 1 + 1, 4, none⟩ (.string F.text))
          have hr13 := heap_drewH hr12
          have hx13 := heap_drewH hx12
          have ho3 := own_below ho2 hdw
          have HBN3 := HBN.drew
          have HGK3 := HGK.below hdw
          clear hr11 hc1 hx11 hx12 hc2 hr12 ho1 ho2 HBN HGK hdw HGZ HOZ HBZh HRZ HXZ
          generalize ((((((((((w8.setCell ⟨w.heap.size + 1 + 1, 0, none⟩ (.int .i64 pe)).setCell ⟨w.heap.size + 1 + 1, 1, none⟩ (.int .i64 N)).setCell ⟨w.heap.size + 1 + 1, 2, none⟩ (.slice sa6 K9.length sc6)).setCell ⟨w.heap.size + 1 + 1, 3, none⟩ (.slice qa6 Q9.length qc6)).setCell ⟨w.heap.size + 1 + 1, 4, none⟩ (.int .i64 H)).setCell ⟨w.heap.size + 1 + 1 + 1, 0, none⟩ (.int .i64 F.kind)).setCell ⟨w.heap.size + 1 + 1 + 1, 1, none⟩ (.int .i64 F.heard)).setCell ⟨w.heap.size + 1 + 1 + 1, 2, none⟩ (.int .i64 F.epoch)).setCell ⟨w.heap.size + 1 + 1 + 1, 3, none⟩ (.slice xa F.op.length xc)).setCell ⟨w.heap.size + 1 + 1 + 1, 4, none⟩ (.string F.text)).drew = w9 at *
          obtain ⟨t9, _, _⟩ := blk hr13
          obtain ⟨u9, _, _⟩ := blk hx13
          exact bodyPost_ret (v := .tuple #[.agg #[.int .i64 pe, .int .i64 N, .slice sa6 K9.length sc6, .slice qa6 Q9.length qc6, .int .i64 H], .agg #[.int .i64 F.kind, .int .i64 F.heard, .int .i64 F.epoch, .slice xa F.op.length xc, .string F.text], .bool false, .slice (some ⟨g8, 0, none⟩) (P9.length + 1) cap8, .int .i64 0]) (by simp [results, Tryd.results6, go_sem, t9, u9]) rfl ⟨_, _, _, _, rfl, HGK3, ho3, HBN3⟩
      · subst e3 e2
        clear e0
        have HF : Hid (F = fr0) := e4
        clear e4 HHH
        go_wp2_with fail
        have hbF := (Below.refl w4.heap.size w4).alloc (Nat.le_refl _) (.cells #[.int .i64 0, .int .i64 0, .int .i64 0, .slice none 0 0, .string ⟨#[]⟩] 28)
        have hf8 := heap_alloc_new w4 (.cells #[.int .i64 0, .int .i64 0, .int .i64 0, .slice none 0 0, .string ⟨#[]⟩] 28)
        rw [show w4.heap.size = w4.heap.size by first | rfl | simp] at hf8
        have hlE := row_old hl (.cells #[.int .i64 0, .int .i64 0, .int .i64 0, .slice none 0 0, .string ⟨#[]⟩] 28)
        have hpE := row_old hp (.cells #[.int .i64 0, .int .i64 0, .int .i64 0, .slice none 0 0, .string ⟨#[]⟩] 28)
        have hrE := row_old hr (.cells #[.int .i64 0, .int .i64 0, .int .i64 0, .slice none 0 0, .string ⟨#[]⟩] 28)
        have hxE := row_old hx (.cells #[.int .i64 0, .int .i64 0, .int .i64 0, .slice none 0 0, .string ⟨#[]⟩] 28)
        have hJE := hJ6.below hbF
        have hKQE := hKQ.below hbF
        have HBE := below_two HB6 hbF (Nat.le_refl _)
        have hw2E : w2.heap.size ≤ (w4.alloc (.cells #[.int .i64 0, .int .i64 0, .int .i64 0, .slice none 0 0, .string ⟨#[]⟩] 28)).heap.size := by have := hbF.size; simp at this ⊢; omega
        clear l0 ll0 lf0 p0' pl0 pf0 y6 yl6 yf6 y5 yl5 yf5 ql qp cC hl hp hr hx hy6 hJ6 hKQ HB6 hbF
        generalize (w4.alloc (.cells #[.int .i64 0, .int .i64 0, .int .i64 0, .slice none 0 0, .string ⟨#[]⟩] 28)) = wE at *
        obtain ⟨xa, xc, hxa⟩ : ∃ xa xc, (Value.slice xa 0 xc) = .slice none 0 0 := ⟨none, 0, rfl⟩
        have hfE : wE.heap[w4.heap.size]? = some (Obj.cells #[.int .i64 F.kind, .int .i64 F.heard, .int .i64 F.epoch, .slice xa F.op.length xc, .string F.text] 28 (0, 0)) := by rw [HF.out]; show _ = some (Obj.cells #[.int .i64 0, .int .i64 0, .int .i64 0, .slice xa 0 xc, .string ⟨#[]⟩] 28 (0, 0)); rw [hxa]; exact hf8
        have hoE : wE.ownsRow w.heap.size 63 3 (.slice xa F.op.length xc) F.op.length (partCells F.op) := by rw [HF.out]; show wE.ownsRow w.heap.size 63 3 (.slice xa 0 xc) 0 []; rw [hxa]; exact World.ownsRow_nil _ _ _ _
        have hzo : w.heap.size ≤ w.heap.size := Nat.le_refl _
        clear hf8 hxa HF

        have cGE := cG w2.heap.size (.slice ja J.length jc) (.slice oa KQ.length oc) J KQ wE hw2E hJE HJ.out hKQE HEQ.out
        clear cG hJE hKQE
        refine cGE.mono ?_
        rintro r wF ⟨sv9, qv9, pv9, rfl, hG, hbF⟩
        obtain ⟨K9, Q9, P9, q1, q2, q3, q4, q5, q6⟩ := hG.ex
        obtain ⟨sa6, sc6, rfl, -⟩ := q1.row
        obtain ⟨qa6, qc6, rfl, -⟩ := q3.row
        obtain ⟨pa6, pc6, rfl⟩ := own_form q5.row
        have hPl : P9.length ≤ 8 := by have := congrArg List.length q6; rw [List.length_map] at this; have := HRl.out; omega
        have Hq2 : Hid (K9.map (·.1) = RG.1.sent) := q2
        have Hq4 : Hid (Q9.map (·.1) = RG.1.queue) := q4
        have Hq6 : Hid (P9.map (·.1) = RG.2) := q6
        have HBF := below_two HBE hbF (Nat.le_refl _)
        have hzF := hbF.size
        have hwE := HBE.size
        have hlF := (hbF.block _ (Array.getElem?_eq_some_iff.1 hlE).1).trans hlE
        have hpF := (hbF.block _ (Array.getElem?_eq_some_iff.1 hpE).1).trans hpE
        have hrF := (hbF.block _ (Array.getElem?_eq_some_iff.1 hrE).1).trans hrE
        have hxF := (hbF.block _ (Array.getElem?_eq_some_iff.1 hxE).1).trans hxE
        have hfF := (hbF.block _ (Array.getElem?_eq_some_iff.1 hfE).1).trans hfE
        have hoF := own_below hoE hbF
        have hbY := (Below.refl wF.heap.size wF).alloc (Nat.le_refl _) (.cells #[.int .i64 pe, .int .i64 N, .slice sa6 K9.length sc6, .slice qa6 Q9.length qc6, .int .i64 H] 24)
        have hyY := heap_alloc_new wF (.cells #[.int .i64 pe, .int .i64 N, .slice sa6 K9.length sc6, .slice qa6 Q9.length qc6, .int .i64 H] 24)
        have hrY := row_old hrF (.cells #[.int .i64 pe, .int .i64 N, .slice sa6 K9.length sc6, .slice qa6 Q9.length qc6, .int .i64 H] 24)
        have hxY := row_old hxF (.cells #[.int .i64 pe, .int .i64 N, .slice sa6 K9.length sc6, .slice qa6 Q9.length qc6, .int .i64 H] 24)
        have hfY := row_old hfF (.cells #[.int .i64 pe, .int .i64 N, .slice sa6 K9.length sc6, .slice qa6 Q9.length qc6, .int .i64 H] 24)
        have k1 := q1.below hbY
        have k3 := q3.below hbY
        have k5 := q5.below hbY
        have hoY := own_below hoF hbY
        have HBY := below_two HBF hbY (Nat.le_refl _)
        have hn1 : w4.heap.size < wF.heap.size := (Array.getElem?_eq_some_iff.1 hfF).1
        have hn2 : w.heap.size + 1 < wF.heap.size := (Array.getElem?_eq_some_iff.1 hpF).1
        have hn3 : w.heap.size + 1 + 1 + 1 < wF.heap.size := (Array.getElem?_eq_some_iff.1 hxF).1
        have hn4 : w.heap.size + 1 + 1 < wF.heap.size := (Array.getElem?_eq_some_iff.1 hrF).1
        have hn6' : w.heap.size + 1 + 1 + 1 < w4.heap.size := by omega
        have hn5 : w.heap.size < wF.heap.size := (Array.getElem?_eq_some_iff.1 hlF).1
        have hzY : wF.heap.size + 1 ≤ (wF.alloc (.cells #[.int .i64 pe, .int .i64 N, .slice sa6 K9.length sc6, .slice qa6 Q9.length qc6, .int .i64 H] 24)).heap.size := by simp
        clear hG q1 q2 q3 q4 q5 q6 hlE hpE hrE hxE hfE hoE hoF hbF cGE hbY HBE
        obtain ⟨lF, llF, lfF⟩ := blk hlF
        obtain ⟨pF, plF, pfF⟩ := blk hpF
        obtain ⟨fF, flF, ffF⟩ := blk hfF
        obtain ⟨rF, rlF, rfF⟩ := blk hrF
        obtain ⟨xF, xlF, xfF⟩ := blk hxF
        obtain ⟨yY, ylY, yfY⟩ := blk hyY
        go_wp2_with fail
        clear lF llF lfF pF plF pfF fF flF ffF rF rlF rfF xF xlF xfF yY ylY yfY
        have hrZ := hrY
        have hxZ := hxY
        have hyZ := hyY
        have hfZ := hfY
        have hoZ := hoY
        have hGZ : GoOk (wF.alloc (.cells #[.int .i64 pe, .int .i64 N, .slice sa6 K9.length sc6, .slice qa6 Q9.length qc6, .int .i64 H] 24)) w2.heap.size wE.heap.size (.slice sa6 K9.length sc6) (.slice qa6 Q9.length qc6) (.slice pa6 P9.length pc6) (RG.1, RG.2) := ⟨K9, Q9, P9, k1, Hq2.out, k3, Hq4.out, k5, Hq6.out⟩
        have HBZ := HBY
        clear HBY
        generalize (wF.alloc (.cells #[.int .i64 pe, .int .i64 N, .slice sa6 K9.length sc6, .slice qa6 Q9.length qc6, .int .i64 H] 24)) = w8 at *
        obtain ⟨rrd0, rrd1, rrd2⟩ := blk hrZ
        have rra0 : w8.cell? ⟨w.heap.size + 1 + 1, 0, none⟩ = some (.int .i64 0) := rrd0 0
        have rrb0 : w8.frozen? ⟨w.heap.size + 1 + 1, 0, none⟩ = false := rrd2 0
        have rra1 : w8.cell? ⟨w.heap.size + 1 + 1, 1, none⟩ = some (.int .i64 0) := rrd0 1
        have rrb1 : w8.frozen? ⟨w.heap.size + 1 + 1, 1, none⟩ = false := rrd2 1
        have rra2 : w8.cell? ⟨w.heap.size + 1 + 1, 2, none⟩ = some (.slice none 0 0) := rrd0 2
        have rrb2 : w8.frozen? ⟨w.heap.size + 1 + 1, 2, none⟩ = false := rrd2 2
        have rra3 : w8.cell? ⟨w.heap.size + 1 + 1, 3, none⟩ = some (.slice none 0 0) := rrd0 3
        have rrb3 : w8.frozen? ⟨w.heap.size + 1 + 1, 3, none⟩ = false := rrd2 3
        have rra4 : w8.cell? ⟨w.heap.size + 1 + 1, 4, none⟩ = some (.int .i64 0) := rrd0 4
        have rrb4 : w8.frozen? ⟨w.heap.size + 1 + 1, 4, none⟩ = false := rrd2 4
        clear rrd0 rrd1 rrd2
        obtain ⟨xxd0, xxd1, xxd2⟩ := blk hxZ
        have xxa0 : w8.cell? ⟨w.heap.size + 1 + 1 + 1, 0, none⟩ = some (.int .i64 0) := xxd0 0
        have xxb0 : w8.frozen? ⟨w.heap.size + 1 + 1 + 1, 0, none⟩ = false := xxd2 0
        have xxa1 : w8.cell? ⟨w.heap.size + 1 + 1 + 1, 1, none⟩ = some (.int .i64 0) := xxd0 1
        have xxb1 : w8.frozen? ⟨w.heap.size + 1 + 1 + 1, 1, none⟩ = false := xxd2 1
        have xxa2 : w8.cell? ⟨w.heap.size + 1 + 1 + 1, 2, none⟩ = some (.int .i64 0) := xxd0 2
        have xxb2 : w8.frozen? ⟨w.heap.size + 1 + 1 + 1, 2, none⟩ = false := xxd2 2
        have xxa3 : w8.cell? ⟨w.heap.size + 1 + 1 + 1, 3, none⟩ = some (.slice none 0 0) := xxd0 3
        have xxb3 : w8.frozen? ⟨w.heap.size + 1 + 1 + 1, 3, none⟩ = false := xxd2 3
        have xxa4 : w8.cell? ⟨w.heap.size + 1 + 1 + 1, 4, none⟩ = some (.string ⟨#[]⟩) := xxd0 4
        have xxb4 : w8.frozen? ⟨w.heap.size + 1 + 1 + 1, 4, none⟩ = false := xxd2 4
        clear xxd0 xxd1 xxd2
        obtain ⟨yyd0, yyd1, yyd2⟩ := blk hyZ
        have yya0 : w8.cell? ⟨wF.heap.size, 0, none⟩ = some (.int .i64 pe) := yyd0 0
        have yya1 : w8.cell? ⟨wF.heap.size, 1, none⟩ = some (.int .i64 N) := yyd0 1
        have yya2 : w8.cell? ⟨wF.heap.size, 2, none⟩ = some (.slice sa6 K9.length sc6) := yyd0 2
        have yya3 : w8.cell? ⟨wF.heap.size, 3, none⟩ = some (.slice qa6 Q9.length qc6) := yyd0 3
        have yya4 : w8.cell? ⟨wF.heap.size, 4, none⟩ = some (.int .i64 H) := yyd0 4
        clear yyd0 yyd1 yyd2
        obtain ⟨ffd0, ffd1, ffd2⟩ := blk hfZ
        have ffa0 : w8.cell? ⟨w4.heap.size, 0, none⟩ = some (.int .i64 F.kind) := ffd0 0
        have ffa1 : w8.cell? ⟨w4.heap.size, 1, none⟩ = some (.int .i64 F.heard) := ffd0 1
        have ffa2 : w8.cell? ⟨w4.heap.size, 2, none⟩ = some (.int .i64 F.epoch) := ffd0 2
        have ffa3 : w8.cell? ⟨w4.heap.size, 3, none⟩ = some (.slice xa F.op.length xc) := ffd0 3
        have ffa4 : w8.cell? ⟨w4.heap.size, 4, none⟩ = some (.string F.text) := ffd0 4
        clear ffd0 ffd1 ffd2

        have hne0 : w.heap.size + 1 + 1 ≠ w.heap.size + 1 + 1 + 1 := by omega
        have hne1 : w.heap.size + 1 + 1 ≠ wF.heap.size := by omega
        have hne2 : w.heap.size + 1 + 1 ≠ w4.heap.size := by omega
        have hne3 : w.heap.size + 1 + 1 + 1 ≠ w.heap.size + 1 + 1 := by omega
        have hne4 : w.heap.size + 1 + 1 + 1 ≠ wF.heap.size := by omega
        have hne5 : w.heap.size + 1 + 1 + 1 ≠ w4.heap.size := by omega
        have hne6 : wF.heap.size ≠ w.heap.size + 1 + 1 := by omega
        have hne7 : wF.heap.size ≠ w.heap.size + 1 + 1 + 1 := by omega
        have hne8 : wF.heap.size ≠ w4.heap.size := by omega
        have hne9 : w4.heap.size ≠ w.heap.size + 1 + 1 := by omega
        have hne10 : w4.heap.size ≠ w.heap.size + 1 + 1 + 1 := by omega
        have hne11 : w4.heap.size ≠ wF.heap.size := by omega
        have HGZ : Hid (GoOk w8 w2.heap.size wE.heap.size (.slice sa6 K9.length sc6) (.slice qa6 Q9.length qc6) (.slice pa6 P9.length pc6) (RG.1, RG.2)) := hGZ
        have HOZ : Hid (w8.ownsRow w.heap.size 63 3 (.slice xa F.op.length xc) F.op.length (partCells F.op)) := own_base hoZ hzo
        have HBZh : Hid (Below w.heap.size w w8) := HBZ
        have HRZ : Hid (w8.heap[w.heap.size + 1 + 1]? = some (Obj.cells #[.int .i64 0, .int .i64 0, .slice none 0 0, .slice none 0 0, .int .i64 0] 24 (0, 0))) := hrZ
        have HXZ : Hid (w8.heap[w.heap.size + 1 + 1 + 1]? = some (Obj.cells #[.int .i64 0, .int .i64 0, .int .i64 0, .slice none 0 0, .string ⟨#[]⟩] 28 (0, 0))) := hxZ
        clear hGZ hoZ HBZ hrZ hxZ hyZ hfZ k1 k3 k5 hoY hrY hxY hyY hfY
        go_region
        all_goals
          go_wp2_with fail
          obtain ⟨hr11, hc1⟩ := puts_all HRZ.out [.int .i64 pe, .int .i64 N, .slice sa6 K9.length sc6, .slice qa6 Q9.length qc6, .int .i64 H] rfl
          simp only [puts, Nat.zero_add, Nat.reduceAdd] at hr11 hc1
          have hx11 := hc1.row HXZ.out (by omega)
          obtain ⟨hx12, hc2⟩ := puts_all hx11 [.int .i64 F.kind, .int .i64 F.heard, .int .i64 F.epoch, .slice xa F.op.length xc, .string F.text] rfl
          simp only [puts, Nat.zero_add, Nat.reduceAdd] at hx12 hc2
          have hr12 := hc2.row hr11 (by omega)
          have ho1 := own_chg HOZ.out hc1 (fun k hk e => row_ne HOZ.out HRZ.out (by decide) (by rw [← e]; exact hk.symm))
          have ho2 := own_chg ho1 hc2 (fun k hk e => row_ne ho1 hx11 (by decide) (by rw [← e]; exact hk.symm))
          have hsz := HBZh.out.size
          have HBN := (HBZh.out.trans (hc1.below (B := w.heap.size) (fun i e => by omega) hsz)).trans (hc2.below (B := w.heap.size) (fun i e => by omega) (Nat.le_trans hsz hc1.size))
          have HGK := ((HGZ.out.ahead (show w.heap.size + 1 + 1 < w2.heap.size by omega) (show w.heap.size + 1 + 1 < wE.heap.size by omega) hc1).ahead (show w.heap.size + 1 + 1 + 1 < w2.heap.size by omega) (show w.heap.size + 1 + 1 + 1 < wE.heap.size by omega) hc2).base (Nat.zero_le _) (show w.heap.size ≤ wE.heap.size by omega)
          have hdw := below_drew ((((((((((w8.setCell ⟨w.heap.size + 1 + 1, 0, none⟩ (.int .i64 pe)).setCell ⟨w.heap.size + 1 + 1, 1, none⟩ (.int .i64 N)).setCell ⟨w.heap.size + 1 + 1, 2, none⟩ (.slice sa6 K9.length sc6)).setCell ⟨w.heap.size + 1 + 1, 3, none⟩ (.slice qa6 Q9.length qc6)).setCell ⟨w.heap.size + 1 + 1, 4, none⟩ (.int .i64 H)).setCell ⟨w.heap.size + 1 + 1 + 1, 0, none⟩ (.int .i64 F.kind)).setCell ⟨w.heap.size + 1 + 1 + 1, 1, none⟩ (.int .i64 F.heard)).setCell ⟨w.heap.size + 1 + 1 + 1, 2, none⟩ (.int .i64 F.epoch)).setCell ⟨w.heap.size + 1 + 1 + 1, 3, none⟩ (.slice xa F.op.length xc)).setCell ⟨w.heap.size + 1 + 1 + 1, 4, none⟩ (.string F.text))
          have hr13 := heap_drewH hr12
          have hx13 := heap_drewH hx12
          have ho3 := own_below ho2 hdw
          have HBN3 := HBN.drew
          have HGK3 := HGK.below hdw
          clear hr11 hc1 hx11 hx12 hc2 hr12 ho1 ho2 HBN HGK hdw HGZ HOZ HBZh HRZ HXZ
          generalize ((((((((((w8.setCell ⟨w.heap.size + 1 + 1, 0, none⟩ (.int .i64 pe)).setCell ⟨w.heap.size + 1 + 1, 1, none⟩ (.int .i64 N)).setCell ⟨w.heap.size + 1 + 1, 2, none⟩ (.slice sa6 K9.length sc6)).setCell ⟨w.heap.size + 1 + 1, 3, none⟩ (.slice qa6 Q9.length qc6)).setCell ⟨w.heap.size + 1 + 1, 4, none⟩ (.int .i64 H)).setCell ⟨w.heap.size + 1 + 1 + 1, 0, none⟩ (.int .i64 F.kind)).setCell ⟨w.heap.size + 1 + 1 + 1, 1, none⟩ (.int .i64 F.heard)).setCell ⟨w.heap.size + 1 + 1 + 1, 2, none⟩ (.int .i64 F.epoch)).setCell ⟨w.heap.size + 1 + 1 + 1, 3, none⟩ (.slice xa F.op.length xc)).setCell ⟨w.heap.size + 1 + 1 + 1, 4, none⟩ (.string F.text)).drew = w9 at *
          obtain ⟨t9, _, _⟩ := blk hr13
          obtain ⟨u9, _, _⟩ := blk hx13
          exact bodyPost_ret (v := .tuple #[.agg #[.int .i64 pe, .int .i64 N, .slice sa6 K9.length sc6, .slice qa6 Q9.length qc6, .int .i64 H], .agg #[.int .i64 F.kind, .int .i64 F.heard, .int .i64 F.epoch, .slice xa F.op.length xc, .string F.text], .bool false, .slice pa6 P9.length pc6, .int .i64 0]) (by simp [results, Tryd.results6, go_sem, t9, u9]) rfl ⟨_, _, _, _, rfl, HGK3, ho3, HBN3⟩

end Go.Proofs.YtnpjcdfkjgenbaaDoor
