/-
  Walks: link.checkHear; link.Hear, where it refuses; link.Open.
-/
import Derived.Test.YtnpjcdfkjgenbaaDoorLinkSend
namespace Go.Proofs.YtnpjcdfkjgenbaaDoor
open Go.RowKit Go.Lib

/-- CheckPacket of a packet in memory -/
theorem checkPk {w : World} {p : PkI} {v : Value} (ho : OpVal w v p.frame.op) (hs : FrSmall p.frame) (hT : Tabs w) :
    Calls Tryd.prog 25 #[.agg #[.int .i64 p.epoch, .int .i64 p.number, .bool p.bare, .int .i64 p.ack, .int .i64 p.frame.kind, .int .i64 p.frame.heard, .int .i64 p.frame.epoch, v, .string p.frame.text]] w fun r w' => r = .returned (.int .i64 p.err) ∧ Below w.heap.size w w' := by
  obtain ⟨a, c, rfl, hop, _, _⟩ := ho.form
  have h1 := hs.op.1
  exact checkPacket_any p.epoch p.number p.bare p.ack p.frame.kind p.frame.heard p.frame.epoch p.frame.op a c p.frame.text w hop (by omega) (fun q hq => by have := (hs.op.2 q hq).2.2; omega) (by have := hs.text; omega) hT

set_option maxRecDepth 100000 in
set_option maxHeartbeats 2000000 in
theorem checkHear_any {B : Nat} (ep nx hd : Int) (S Q : List FrK) (sv qv : Value) (p : PkI) (v : Value) (w : World) (hS : InK frS w B sv S) (hQ : InK frS w B qv Q) (fS : ∀ x ∈ S, FrSmall x.1) (fQ : ∀ x ∈ Q, FrSmall x.1) (lS : S.length ≤ 1048577) (lQ : Q.length ≤ 1048577) (ho : OpVal w v p.frame.op) (hs : FrSmall p.frame) (hT : Tabs w) :
    Calls Tryd.prog 11 #[.agg #[.int .i64 ep, .int .i64 nx, sv, qv, .int .i64 hd], .agg #[.int .i64 p.epoch, .int .i64 p.number, .bool p.bare, .int .i64 p.ack, .int .i64 p.frame.kind, .int .i64 p.frame.heard, .int .i64 p.frame.epoch, v, .string p.frame.text]] w fun r w' => r = .returned (.int .i64 (lhearErr (mkL ep nx hd S Q) p)) ∧ Below w.heap.size w w' := by
  have cC := fun w1 (hb : Below w.heap.size w w1) => linkCheck_any ep nx hd S Q sv qv w1 (hS.below hb) (hQ.below hb) fS fQ lS lQ (hT.below hb)
  have cF := fun w1 (hb : Below w.heap.size w w1) => checkPk (ho.below hb) hs (hT.below hb)
  obtain ⟨sa, sc, rfl, _⟩ := hS.row
  obtain ⟨qa, qc, rfl, _⟩ := hQ.row
  obtain ⟨ua, uc, rfl, _⟩ := ho.form
  obtain ⟨hl, hf, HB0, _⟩ := two_blocks w (.cells #[.int .i64 ep, .int .i64 nx, .slice sa S.length sc, .slice qa Q.length qc, .int .i64 hd] 24) (.cells #[.int .i64 p.epoch, .int .i64 p.number, .bool p.bare, .int .i64 p.ack, .int .i64 p.frame.kind, .int .i64 p.frame.heard, .int .i64 p.frame.epoch, .slice ua p.frame.op.length uc, .string p.frame.text] 30)
  unfold lhearErr
  show Calls _ _ _ _ fun r w' => r = .returned (.int .i64 (if linkErr (mkL ep nx hd S Q) ≠ 0 then linkErr (mkL ep nx hd S Q) else if p.err ≠ 0 then p.err else if ep = 0 ∨ p.epoch ≠ ep then 12 else 0)) ∧ _
  generalize linkErr (mkL ep nx hd S Q) = E at *
  generalize p.err = EF at *
  clear hS hQ fS fQ hT ho hs
  obtain ⟨l0, ll0, _⟩ := blk hl
  obtain ⟨f0, fl0, _⟩ := blk hf
  by_cases h1 : E = 0
  rotate_left
  · rw [if_pos h1]
    have g1 : (E != 0) = true := by simpa using h1
    go_enter Tryd.func11, Tryd.ntmps11
    go_wp2_with fail
    refine (cC _ HB0).mono ?_
    rintro r w1 ⟨rfl, hb1⟩
    go_wp2_with fail
    go_ret
    exact ⟨rfl, below_two HB0 hb1 (Nat.le_refl _)⟩
  rw [if_neg (by simpa using h1)]
  subst h1
  by_cases h3 : EF = 0
  rotate_left
  · rw [if_pos h3]
    have g3 : (EF != 0) = true := by simpa using h3
    go_enter Tryd.func11, Tryd.ntmps11
    go_wp2_with fail
    refine (cC _ HB0).mono ?_
    rintro r w1 ⟨rfl, hb1⟩
    have HB1 := below_two HB0 hb1 (Nat.le_refl _)
    replace hf := (hb1.block _ fl0).trans hf
    clear l0 ll0 f0 fl0
    obtain ⟨f0, fl0, _⟩ := blk hf
    go_wp2_with fail
    refine (cF _ HB1).mono ?_
    rintro r w2 ⟨rfl, hb2⟩
    go_wp2_with fail
    go_ret
    exact ⟨rfl, below_two HB1 hb2 (Nat.le_refl _)⟩
  rw [if_neg (by simpa using h3)]
  subst h3
  by_cases h2 : ep = 0
  · rw [if_pos (.inl h2)]
    subst h2
    go_enter Tryd.func11, Tryd.ntmps11
    go_wp2_with fail
    refine (cC _ HB0).mono ?_
    rintro r w1 ⟨rfl, hb1⟩
    have HB1 := below_two HB0 hb1 (Nat.le_refl _)
    replace hl := (hb1.block _ ll0).trans hl
    replace hf := (hb1.block _ fl0).trans hf
    clear l0 ll0 f0 fl0
    obtain ⟨l0, ll0, _⟩ := blk hl
    obtain ⟨f0, fl0, _⟩ := blk hf
    go_wp2_with fail
    refine (cF _ HB1).mono ?_
    rintro r w2 ⟨rfl, hb2⟩
    replace hl := (hb2.block _ ll0).trans hl
    clear l0 ll0
    obtain ⟨l0, ll0, _⟩ := blk hl
    go_wp2_with fail
    go_ret
    exact ⟨rfl, below_two HB1 hb2 (Nat.le_refl _)⟩
  have g2 : (ep == 0) = false := by simpa using h2
  by_cases h4 : p.epoch = ep
  · rw [if_neg (by rintro (h | h); exact h2 h; exact h h4)]
    have g4 : (p.epoch != ep) = false := by simpa using h4
    clear h2 h4
    go_enter Tryd.func11, Tryd.ntmps11
    go_wp2_with fail
    refine (cC _ HB0).mono ?_
    rintro r w1 ⟨rfl, hb1⟩
    have HB1 := below_two HB0 hb1 (Nat.le_refl _)
    replace hl := (hb1.block _ ll0).trans hl
    replace hf := (hb1.block _ fl0).trans hf
    clear l0 ll0 f0 fl0
    obtain ⟨l0, ll0, _⟩ := blk hl
    obtain ⟨f0, fl0, _⟩ := blk hf
    go_wp2_with fail
    refine (cF _ HB1).mono ?_
    rintro r w2 ⟨rfl, hb2⟩
    replace hl := (hb2.block _ ll0).trans hl
    replace hf := (hb2.block _ fl0).trans hf
    clear l0 ll0 f0 fl0
    obtain ⟨l0, ll0, _⟩ := blk hl
    obtain ⟨f0, fl0, _⟩ := blk hf
    go_wp2_with fail
    go_ret
    exact ⟨rfl, below_two HB1 hb2 (Nat.le_refl _)⟩
  · rw [if_pos (.inr h4)]
    have g4 : (p.epoch != ep) = true := by simpa using h4
    clear h2 h4
    go_enter Tryd.func11, Tryd.ntmps11
    go_wp2_with fail
    refine (cC _ HB0).mono ?_
    rintro r w1 ⟨rfl, hb1⟩
    have HB1 := below_two HB0 hb1 (Nat.le_refl _)
    replace hl := (hb1.block _ ll0).trans hl
    replace hf := (hb1.block _ fl0).trans hf
    clear l0 ll0 f0 fl0
    obtain ⟨l0, ll0, _⟩ := blk hl
    obtain ⟨f0, fl0, _⟩ := blk hf
    go_wp2_with fail
    refine (cF _ HB1).mono ?_
    rintro r w2 ⟨rfl, hb2⟩
    replace hl := (hb2.block _ ll0).trans hl
    replace hf := (hb2.block _ fl0).trans hf
    clear l0 ll0 f0 fl0
    obtain ⟨l0, ll0, _⟩ := blk hl
    obtain ⟨f0, fl0, _⟩ := blk hf
    go_wp2_with fail
    go_ret
    exact ⟨rfl, below_two HB1 hb2 (Nat.le_refl _)⟩

theorem four_blocks (w : World) (o o' o'' o3 : Obj) : ((((w.alloc o).alloc o').alloc o'').alloc o3).heap[w.heap.size]? = some o ∧ ((((w.alloc o).alloc o').alloc o'').alloc o3).heap[w.heap.size + 1]? = some o' ∧ ((((w.alloc o).alloc o').alloc o'').alloc o3).heap[w.heap.size + 1 + 1]? = some o'' ∧ ((((w.alloc o).alloc o').alloc o'').alloc o3).heap[w.heap.size + 1 + 1 + 1]? = some o3 ∧ Below w.heap.size w ((((w.alloc o).alloc o').alloc o'').alloc o3) ∧ ((((w.alloc o).alloc o').alloc o'').alloc o3).heap.size = w.heap.size + 4 := by
  obtain ⟨h1, h2, h3, h4, h5⟩ := three_blocks w o o' o''
  have h6 := heap_alloc_new (((w.alloc o).alloc o').alloc o'') o3
  rw [h5] at h6
  exact ⟨row_old h1 o3, row_old h2 o3, row_old h3 o3, h6, h4.alloc h4.size o3, by simp⟩

set_option maxRecDepth 100000 in
set_option maxHeartbeats 2000000 in
theorem lhear_bad {B : Nat} (ep nx hd : Int) (S Q : List FrK) (sv qv : Value) (p : PkI) (v : Value) (w : World) (hS : InK frS w B sv S) (hQ : InK frS w B qv Q) (fS : ∀ x ∈ S, FrSmall x.1) (fQ : ∀ x ∈ Q, FrSmall x.1) (lS : S.length ≤ 1048577) (lQ : Q.length ≤ 1048577) (ho : OpVal w v p.frame.op) (hs : FrSmall p.frame) (hT : Tabs w) (herr : lhearErr (mkL ep nx hd S Q) p ≠ 0) :
    Calls Tryd.prog 5 #[.agg #[.int .i64 ep, .int .i64 nx, sv, qv, .int .i64 hd], .agg #[.int .i64 p.epoch, .int .i64 p.number, .bool p.bare, .int .i64 p.ack, .int .i64 p.frame.kind, .int .i64 p.frame.heard, .int .i64 p.frame.epoch, v, .string p.frame.text]] w fun r w' => r = .returned (.tuple #[.agg #[.int .i64 0, .int .i64 0, .slice none 0 0, .slice none 0 0, .int .i64 0], .agg #[.int .i64 0, .int .i64 0, .int .i64 0, .slice none 0 0, .string ByteArray.empty], .bool false, .slice none 0 0, .int .i64 (lhearErr (mkL ep nx hd S Q) p)]) ∧ Below w.heap.size w w' := by
  have cK := fun w1 (hb : Below w.heap.size w w1) => checkHear_any ep nx hd S Q sv qv p v w1 (hS.below hb) (hQ.below hb) fS fQ lS lQ (ho.below hb) hs (hT.below hb)
  obtain ⟨sa, sc, rfl, _⟩ := hS.row
  obtain ⟨qa, qc, rfl, _⟩ := hQ.row
  obtain ⟨ua, uc, rfl, _⟩ := ho.form
  generalize lhearErr (mkL ep nx hd S Q) p = E at *
  have g1 : (E != 0) = true := by simpa using herr
  obtain ⟨hl, hf, hr, hx, HB0, hz⟩ := four_blocks w (.cells #[.int .i64 ep, .int .i64 nx, .slice sa S.length sc, .slice qa Q.length qc, .int .i64 hd] 24) (.cells #[.int .i64 p.epoch, .int .i64 p.number, .bool p.bare, .int .i64 p.ack, .int .i64 p.frame.kind, .int .i64 p.frame.heard, .int .i64 p.frame.epoch, .slice ua p.frame.op.length uc, .string p.frame.text] 30) (.cells #[.int .i64 0, .int .i64 0, .slice none 0 0, .slice none 0 0, .int .i64 0] 24) (.cells #[.int .i64 0, .int .i64 0, .int .i64 0, .slice none 0 0, .string ⟨#[]⟩] 28)
  have cK1 := cK _ HB0
  obtain ⟨l0, ll0, _⟩ := blk hl
  obtain ⟨f0, fl0, _⟩ := blk hf
  clear cK hS hQ fS fQ ho hs hz herr
  go_enter Tryd.func5, Tryd.ntmps5
  go_wp2_with fail
  refine cK1.mono ?_
  generalize ((((w.alloc (.cells #[.int .i64 ep, .int .i64 nx, .slice sa S.length sc, .slice qa Q.length qc, .int .i64 hd] 24)).alloc (.cells #[.int .i64 p.epoch, .int .i64 p.number, .bool p.bare, .int .i64 p.ack, .int .i64 p.frame.kind, .int .i64 p.frame.heard, .int .i64 p.frame.epoch, .slice ua p.frame.op.length uc, .string p.frame.text] 30)).alloc (.cells #[.int .i64 0, .int .i64 0, .slice none 0 0, .slice none 0 0, .int .i64 0] 24)).alloc (.cells #[.int .i64 0, .int .i64 0, .int .i64 0, .slice none 0 0, .string ⟨#[]⟩] 28)) = w0 at *
  rintro r w1 ⟨rfl, hb1⟩
  have HB1 := below_two HB0 hb1 (Nat.le_refl _)
  replace hr := (hb1.block _ (Array.getElem?_eq_some_iff.1 hr).1).trans hr
  replace hx := (hb1.block _ (Array.getElem?_eq_some_iff.1 hx).1).trans hx
  obtain ⟨hfin, hch⟩ := puts_all hr [.int .i64 0, .int .i64 0, .slice none 0 0, .slice none 0 0, .int .i64 0] rfl
  simp only [puts, Nat.zero_add, Nat.reduceAdd] at hfin hch
  have HB2 := HB1.trans (hch.below (B := w.heap.size) (fun i e => by omega) HB1.size)
  have hx2 := hch.row hx (by omega)
  obtain ⟨hfix, hcx⟩ := puts_all hx2 [.int .i64 0, .int .i64 0, .int .i64 0, .slice none 0 0, .string ⟨#[]⟩] rfl
  simp only [puts, Nat.zero_add, Nat.reduceAdd] at hfix hcx
  have hfin2 := hcx.row hfin (by omega)
  have HB3 := HB2.trans (hcx.below (B := w.heap.size) (fun i e => by omega) HB2.size)
  clear l0 ll0 f0 fl0 cK1 hl hf hch hcx HB2
  obtain ⟨r0, rl0, rf0⟩ := blk hr
  obtain ⟨x0, xl0, xf0⟩ := blk hx
  obtain ⟨y0, yl0, yf0⟩ := blk hx2
  go_wp2_with fail
  generalize ((((((((((w1.setCell ⟨w.heap.size + 1 + 1, 0, none⟩ (.int .i64 0)).setCell ⟨w.heap.size + 1 + 1, 1, none⟩ (.int .i64 0)).setCell ⟨w.heap.size + 1 + 1, 2, none⟩ (.slice none 0 0)).setCell ⟨w.heap.size + 1 + 1, 3, none⟩ (.slice none 0 0)).setCell ⟨w.heap.size + 1 + 1, 4, none⟩ (.int .i64 0)).setCell ⟨w.heap.size + 1 + 1 + 1, 0, none⟩ (.int .i64 0)).setCell ⟨w.heap.size + 1 + 1 + 1, 1, none⟩ (.int .i64 0)).setCell ⟨w.heap.size + 1 + 1 + 1, 2, none⟩ (.int .i64 0)).setCell ⟨w.heap.size + 1 + 1 + 1, 3, none⟩ (.slice none 0 0)).setCell ⟨w.heap.size + 1 + 1 + 1, 4, none⟩ (.string ⟨#[]⟩)) = w9 at *
  obtain ⟨t9, _, _⟩ := blk hfin2
  obtain ⟨u9, _, _⟩ := blk hfix
  exact bodyPost_ret (v := .tuple #[.agg #[.int .i64 0, .int .i64 0, .slice none 0 0, .slice none 0 0, .int .i64 0], .agg #[.int .i64 0, .int .i64 0, .int .i64 0, .slice none 0 0, .string ⟨#[]⟩], .bool false, .slice none 0 0, .int .i64 E]) (by simp [results, Tryd.results5, go_sem, t9, u9]) rfl ⟨rfl, HB3⟩


end Go.Proofs.YtnpjcdfkjgenbaaDoor
