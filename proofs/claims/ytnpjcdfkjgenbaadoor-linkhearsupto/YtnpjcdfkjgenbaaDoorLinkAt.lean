/-
  Walks: wherryref.packetAt, LinkCopy.
-/
import Derived.Test.YtnpjcdfkjgenbaaDoorLinkFrs
namespace Go.Proofs.YtnpjcdfkjgenbaaDoor
open Go.RowKit Go.Lib

set_option maxRecDepth 100000 in
set_option maxHeartbeats 2000000 in
theorem packetAt_any {B : Nat} (ep nx hd : Int) (S : List FrK) (sv : Value) (qa : Option Addr) (qn qc : Nat) (i : Nat) (w : World) (hS : InK frS w B sv S) (hi : i < S.length) (hs : ∀ x ∈ S, x.1.op.length ≤ 1048576) (hn : (S.length : Int) ≤ nx ∧ nx ≤ 1048576) :
    Calls Tryd.prog 33 #[.agg #[.int .i64 ep, .int .i64 nx, sv, .slice qa qn qc, .int .i64 hd], .int .i64 (i : Int)] w fun r w' => ∃ u, r = .returned (.agg #[.int .i64 ep, .int .i64 (nx - (S.length : Int) + (i : Int)), .bool false, .int .i64 hd, .int .i64 S[i].1.kind, .int .i64 S[i].1.heard, .int .i64 S[i].1.epoch, u, .string S[i].1.text]) ∧ w'.ownsRow w.heap.size 63 3 u S[i].1.op.length (partCells S[i].1.op) ∧ Below w.heap.size w w' := by
  obtain ⟨sa, sc, rfl, _⟩ := hS.row
  obtain ⟨hl, hr, HB0, hz⟩ := two_blocks w (.cells #[.int .i64 ep, .int .i64 nx, .slice sa S.length sc, .slice qa qn qc, .int .i64 hd] 24) (.cells #[.int .i64 0, .int .i64 0, .bool false, .int .i64 0, .int .i64 0, .int .i64 0, .int .i64 0, .slice none 0 0, .string ⟨#[]⟩] 30)
  have k1 := hS.below HB0
  obtain ⟨b, off, c', ea, hbl, _, c0, c1, c2, c3, c4⟩ := fr_get k1 hi
  simp only [Value.slice.injEq, true_and] at ea
  obtain ⟨rfl, rfl⟩ := ea
  have hov : OpVal _ S[i].2 S[i].1.op := (k1.each S[i] (List.getElem_mem hi)).op
  have cF := frameCopy_any S[i].1 S[i].2 _ hov (hs _ (List.getElem_mem hi))
  have hiz : (i : Int) < (S.length : Int) := by omega
  have hi0 : (0 : Int) ≤ (i : Int) := by omega
  have n1 := hn.1
  have n2 := hn.2
  have hrz : w.heap.size + 1 < ((w.alloc (.cells #[.int .i64 ep, .int .i64 nx, .slice (some ⟨b, off, none⟩) S.length sc, .slice qa qn qc, .int .i64 hd] 24)).alloc (.cells #[.int .i64 0, .int .i64 0, .bool false, .int .i64 0, .int .i64 0, .int .i64 0, .int .i64 0, .slice none 0 0, .string ⟨#[]⟩] 30)).heap.size := by omega
  generalize S[i] = x at *
  obtain ⟨f, u⟩ := x
  simp only at c0 c1 c2 c3 c4 hov cF ⊢
  obtain ⟨ua, uc, rfl, _⟩ := hov.form
  obtain ⟨l0, ll0, _⟩ := blk hl
  clear hov k1 hs hn hz hS
  go_enter Tryd.func33, Tryd.ntmps33
  go_wp2_with fail
  refine cF.mono ?_
  clear c0 c1 c2 c3 c4 cF
  generalize ((w.alloc (.cells #[.int .i64 ep, .int .i64 nx, .slice (some ⟨b, off, none⟩) S.length sc, .slice qa qn qc, .int .i64 hd] 24)).alloc (.cells #[.int .i64 0, .int .i64 0, .bool false, .int .i64 0, .int .i64 0, .int .i64 0, .int .i64 0, .slice none 0 0, .string ⟨#[]⟩] 30)) = w0 at *
  rintro r w1 ⟨xu, rfl, hox, hb1⟩
  obtain ⟨xa, xc, rfl⟩ := own_form hox
  have hbA := (Below.refl w1.heap.size w1).alloc (Nat.le_refl _) (.cells #[.int .i64 f.kind, .int .i64 f.heard, .int .i64 f.epoch, .slice xa f.op.length xc, .string f.text] 28)
  have hb2 := below_two hb1 hbA (Nat.le_refl _)
  have HB2 := below_two HB0 hb2 (Nat.le_refl _)
  have hl2 := (hb2.block _ ll0).trans hl
  have hr2 := (hb2.block _ hrz).trans hr
  have hf2 := heap_alloc_new w1 (.cells #[.int .i64 f.kind, .int .i64 f.heard, .int .i64 f.epoch, .slice xa f.op.length xc, .string f.text] 28)
  have ho2 := own_below hox hbA
  have hz0 := HB0.size
  obtain ⟨hfin, hch⟩ := puts_all hr2 [.int .i64 ep, .int .i64 (nx - (S.length : Int) + (i : Int)), .bool false, .int .i64 hd, .int .i64 f.kind, .int .i64 f.heard, .int .i64 f.epoch, .slice xa f.op.length xc, .string f.text] rfl
  simp only [puts, Nat.zero_add, Nat.reduceAdd] at hfin hch
  have ho3 := own_base (own_chg ho2 hch (fun k hk e => row_ne ho2 hr2 (by decide) (by rw [← e]; exact hk.symm))) hz0
  have HB3 := HB2.trans (hch.below (B := w.heap.size) (fun k e => by omega) HB2.size)
  clear l0 ll0 hl hr hch hb1 hbA hb2 hox ho2
  obtain ⟨l2, ll2, _⟩ := blk hl2
  obtain ⟨r2, rl2, rf2⟩ := blk hr2
  obtain ⟨f2, fl2, _⟩ := blk hf2
  go_wp2_with fail
  generalize (w1.alloc (.cells #[.int .i64 f.kind, .int .i64 f.heard, .int .i64 f.epoch, .slice xa f.op.length xc, .string f.text] 28)) = w2 at *
  generalize (((((((((w2.setCell ⟨w.heap.size + 1, 0, none⟩ (.int .i64 ep)).setCell ⟨w.heap.size + 1, 1, none⟩ (.int .i64 (nx - (S.length : Int) + (i : Int)))).setCell ⟨w.heap.size + 1, 2, none⟩ (.bool false)).setCell ⟨w.heap.size + 1, 3, none⟩ (.int .i64 hd)).setCell ⟨w.heap.size + 1, 4, none⟩ (.int .i64 f.kind)).setCell ⟨w.heap.size + 1, 5, none⟩ (.int .i64 f.heard)).setCell ⟨w.heap.size + 1, 6, none⟩ (.int .i64 f.epoch)).setCell ⟨w.heap.size + 1, 7, none⟩ (.slice xa f.op.length xc)).setCell ⟨w.heap.size + 1, 8, none⟩ (.string f.text)) = w9 at *
  obtain ⟨t9, _, _⟩ := blk hfin
  exact bodyPost_ret (v := .agg #[.int .i64 ep, .int .i64 (nx - (S.length : Int) + (i : Int)), .bool false, .int .i64 hd, .int .i64 f.kind, .int .i64 f.heard, .int .i64 f.epoch, .slice xa f.op.length xc, .string f.text]) (by simp [results, Tryd.results33, go_sem, t9]) rfl ⟨_, rfl, ho3, HB3⟩


set_option maxRecDepth 100000 in
set_option maxHeartbeats 2000000 in
theorem linkCopy_sep {B : Nat} (ep nx hd : Int) (S Q : List FrK) (sv qv : Value) (w : World) (hS : InK frS w B sv S) (hQ : InK frS w B qv Q) (fS : ∀ x ∈ S, x.1.op.length ≤ 1048576) (fQ : ∀ x ∈ Q, x.1.op.length ≤ 1048576) (lS : S.length ≤ 1048577) (lQ : Q.length ≤ 1048577) :
    Calls Tryd.prog 4 #[.agg #[.int .i64 ep, .int .i64 nx, sv, qv, .int .i64 hd]] w fun r w' => ∃ sv' qv', r = .returned (.agg #[.int .i64 ep, .int .i64 nx, sv', qv', .int .i64 hd]) ∧ (∃ S' Q', RowK frS w' w.heap.size sv' S' ∧ S'.map (·.1) = S.map (·.1) ∧ RowK frS w' w.heap.size qv' Q' ∧ Q'.map (·.1) = Q.map (·.1) ∧ ∀ k, sv'.ownBlock = some k → qv'.ownBlock ≠ some k) ∧ Below w.heap.size w w' := by
  have cS := fun w1 (hb : Below w.heap.size w w1) => framesCopy_any S sv w1 (hS.below hb) fS lS
  have cQ := fun w1 (hb : Below w.heap.size w w1) => framesCopy_any Q qv w1 (hQ.below hb) fQ lQ
  obtain ⟨sa, sc, rfl, _⟩ := hS.row
  obtain ⟨qa, qc, rfl, _⟩ := hQ.row
  obtain ⟨hl, hr, HB0, hz⟩ := two_blocks w (.cells #[.int .i64 ep, .int .i64 nx, .slice sa S.length sc, .slice qa Q.length qc, .int .i64 hd] 24) (.cells #[.int .i64 0, .int .i64 0, .slice none 0 0, .slice none 0 0, .int .i64 0] 24)
  obtain ⟨l0, ll0, _⟩ := blk hl
  have hz1 : w.heap.size + 1 < ((w.alloc (.cells #[.int .i64 ep, .int .i64 nx, .slice sa S.length sc, .slice qa Q.length qc, .int .i64 hd] 24)).alloc (.cells #[.int .i64 0, .int .i64 0, .slice none 0 0, .slice none 0 0, .int .i64 0] 24)).heap.size := by omega
  clear hS hQ fS fQ hz lS lQ
  go_enter Tryd.func4, Tryd.ntmps4
  go_wp2_with fail
  generalize ((w.alloc (.cells #[.int .i64 ep, .int .i64 nx, .slice sa S.length sc, .slice qa Q.length qc, .int .i64 hd] 24)).alloc (.cells #[.int .i64 0, .int .i64 0, .slice none 0 0, .slice none 0 0, .int .i64 0] 24)) = w0 at *
  have hdd : Below w0.heap.size w0 w0.drew := ⟨rfl, rfl, rfl, Nat.le_refl _, fun _ _ => rfl⟩
  have hS0 : (fun w' => w'.cell? ⟨w.heap.size, 0, none⟩ = some (.int .i64 ep) ∧ w'.cell? ⟨w.heap.size, 1, none⟩ = some (.int .i64 nx) ∧ w'.cell? ⟨w.heap.size, 2, none⟩ = some (.slice sa S.length sc) ∧ w'.cell? ⟨w.heap.size, 3, none⟩ = some (.slice qa Q.length qc) ∧ w'.cell? ⟨w.heap.size, 4, none⟩ = some (.int .i64 hd) ∧ Below w.heap.size w w' ∧ w.heap.size + 1 < w'.heap.size) w0.drew := ⟨l0 0, l0 1, l0 2, l0 3, l0 4, below_two HB0 hdd (Nat.le_refl _), hz1⟩
  have toB : ∀ w', (fun w' => w'.cell? ⟨w.heap.size, 0, none⟩ = some (.int .i64 ep) ∧ w'.cell? ⟨w.heap.size, 1, none⟩ = some (.int .i64 nx) ∧ w'.cell? ⟨w.heap.size, 2, none⟩ = some (.slice sa S.length sc) ∧ w'.cell? ⟨w.heap.size, 3, none⟩ = some (.slice qa Q.length qc) ∧ w'.cell? ⟨w.heap.size, 4, none⟩ = some (.int .i64 hd) ∧ Below w.heap.size w w' ∧ w.heap.size + 1 < w'.heap.size) w' → Below w.heap.size w w' := fun _ h => h.2.2.2.2.2.1
  have keepC : ∀ {w' w'' : World}, (fun w' => w'.cell? ⟨w.heap.size, 0, none⟩ = some (.int .i64 ep) ∧ w'.cell? ⟨w.heap.size, 1, none⟩ = some (.int .i64 nx) ∧ w'.cell? ⟨w.heap.size, 2, none⟩ = some (.slice sa S.length sc) ∧ w'.cell? ⟨w.heap.size, 3, none⟩ = some (.slice qa Q.length qc) ∧ w'.cell? ⟨w.heap.size, 4, none⟩ = some (.int .i64 hd) ∧ Below w.heap.size w w' ∧ w.heap.size + 1 < w'.heap.size) w' → Below w'.heap.size w' w'' → (fun w' => w'.cell? ⟨w.heap.size, 0, none⟩ = some (.int .i64 ep) ∧ w'.cell? ⟨w.heap.size, 1, none⟩ = some (.int .i64 nx) ∧ w'.cell? ⟨w.heap.size, 2, none⟩ = some (.slice sa S.length sc) ∧ w'.cell? ⟨w.heap.size, 3, none⟩ = some (.slice qa Q.length qc) ∧ w'.cell? ⟨w.heap.size, 4, none⟩ = some (.int .i64 hd) ∧ Below w.heap.size w w' ∧ w.heap.size + 1 < w'.heap.size) w'' := fun {w' w''} h hb => by
    have hk : w.heap.size < w'.heap.size := by have := h.2.2.2.2.2.2; omega
    have g : ∀ j, w''.cell? ⟨w.heap.size, j, none⟩ = w'.cell? ⟨w.heap.size, j, none⟩ := fun j => hb.cell (p := ⟨w.heap.size, j, none⟩) hk
    exact ⟨(g 0).trans h.1, (g 1).trans h.2.1, (g 2).trans h.2.2.1, (g 3).trans h.2.2.2.1, (g 4).trans h.2.2.2.2.1, below_two h.2.2.2.2.2.1 hb (Nat.le_refl _), Nat.lt_of_lt_of_le h.2.2.2.2.2.2 hb.size⟩
  have keepW : ∀ {w' : World} (x0 x1 x2 x3 x4 : Value), (fun w' => w'.cell? ⟨w.heap.size, 0, none⟩ = some (.int .i64 ep) ∧ w'.cell? ⟨w.heap.size, 1, none⟩ = some (.int .i64 nx) ∧ w'.cell? ⟨w.heap.size, 2, none⟩ = some (.slice sa S.length sc) ∧ w'.cell? ⟨w.heap.size, 3, none⟩ = some (.slice qa Q.length qc) ∧ w'.cell? ⟨w.heap.size, 4, none⟩ = some (.int .i64 hd) ∧ Below w.heap.size w w' ∧ w.heap.size + 1 < w'.heap.size) w' → (fun w' => w'.cell? ⟨w.heap.size, 0, none⟩ = some (.int .i64 ep) ∧ w'.cell? ⟨w.heap.size, 1, none⟩ = some (.int .i64 nx) ∧ w'.cell? ⟨w.heap.size, 2, none⟩ = some (.slice sa S.length sc) ∧ w'.cell? ⟨w.heap.size, 3, none⟩ = some (.slice qa Q.length qc) ∧ w'.cell? ⟨w.heap.size, 4, none⟩ = some (.int .i64 hd) ∧ Below w.heap.size w w' ∧ w.heap.size + 1 < w'.heap.size) (((((w'.setCell ⟨w.heap.size + 1, 0, none⟩ x0).setCell ⟨w.heap.size + 1, 1, none⟩ x1).setCell ⟨w.heap.size + 1, 2, none⟩ x2).setCell ⟨w.heap.size + 1, 3, none⟩ x3).setCell ⟨w.heap.size + 1, 4, none⟩ x4) := fun {w'} x0 x1 x2 x3 x4 h => by
    have hc : Chg (fun k => k = w.heap.size + 1) w' (((((w'.setCell ⟨w.heap.size + 1, 0, none⟩ x0).setCell ⟨w.heap.size + 1, 1, none⟩ x1).setCell ⟨w.heap.size + 1, 2, none⟩ x2).setCell ⟨w.heap.size + 1, 3, none⟩ x3).setCell ⟨w.heap.size + 1, 4, none⟩ x4) := puts_chg (w.heap.size + 1) [x0, x1, x2, x3, x4] w' 0
    have hk : w.heap.size < w'.heap.size := by have := h.2.2.2.2.2.2; omega
    have g : ∀ j, (((((w'.setCell ⟨w.heap.size + 1, 0, none⟩ x0).setCell ⟨w.heap.size + 1, 1, none⟩ x1).setCell ⟨w.heap.size + 1, 2, none⟩ x2).setCell ⟨w.heap.size + 1, 3, none⟩ x3).setCell ⟨w.heap.size + 1, 4, none⟩ x4).cell? ⟨w.heap.size, j, none⟩ = w'.cell? ⟨w.heap.size, j, none⟩ := fun j => World.cell?_of_block (a := ⟨w.heap.size, j, none⟩) (hc.block _ hk (fun e => absurd (show w.heap.size = w.heap.size + 1 from e) (by omega)))
    exact ⟨(g 0).trans h.1, (g 1).trans h.2.1, (g 2).trans h.2.2.1, (g 3).trans h.2.2.2.1, (g 4).trans h.2.2.2.2.1, h.2.2.2.2.2.1.trans (hc.below (fun k e => by omega) h.2.2.2.2.2.1.size), Nat.lt_of_lt_of_le h.2.2.2.2.2.2 hc.size⟩
  have hrd : w0.drew.heap[w.heap.size + 1]? = some (Obj.cells #[.int .i64 0, .int .i64 0, .slice none 0 0, .slice none 0 0, .int .i64 0] 24 (0, 0)) := hr
  go_region_held3 (fun w' => w'.cell? ⟨w.heap.size, 0, none⟩ = some (.int .i64 ep) ∧ w'.cell? ⟨w.heap.size, 1, none⟩ = some (.int .i64 nx) ∧ w'.cell? ⟨w.heap.size, 2, none⟩ = some (.slice sa S.length sc) ∧ w'.cell? ⟨w.heap.size, 3, none⟩ = some (.slice qa Q.length qc) ∧ w'.cell? ⟨w.heap.size, 4, none⟩ = some (.int .i64 hd) ∧ Below w.heap.size w w' ∧ w.heap.size + 1 < w'.heap.size) (with_reducible first | exact hS0 | assumption | exact keepC (by assumption) hbs | exact keepC (by assumption) hbq | exact keepW _ _ _ _ _ (by assumption)) (first | (go_at_call 10; with_reducible refine Calls.mono (cS _ (toB _ (by assumption))) ?_; rintro e ws ⟨s', rfl, hs', hbs⟩; have hSs := keepC (by assumption) hbs; obtain ⟨S', hS', eS'⟩ := hs'; have hfs := own_form hS'.row; obtain ⟨ka, kc, rfl⟩ := hfs; (first | have hrs' := (hbs.block _ (Array.getElem?_eq_some_iff.1 hrq').1).trans hrq' | have hrs' := (hbs.block _ (Array.getElem?_eq_some_iff.1 hrd).1).trans hrd); have hks := blk hrs'; obtain ⟨rs, rls, rfs⟩ := hks) | (go_at_call 10; with_reducible refine Calls.mono (cQ _ (toB _ (by assumption))) ?_; rintro e wq ⟨q', rfl, hq', hbq⟩; have hSq := keepC (by assumption) hbq; obtain ⟨Q', hQ', eQ'⟩ := hq'; have hfq := own_form hQ'.row; obtain ⟨oa, oc, rfl⟩ := hfq; (first | have hrq' := (hbq.block _ (Array.getElem?_eq_some_iff.1 hrs').1).trans hrs' | have hrq' := (hbq.block _ (Array.getElem?_eq_some_iff.1 hrd).1).trans hrd); have hkq := blk hrq'; obtain ⟨rq, rlq, rfq⟩ := hkq))
  obtain ⟨hfin, hch⟩ := puts_all hrq' [.int .i64 ep, .int .i64 nx, .slice ka S'.length kc, .slice oa Q'.length oc, .int .i64 hd] rfl
  simp only [puts, Nat.zero_add, Nat.reduceAdd] at hfin hch
  have hzw : w.heap.size ≤ w0.drew.heap.size := by show w.heap.size ≤ w0.heap.size; omega
  have hzs := hbs.size
  have HBq := toB _ hSq
  have y1 := (((hS'.base hzw).below hbq).stored hrq' (by decide) (by decide) hch)
  have y2 := ((hQ'.base (show w.heap.size ≤ ws.heap.size by omega)).stored hrq' (by decide) (by decide) hch)
  have HB9 := HBq.trans (hch.below (B := w.heap.size) (fun k e => by omega) HBq.size)
  have hsep : Hid (∀ k, (Value.slice ka S'.length kc).ownBlock = some k → (Value.slice oa Q'.length oc).ownBlock ≠ some k) := fun k e e' => by have h1 := (hS'.row.lt k e).2; have h2 := (hQ'.row.lt k e').1; omega
  have HX : Hid (∃ A C, RowK frS _ w.heap.size (.slice ka S'.length kc) A ∧ A.map (·.1) = S.map (·.1) ∧ RowK frS _ w.heap.size (.slice oa Q'.length oc) C ∧ C.map (·.1) = Q.map (·.1)) := ⟨S', Q', y1, eS', y2, eQ'⟩
  clear y1 y2 hS' hQ' hch keepC keepW toB cS cQ hS0 hSs hSq
  generalize S'.length = kn at *
  generalize Q'.length = on at *
  go_wp2_with fail
  generalize (((((wq.setCell ⟨w.heap.size + 1, 0, none⟩ (.int .i64 ep)).setCell ⟨w.heap.size + 1, 1, none⟩ (.int .i64 nx)).setCell ⟨w.heap.size + 1, 2, none⟩ (.slice ka kn kc)).setCell ⟨w.heap.size + 1, 3, none⟩ (.slice oa on oc)).setCell ⟨w.heap.size + 1, 4, none⟩ (.int .i64 hd)) = w9 at *
  obtain ⟨t9, _, _⟩ := blk hfin
  exact bodyPost_ret (v := .agg #[.int .i64 ep, .int .i64 nx, .slice ka kn kc, .slice oa on oc, .int .i64 hd]) (by simp [results, Tryd.results4, go_sem, t9]) rfl ⟨_, _, rfl, by obtain ⟨A, C, h1, h2, h3, h4⟩ := HX.out; exact ⟨A, h1, h2, C, h3, h4, hsep.out⟩, HB9⟩

theorem linkCopy_any {B : Nat} (ep nx hd : Int) (S Q : List FrK) (sv qv : Value) (w : World) (hS : InK frS w B sv S) (hQ : InK frS w B qv Q) (fS : ∀ x ∈ S, x.1.op.length ≤ 1048576) (fQ : ∀ x ∈ Q, x.1.op.length ≤ 1048576) (lS : S.length ≤ 1048577) (lQ : Q.length ≤ 1048577) :
    Calls Tryd.prog 4 #[.agg #[.int .i64 ep, .int .i64 nx, sv, qv, .int .i64 hd]] w fun r w' => ∃ sv' qv', r = .returned (.agg #[.int .i64 ep, .int .i64 nx, sv', qv', .int .i64 hd]) ∧ (∃ S' Q', RowK frS w' w.heap.size sv' S' ∧ S'.map (·.1) = S.map (·.1) ∧ RowK frS w' w.heap.size qv' Q' ∧ Q'.map (·.1) = Q.map (·.1)) ∧ Below w.heap.size w w' := by
  refine (linkCopy_sep ep nx hd S Q sv qv w hS hQ fS fQ lS lQ).mono ?_
  rintro r w' ⟨sv', qv', hr, ⟨S', Q', h1, h2, h3, h4, _⟩, hb⟩
  exact ⟨sv', qv', hr, ⟨S', Q', h1, h2, h3, h4⟩, hb⟩

end Go.Proofs.YtnpjcdfkjgenbaaDoor
