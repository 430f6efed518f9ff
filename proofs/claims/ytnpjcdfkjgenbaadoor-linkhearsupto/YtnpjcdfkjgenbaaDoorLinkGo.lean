/-
  Walks: link.packetOf, link.bare; wherryref.packetAt.
  Walk: link.goOn.
-/
import Derived.Test.YtnpjcdfkjgenbaaDoorLinkBeh
namespace Go.Proofs.YtnpjcdfkjgenbaaDoor
open Go.RowKit Go.Lib

theorem three_blocks (w : World) (o o' o'' : Obj) : (((w.alloc o).alloc o').alloc o'').heap[w.heap.size]? = some o ∧ (((w.alloc o).alloc o').alloc o'').heap[w.heap.size + 1]? = some o' ∧ (((w.alloc o).alloc o').alloc o'').heap[w.heap.size + 1 + 1]? = some o'' ∧ Below w.heap.size w (((w.alloc o).alloc o').alloc o'') ∧ (((w.alloc o).alloc o').alloc o'').heap.size = w.heap.size + 3 := by
  obtain ⟨h1, h2, h3, h4⟩ := two_blocks w o o'
  have h5 := heap_alloc_new ((w.alloc o).alloc o') o''
  rw [h4] at h5
  exact ⟨row_old h1 o'', row_old h2 o'', h5, h3.alloc h3.size o'', by simp⟩

theorem pk_keep {ep hd k h e : Int} {ua : Option Addr} {pn uc : Nat} {tx : ByteArray} {w w' w'' : World} (hS : (fun w' => w'.cell? ⟨w.heap.size, 0, none⟩ = some (.int .i64 ep) ∧ w'.cell? ⟨w.heap.size, 4, none⟩ = some (.int .i64 hd) ∧ w'.cell? ⟨w.heap.size + 1, 0, none⟩ = some (.int .i64 k) ∧ w'.cell? ⟨w.heap.size + 1, 1, none⟩ = some (.int .i64 h) ∧ w'.cell? ⟨w.heap.size + 1, 2, none⟩ = some (.int .i64 e) ∧ w'.cell? ⟨w.heap.size + 1, 3, none⟩ = some (.slice ua pn uc) ∧ w'.cell? ⟨w.heap.size + 1, 4, none⟩ = some (.string tx)) w') (h1 : w''.heap[w.heap.size]? = w'.heap[w.heap.size]?) (h2 : w''.heap[w.heap.size + 1]? = w'.heap[w.heap.size + 1]?) : (fun w' => w'.cell? ⟨w.heap.size, 0, none⟩ = some (.int .i64 ep) ∧ w'.cell? ⟨w.heap.size, 4, none⟩ = some (.int .i64 hd) ∧ w'.cell? ⟨w.heap.size + 1, 0, none⟩ = some (.int .i64 k) ∧ w'.cell? ⟨w.heap.size + 1, 1, none⟩ = some (.int .i64 h) ∧ w'.cell? ⟨w.heap.size + 1, 2, none⟩ = some (.int .i64 e) ∧ w'.cell? ⟨w.heap.size + 1, 3, none⟩ = some (.slice ua pn uc) ∧ w'.cell? ⟨w.heap.size + 1, 4, none⟩ = some (.string tx)) w'' := by
  have g1 : ∀ j, w''.cell? ⟨w.heap.size, j, none⟩ = w'.cell? ⟨w.heap.size, j, none⟩ := fun j => World.cell?_of_block (a := ⟨w.heap.size, j, none⟩) h1
  have g2 : ∀ j, w''.cell? ⟨w.heap.size + 1, j, none⟩ = w'.cell? ⟨w.heap.size + 1, j, none⟩ := fun j => World.cell?_of_block (a := ⟨w.heap.size + 1, j, none⟩) h2
  obtain ⟨a0, a1, a2, a3, a4, a5, a6⟩ := hS
  exact ⟨(g1 0).trans a0, (g1 4).trans a1, (g2 0).trans a2, (g2 1).trans a3, (g2 2).trans a4, (g2 3).trans a5, (g2 4).trans a6⟩
theorem pk_below {ep hd k h e : Int} {ua : Option Addr} {pn uc : Nat} {tx : ByteArray} {w w' w'' : World} (hS : (fun w' => w'.cell? ⟨w.heap.size, 0, none⟩ = some (.int .i64 ep) ∧ w'.cell? ⟨w.heap.size, 4, none⟩ = some (.int .i64 hd) ∧ w'.cell? ⟨w.heap.size + 1, 0, none⟩ = some (.int .i64 k) ∧ w'.cell? ⟨w.heap.size + 1, 1, none⟩ = some (.int .i64 h) ∧ w'.cell? ⟨w.heap.size + 1, 2, none⟩ = some (.int .i64 e) ∧ w'.cell? ⟨w.heap.size + 1, 3, none⟩ = some (.slice ua pn uc) ∧ w'.cell? ⟨w.heap.size + 1, 4, none⟩ = some (.string tx)) w') (hb : Below w'.heap.size w' w'') (hl : w.heap.size + 1 < w'.heap.size) : (fun w' => w'.cell? ⟨w.heap.size, 0, none⟩ = some (.int .i64 ep) ∧ w'.cell? ⟨w.heap.size, 4, none⟩ = some (.int .i64 hd) ∧ w'.cell? ⟨w.heap.size + 1, 0, none⟩ = some (.int .i64 k) ∧ w'.cell? ⟨w.heap.size + 1, 1, none⟩ = some (.int .i64 h) ∧ w'.cell? ⟨w.heap.size + 1, 2, none⟩ = some (.int .i64 e) ∧ w'.cell? ⟨w.heap.size + 1, 3, none⟩ = some (.slice ua pn uc) ∧ w'.cell? ⟨w.heap.size + 1, 4, none⟩ = some (.string tx)) w'' := pk_keep hS (hb.block _ (by omega)) (hb.block _ hl)
theorem pk_sets {ep hd k h e : Int} {ua : Option Addr} {pn uc : Nat} {tx : ByteArray} {w w' : World} (hS : (fun w' => w'.cell? ⟨w.heap.size, 0, none⟩ = some (.int .i64 ep) ∧ w'.cell? ⟨w.heap.size, 4, none⟩ = some (.int .i64 hd) ∧ w'.cell? ⟨w.heap.size + 1, 0, none⟩ = some (.int .i64 k) ∧ w'.cell? ⟨w.heap.size + 1, 1, none⟩ = some (.int .i64 h) ∧ w'.cell? ⟨w.heap.size + 1, 2, none⟩ = some (.int .i64 e) ∧ w'.cell? ⟨w.heap.size + 1, 3, none⟩ = some (.slice ua pn uc) ∧ w'.cell? ⟨w.heap.size + 1, 4, none⟩ = some (.string tx)) w') (x0 x1 x2 x3 x4 x5 x6 x7 x8 : Value) : (fun w' => w'.cell? ⟨w.heap.size, 0, none⟩ = some (.int .i64 ep) ∧ w'.cell? ⟨w.heap.size, 4, none⟩ = some (.int .i64 hd) ∧ w'.cell? ⟨w.heap.size + 1, 0, none⟩ = some (.int .i64 k) ∧ w'.cell? ⟨w.heap.size + 1, 1, none⟩ = some (.int .i64 h) ∧ w'.cell? ⟨w.heap.size + 1, 2, none⟩ = some (.int .i64 e) ∧ w'.cell? ⟨w.heap.size + 1, 3, none⟩ = some (.slice ua pn uc) ∧ w'.cell? ⟨w.heap.size + 1, 4, none⟩ = some (.string tx)) (((((((((w'.setCell ⟨w.heap.size + 1 + 1, 0, none⟩ x0).setCell ⟨w.heap.size + 1 + 1, 1, none⟩ x1).setCell ⟨w.heap.size + 1 + 1, 2, none⟩ x2).setCell ⟨w.heap.size + 1 + 1, 3, none⟩ x3).setCell ⟨w.heap.size + 1 + 1, 4, none⟩ x4).setCell ⟨w.heap.size + 1 + 1, 5, none⟩ x5).setCell ⟨w.heap.size + 1 + 1, 6, none⟩ x6).setCell ⟨w.heap.size + 1 + 1, 7, none⟩ x7).setCell ⟨w.heap.size + 1 + 1, 8, none⟩ x8) := by
  have hn : w.heap.size ≠ w.heap.size + 1 + 1 := by omega
  have hm : w.heap.size + 1 ≠ w.heap.size + 1 + 1 := by omega
  refine pk_keep hS ?_ ?_
  · rw [Below.heap_setCell _ _ _ _ hn, Below.heap_setCell _ _ _ _ hn, Below.heap_setCell _ _ _ _ hn, Below.heap_setCell _ _ _ _ hn, Below.heap_setCell _ _ _ _ hn, Below.heap_setCell _ _ _ _ hn, Below.heap_setCell _ _ _ _ hn, Below.heap_setCell _ _ _ _ hn, Below.heap_setCell _ _ _ _ hn]
  · rw [Below.heap_setCell _ _ _ _ hm, Below.heap_setCell _ _ _ _ hm, Below.heap_setCell _ _ _ _ hm, Below.heap_setCell _ _ _ _ hm, Below.heap_setCell _ _ _ _ hm, Below.heap_setCell _ _ _ _ hm, Below.heap_setCell _ _ _ _ hm, Below.heap_setCell _ _ _ _ hm, Below.heap_setCell _ _ _ _ hm]
set_option maxRecDepth 100000 in
set_option maxHeartbeats 2000000 in
theorem packetOf_any (ep nx hd num : Int) (sa qa : Option Addr) (sn sc qn qc : Nat) (f : FrI) (v : Value) (w : World) (ho : OpVal w v f.op) (hs : f.op.length ≤ 1048577) :
    Calls Tryd.prog 29 #[.agg #[.int .i64 ep, .int .i64 nx, .slice sa sn sc, .slice qa qn qc, .int .i64 hd], .int .i64 num, .agg #[.int .i64 f.kind, .int .i64 f.heard, .int .i64 f.epoch, v, .string f.text]] w fun r w' => ∃ u, r = .returned (.agg #[.int .i64 ep, .int .i64 num, .bool false, .int .i64 hd, .int .i64 f.kind, .int .i64 f.heard, .int .i64 f.epoch, u, .string f.text]) ∧ w'.ownsRow w.heap.size 63 3 u f.op.length (partCells f.op) ∧ Below w.heap.size w w' := by
  obtain ⟨k, h, e, ps, tx⟩ := f
  simp only at ho hs ⊢
  obtain ⟨ua, uc, rfl, _⟩ := ho.form
  obtain ⟨hl, hf, hr, HB0, hz⟩ := three_blocks w (.cells #[.int .i64 ep, .int .i64 nx, .slice sa sn sc, .slice qa qn qc, .int .i64 hd] 24) (.cells #[.int .i64 k, .int .i64 h, .int .i64 e, .slice ua ps.length uc, .string tx] 28) (.cells #[.int .i64 0, .int .i64 0, .bool false, .int .i64 0, .int .i64 0, .int .i64 0, .int .i64 0, .slice none 0 0, .string ⟨#[]⟩] 30)
  have cC := fun (wx : World) (hx : Below (((w.alloc (.cells #[.int .i64 ep, .int .i64 nx, .slice sa sn sc, .slice qa qn qc, .int .i64 hd] 24)).alloc (.cells #[.int .i64 k, .int .i64 h, .int .i64 e, .slice ua ps.length uc, .string tx] 28)).alloc (.cells #[.int .i64 0, .int .i64 0, .bool false, .int .i64 0, .int .i64 0, .int .i64 0, .int .i64 0, .slice none 0 0, .string ⟨#[]⟩] 30)).heap.size (((w.alloc (.cells #[.int .i64 ep, .int .i64 nx, .slice sa sn sc, .slice qa qn qc, .int .i64 hd] 24)).alloc (.cells #[.int .i64 k, .int .i64 h, .int .i64 e, .slice ua ps.length uc, .string tx] 28)).alloc (.cells #[.int .i64 0, .int .i64 0, .bool false, .int .i64 0, .int .i64 0, .int .i64 0, .int .i64 0, .slice none 0 0, .string ⟨#[]⟩] 30)) wx) => copyOf_any ⟨k, h, e, ps, tx⟩ (.slice ua ps.length uc) wx ((ho.below HB0).below hx) hs
  obtain ⟨l0, ll0, _⟩ := blk hl
  obtain ⟨f0, fl0, _⟩ := blk hf
  go_enter Tryd.func29, Tryd.ntmps29
  go_wp2_with fail
  generalize (((w.alloc (.cells #[.int .i64 ep, .int .i64 nx, .slice sa sn sc, .slice qa qn qc, .int .i64 hd] 24)).alloc (.cells #[.int .i64 k, .int .i64 h, .int .i64 e, .slice ua ps.length uc, .string tx] 28)).alloc (.cells #[.int .i64 0, .int .i64 0, .bool false, .int .i64 0, .int .i64 0, .int .i64 0, .int .i64 0, .slice none 0 0, .string ⟨#[]⟩] 30)) = w0 at *
  have hdd : Below w0.heap.size w0 w0.drew := ⟨rfl, rfl, rfl, Nat.le_refl _, fun _ _ => rfl⟩
  generalize hpl : ps.length = pn at *
  have HPN : Hid (ps.length = pn) := hpl
  clear hpl
  have hrd : w0.drew.heap[w.heap.size + 1 + 1]? = some (Obj.cells #[.int .i64 0, .int .i64 0, .bool false, .int .i64 0, .int .i64 0, .int .i64 0, .int .i64 0, .slice none 0 0, .string ⟨#[]⟩] 30 (0, 0)) := hr
  have hS0 : (fun w' => w'.cell? ⟨w.heap.size, 0, none⟩ = some (.int .i64 ep) ∧ w'.cell? ⟨w.heap.size, 4, none⟩ = some (.int .i64 hd) ∧ w'.cell? ⟨w.heap.size + 1, 0, none⟩ = some (.int .i64 k) ∧ w'.cell? ⟨w.heap.size + 1, 1, none⟩ = some (.int .i64 h) ∧ w'.cell? ⟨w.heap.size + 1, 2, none⟩ = some (.int .i64 e) ∧ w'.cell? ⟨w.heap.size + 1, 3, none⟩ = some (.slice ua pn uc) ∧ w'.cell? ⟨w.heap.size + 1, 4, none⟩ = some (.string tx)) w0.drew := ⟨l0 0, l0 4, f0 0, f0 1, f0 2, f0 3, f0 4⟩
  have hz1 : w.heap.size + 1 < w0.drew.heap.size := by show w.heap.size + 1 < w0.heap.size; omega
  clear l0 ll0 f0 fl0
  go_region_held3 (fun w' => w'.cell? ⟨w.heap.size, 0, none⟩ = some (.int .i64 ep) ∧ w'.cell? ⟨w.heap.size, 4, none⟩ = some (.int .i64 hd) ∧ w'.cell? ⟨w.heap.size + 1, 0, none⟩ = some (.int .i64 k) ∧ w'.cell? ⟨w.heap.size + 1, 1, none⟩ = some (.int .i64 h) ∧ w'.cell? ⟨w.heap.size + 1, 2, none⟩ = some (.int .i64 e) ∧ w'.cell? ⟨w.heap.size + 1, 3, none⟩ = some (.slice ua pn uc) ∧ w'.cell? ⟨w.heap.size + 1, 4, none⟩ = some (.string tx)) (with_reducible first | exact hS0 | assumption | exact pk_below hS0 hbz hz1 | exact pk_sets (by assumption) _ _ _ _ _ _ _ _ _) (first | (go_at_call 13; with_reducible refine Calls.mono (cC _ hdd) ?_; rintro ed wz ⟨u, rfl, hou, hbz⟩; have hrz := (hbz.block _ (Array.getElem?_eq_some_iff.1 hrd).1).trans hrd; have hbky := blk hrz; obtain ⟨rz, rlz, rfz⟩ := hbky; have hof := own_form hou; obtain ⟨xa, xc, rfl⟩ := hof))
  all_goals
    have HBz := below_two HB0 (below_two hdd hbz (Nat.le_refl _)) (Nat.le_refl _)
    have hrz := (hbz.block _ (Array.getElem?_eq_some_iff.1 hrd).1).trans hrd
    obtain ⟨hfin, hch⟩ := puts_all hrz [.int .i64 ep, .int .i64 num, .bool false, .int .i64 hd, .int .i64 k, .int .i64 h, .int .i64 e, .slice xa pn xc, .string tx] rfl
    simp only [puts, Nat.zero_add, Nat.reduceAdd] at hfin hch
    have HB2 := HBz.trans (hch.below (B := w.heap.size) (fun i e => by omega) HBz.size)
    have hown := own_base (own_chg hou hch (fun k hk e => row_ne hou hrz (by decide) (by rw [← e]; exact hk.symm))) (show w.heap.size ≤ w0.drew.heap.size by show w.heap.size ≤ w0.heap.size; omega)
    go_wp2_with fail
    generalize (((((((((wz.setCell ⟨w.heap.size + 1 + 1, 0, none⟩ (.int .i64 ep)).setCell ⟨w.heap.size + 1 + 1, 1, none⟩ (.int .i64 num)).setCell ⟨w.heap.size + 1 + 1, 2, none⟩ (.bool false)).setCell ⟨w.heap.size + 1 + 1, 3, none⟩ (.int .i64 hd)).setCell ⟨w.heap.size + 1 + 1, 4, none⟩ (.int .i64 k)).setCell ⟨w.heap.size + 1 + 1, 5, none⟩ (.int .i64 h)).setCell ⟨w.heap.size + 1 + 1, 6, none⟩ (.int .i64 e)).setCell ⟨w.heap.size + 1 + 1, 7, none⟩ (.slice xa pn xc)).setCell ⟨w.heap.size + 1 + 1, 8, none⟩ (.string tx)) = w9 at *
    obtain ⟨t9, _, _⟩ := blk hfin
    exact bodyPost_ret (v := .agg #[.int .i64 ep, .int .i64 num, .bool false, .int .i64 hd, .int .i64 k, .int .i64 h, .int .i64 e, .slice xa pn xc, .string tx]) (by simp [results, Tryd.results29, go_sem, t9]) rfl ⟨.slice xa pn xc, rfl, by rw [HPN.out]; exact hown, HB2⟩

set_option maxRecDepth 100000 in
set_option maxHeartbeats 1000000 in
theorem bare_any (ep nx hd : Int) (sa qa : Option Addr) (sn sc qn qc : Nat) (w : World) :
    Calls Tryd.prog 15 #[.agg #[.int .i64 ep, .int .i64 nx, .slice sa sn sc, .slice qa qn qc, .int .i64 hd]] w fun r w' => r = .returned (.agg #[.int .i64 ep, .int .i64 0, .bool true, .int .i64 hd, .int .i64 0, .int .i64 0, .int .i64 0, .slice none 0 0, .string ByteArray.empty]) ∧ Below w.heap.size w w' := by
  obtain ⟨hl, hr, HB0, hz⟩ := two_blocks w (.cells #[.int .i64 ep, .int .i64 nx, .slice sa sn sc, .slice qa qn qc, .int .i64 hd] 24) (.cells #[.int .i64 0, .int .i64 0, .bool false, .int .i64 0, .int .i64 0, .int .i64 0, .int .i64 0, .slice none 0 0, .string ⟨#[]⟩] 30)
  obtain ⟨l0, ll0, _⟩ := blk hl
  have HB2 := (two_blocks w (.cells #[.int .i64 ep, .int .i64 nx, .slice sa sn sc, .slice qa qn qc, .int .i64 hd] 24) (.cells #[.int .i64 ep, .int .i64 0, .bool true, .int .i64 hd, .int .i64 0, .int .i64 0, .int .i64 0, .slice none 0 0, .string ⟨#[]⟩] 30)).2.2.1
  clear hr HB0 hz
  go_enter Tryd.func15, Tryd.ntmps15
  go_wp2_with fail
  exact bodyPost_ret (v := .agg #[.int .i64 ep, .int .i64 0, .bool true, .int .i64 hd, .int .i64 0, .int .i64 0, .int .i64 0, .slice none 0 0, .string ⟨#[]⟩]) (by simp [results, Tryd.results15, go_sem]) rfl ⟨rfl, HB2⟩

theorem frS_drop (K : List FrK) (k : Nat) : frS.all (K.drop k) = (frS.all K).drop (k * 5) := by
  induction k generalizing K with
  | zero => simp
  | succ k ih =>
    cases K with
    | nil => simp [Shape.all]
    | cons x K =>
      rw [List.drop_succ_cons, ih K]
      have e : frS.all (x :: K) = frS.cells x ++ frS.all K := by simp [Shape.all]
      rw [e, show (k + 1) * 5 = (frS.cells x).length + k * 5 by rw [frS.len]; show _ = 5 + k * 5; omega, List.drop_append, (List.drop_of_length_le (by omega) : (frS.cells x).drop ((frS.cells x).length + k * 5) = []), List.nil_append, Nat.add_sub_cancel_left]
/-- such a slice, in blocks of its types -/
structure InT {α : Type} (S : Shape α) (w : World) (B : Nat) (v : Value) (K : List α) : Prop where
  row : SlT w B S.T v K.length (S.all K)
  each : ∀ x ∈ K, SlT w B 63 (S.opv x) (S.ops x).length (partCells (S.ops x))
theorem InT.inK {α : Type} {S : Shape α} {w : World} {B : Nat} {v : Value} {K : List α} (h : InT S w B v K) : InK S w B v K := ⟨h.row.slIn, fun x hx => (h.each x hx).slIn⟩
theorem RowK.inT {α : Type} {S : Shape α} {w : World} {B : Nat} {v : Value} {K : List α} (h : RowK S w B v K) : InT S w B v K :=
  ⟨SlT.own h.row fun h0 => by rw [List.length_eq_zero_iff.1 h0]; rfl, fun x hx => SlT.own (h.each x hx) fun h0 => by rw [List.length_eq_zero_iff.1 h0]; rfl⟩
theorem inT_nil {α : Type} (S : Shape α) (w : World) (B : Nat) : InT S w B (.slice none 0 0) [] := (rowK_nil S w B).inT
theorem SlT.base {w : World} {B B' : Nat} {T : TypeId} {v : Value} {n : Nat} {xs : List Value} (h : SlT w B T v n xs) (hB : B' ≤ B) : SlT w B' T v n xs := by
  obtain ⟨a, c, e, hn, hz, hc⟩ := h
  refine ⟨a, c, e, hn, hz, ?_⟩
  rcases hc with h0 | ⟨b, off, cs, ea, hb, r⟩
  · exact .inl h0
  · exact .inr ⟨b, off, cs, ea, Nat.le_trans hB hb, r⟩
theorem InT.base {α : Type} {S : Shape α} {w : World} {B B' : Nat} {v : Value} {K : List α} (h : InT S w B v K) (hB : B' ≤ B) : InT S w B' v K := ⟨h.row.base hB, fun x hx => (h.each x hx).base hB⟩
theorem InT.below {α : Type} {S : Shape α} {w w' : World} {B : Nat} {v : Value} {K : List α} (h : InT S w B v K) (hb : Below w.heap.size w w') : InT S w' B v K := ⟨h.row.below hb, fun x hx => (h.each x hx).below hb⟩
/-- what lies ahead of it was changed -/
theorem InT.ahead {α : Type} {S : Shape α} {w w' : World} {B : Nat} {v : Value} {K : List α} {F : Nat → Prop} (h : InT S w B v K) (hc : Chg F w w') (hF : ∀ k, F k → k < B) : InT S w' B v K :=
  ⟨h.row.chg hc (fun k hf hB _ _ => by have := hF k hf; omega), fun x hx => (h.each x hx).chg hc (fun k hf hB _ _ => by have := hF k hf; omega)⟩
/-- a store into a block of another type -/
theorem InT.stored {α : Type} {S : Shape α} {w w' : World} {B : Nat} {v : Value} {K : List α} {b : Nat} {cs : Array Value} {T : TypeId} (h : InT S w B v K) (hb : w.heap[b]? = some (.cells cs T (0, 0))) (h1 : T ≠ S.T) (h2 : T ≠ 63) (hc : Chg (fun k => k = b) w w') : InT S w' B v K :=
  ⟨h.row.chg hc (fun k hf _ cs' e => by subst hf; rw [hb] at e; cases e; exact h1 rfl), fun x hx => (h.each x hx).chg hc (fun k hf _ cs' e => by subst hf; rw [hb] at e; cases e; exact h2 rfl)⟩
/-- 's[k:]' of frames -/
theorem cut_inT {w : World} {B : Nat} {a : Option Addr} {c : Nat} {K : List FrK} (h : InT frS w B (.slice a K.length c) K) (k : Nat) (hk : k ≤ K.length) (z : Int) (hz : z = (k : Int)) :
    ∃ la lc, (∀ wx : World, (Instr.slice 22 (.slice a K.length c) (some (.int .i64 z)) none none).run Tryd.prog wx = .ok (.slice la (K.drop k).length lc) wx) ∧ InT frS w B (.slice la (K.drop k).length lc) (K.drop k) := by
  subst hz
  obtain ⟨a', c', ea, hn, hz, hc⟩ := h.row
  simp only [Value.slice.injEq, true_and] at ea
  obtain ⟨rfl, rfl⟩ := ea
  refine ⟨if c = k then a else a.map (·.add (k * 5)), c - k, fun wx => ?_, ⟨⟨_, _, rfl, by rw [List.length_drop]; omega, ?_, ?_⟩, fun x hx => h.each x (List.mem_of_mem_drop hx)⟩⟩
  · have e : Tryd.prog.underlying 22 = some (.slice (Tryd.prog.elem 22)) := by kernel_rfl
    rw [run_slice_l wx 22 a K.length c e .i64 (k : Int) (by omega) (by omega)]
    have hs : (sizeOf (Tryd.prog.elem 22)).run Tryd.prog wx = .ok 5 wx := by kernel_rfl
    rw [hs]
    simp [Result.andThen, sliced]
  · intro hh
    by_cases h1 : c = k
    · omega
    · rw [if_neg h1] at hh
      have : a = none := by cases a with
        | none => rfl
        | some _ => simp at hh
      have := hz this
      omega
  · rcases hc with h1 | ⟨b, off, cs, rfl, hB, hl, hc⟩
    · left
      rw [frS_drop, h1, List.drop_nil]
    · by_cases h1 : c = k
      · left
        rw [frS_drop]
        refine List.drop_of_length_le ?_
        rw [frS.all_length]
        show K.length * 5 ≤ _
        omega
      · rw [if_neg h1]
        refine .inr ⟨b, off + k * 5, cs, by simp [Addr.add], hB, hl, fun j u hj => ?_⟩
        rw [frS_drop, List.getElem?_drop] at hj
        rw [Nat.add_assoc]
        exact hc _ _ hj
/-- 's[k:]' of frames -/
theorem cut_inK {w : World} {B : Nat} {a : Option Addr} {c : Nat} {K : List FrK} (h : InK frS w B (.slice a K.length c) K) (k : Nat) (hk : k ≤ K.length) (z : Int) (hz : z = (k : Int)) :
    ∃ la lc, (∀ wx : World, (Instr.slice 22 (.slice a K.length c) (some (.int .i64 z)) none none).run Tryd.prog wx = .ok (.slice la (K.drop k).length lc) wx) ∧ InK frS w B (.slice la (K.drop k).length lc) (K.drop k) := by
  subst hz
  obtain ⟨a', c', ea, hn, hz, hc⟩ := h.row
  simp only [Value.slice.injEq, true_and] at ea
  obtain ⟨rfl, rfl⟩ := ea
  refine ⟨if c = k then a else a.map (·.add (k * 5)), c - k, fun wx => ?_, ⟨⟨_, _, rfl, by rw [List.length_drop]; omega, ?_, ?_⟩, fun x hx => h.each x (List.mem_of_mem_drop hx)⟩⟩
  · have e : Tryd.prog.underlying 22 = some (.slice (Tryd.prog.elem 22)) := by kernel_rfl
    rw [run_slice_l wx 22 a K.length c e .i64 (k : Int) (by omega) (by omega)]
    have hs : (sizeOf (Tryd.prog.elem 22)).run Tryd.prog wx = .ok 5 wx := by kernel_rfl
    rw [hs]
    simp [Result.andThen, sliced]
  · intro hh
    by_cases h1 : c = k
    · omega
    · rw [if_neg h1] at hh
      have : a = none := by cases a with
        | none => rfl
        | some _ => simp at hh
      have := hz this
      omega
  · rcases hc with h1 | ⟨b, off, rfl, hB, hl, hc⟩
    · left
      rw [frS_drop, h1, List.drop_nil]
    · by_cases h1 : c = k
      · left
        rw [frS_drop]
        refine List.drop_of_length_le ?_
        rw [frS.all_length]
        show K.length * 5 ≤ _
        omega
      · rw [if_neg h1]
        refine .inr ⟨b, off + k * 5, by simp [Addr.add], hB, hl, fun j u hj => ?_⟩
        rw [frS_drop, List.getElem?_drop] at hj
        rw [Nat.add_assoc]
        exact hc _ _ hj

/-- what goes on, of one's own -/
structure GoOk (w : World) (B N : Nat) (sv qv pv : Value) (R : LinkI × List PkI) : Prop where
  ex : ∃ (S Q : List FrK) (P : List PkK), InT frS w B sv S ∧ S.map (·.1) = R.1.sent ∧ InT frS w B qv Q ∧ Q.map (·.1) = R.1.queue ∧ RowK pkS w N pv P ∧ P.map (·.1) = R.2
/-- blocks of other types than frames stay -/
def KeptF (w w' : World) : Prop := ∀ (k : Nat) (cs : Array Value) (T : TypeId), T ≠ 28 → w.heap[k]? = some (.cells cs T (0, 0)) → w'.heap[k]? = some (.cells cs T (0, 0))
theorem KeptF.trans {a b c : World} (h : KeptF a b) (k : KeptF b c) : KeptF a c := fun i cs T h1 e => k i cs T h1 (h i cs T h1 e)
theorem KeptF.of_below {w w' : World} (hb : Below w.heap.size w w') : KeptF w w' := fun k _ _ _ e => (hb.block k (Array.getElem?_eq_some_iff.1 e).1).trans e

set_option maxRecDepth 100000 in
set_option maxHeartbeats 4000000 in
theorem goOn_any (ep nx hd : Int) (sv qv : Value) (S0 Q0 : List FrI) (B : Nat) (w : World) (hR : LinkRows w B sv qv S0 Q0) (fQ : ∀ f ∈ Q0, f.op.length ≤ 1048577) (lS : S0.length ≤ 8) (lQ : Q0.length ≤ 1048577) (hn : 0 ≤ nx ∧ nx ≤ 1048576) (hB : B ≤ w.heap.size) :
    Calls Tryd.prog 14 #[.agg #[.int .i64 ep, .int .i64 nx, sv, qv, .int .i64 hd]] w fun r w' => ∃ sv' qv' pv, r = .returned (.tuple #[.agg #[.int .i64 ep, .int .i64 (nx + (goK S0.length Q0.length nx : Nat)), sv', qv', .int .i64 hd], pv]) ∧ GoOk w' B w.heap.size sv' qv' pv (LinkI.go ⟨ep, nx, S0, Q0, hd⟩) ∧ Below B w w' ∧ KeptF w w' := by
  obtain ⟨S, Q, m, hS, eS, hlow, hQ, eQ, hm, _⟩ := hR.ex
  obtain ⟨sa, sc, rfl⟩ := own_form hS.row
  obtain ⟨qa, qc, rfl⟩ := own_form hQ.row
  obtain ⟨i0, hi0, hzz0, hzz1, hzz2⟩ := info_parts info_fr
  obtain ⟨p0, hp0, hpz0, hpz1, hpz2⟩ := info_parts info_pk
  have hlS : S0.length = S.length := by rw [← eS, List.length_map]
  have hlQ : Q0.length = Q.length := by rw [← eQ, List.length_map]
  obtain ⟨kk, hkk⟩ : ∃ kk, kk = goK S0.length Q0.length nx := ⟨_, rfl⟩
  have hkQ : kk ≤ Q.length := by rw [hkk]; unfold goK; omega
  have hcond : ∀ j, j ≤ kk → (j < kk ↔ (j < Q.length ∧ S.length + j < 8 ∧ nx + (j : Int) < 1048576)) := fun j hj => by rw [hkk] at hj ⊢; unfold goK at hj ⊢; omega
  have fQ' : ∀ x ∈ Q, x.1.op.length ≤ 1048577 := fun x hx => fQ _ (by rw [← eQ]; exact List.mem_map_of_mem hx)
  have HGO : Hid (LinkI.go ⟨ep, nx, S0, Q0, hd⟩ = (⟨ep, nx + (kk : Nat), (S ++ Q.take kk).map (·.1), (Q.drop kk).map (·.1), hd⟩, packs ep hd nx ((Q.take kk).map (·.1)))) := by
    show _ = _
    unfold LinkI.go
    simp only
    rw [← hkk, ← eS, ← eQ, List.map_append, List.map_take, List.map_drop]
  rw [← hkk]
  rw [hlQ] at lQ
  clear hkk fQ eS eQ hR
  rw [hlS] at lS
  clear hlS hlQ
  obtain ⟨G, hG⟩ : ∃ G, G = LinkI.go ⟨ep, nx, S0, Q0, hd⟩ := ⟨_, rfl⟩
  rw [← hG] at HGO ⊢
  clear hG
  have hQin := hQ.inT
  obtain ⟨hpar, hres, HB0, hz⟩ := two_blocks w (.cells #[.int .i64 ep, .int .i64 nx, .slice sa S.length sc, .slice qa Q.length qc, .int .i64 hd] 24) (.cells #[.int .i64 0, .int .i64 0, .slice none 0 0, .slice none 0 0, .int .i64 0] 24)
  have hK0 := hS.below HB0
  clear hz
  obtain ⟨l0, ll0, lf0⟩ := blk hpar
  go_enter Tryd.func14, Tryd.ntmps14
  go_wp2_with fail
  generalize ((w.alloc (.cells #[.int .i64 ep, .int .i64 nx, .slice sa S.length sc, .slice qa Q.length qc, .int .i64 hd] 24)).alloc (.cells #[.int .i64 0, .int .i64 0, .slice none 0 0, .slice none 0 0, .int .i64 0] 24)) = w0 at *
  have hw0 : Chg (fun k => B ≤ k ∧ k < m) w w0 := Chg.of_below HB0
  go_loopg [4] kk (fun g pv wr => ∃ (j : Nat) (N : Int) (K D : List FrK) (P : List PkK) (ka qb : Option Addr) (kc qd : Nat), j + g = kk ∧ Hid (N = nx + (j : Int)) ∧ Hid (D = Q.drop j) ∧ wr.heap[w.heap.size]? = some (.cells #[.int .i64 ep, .int .i64 N, .slice ka K.length kc, .slice qb D.length qd, .int .i64 hd] 24 (0, 0)) ∧ wr.heap[w.heap.size + 1]? = some (Obj.cells #[.int .i64 0, .int .i64 0, .slice none 0 0, .slice none 0 0, .int .i64 0] 24 (0, 0)) ∧ RowK frS wr B (.slice ka K.length kc) K ∧ Hid (K = S ++ Q.take j) ∧ Hid (∀ k, (Value.slice ka K.length kc).ownBlock = some k → k < m ∨ w.heap.size ≤ k) ∧ InT frS w m (.slice qb D.length qd) D ∧ RowK pkS wr w.heap.size pv P ∧ Hid (P.map (·.1) = packs ep hd nx ((Q.take j).map (·.1))) ∧ Chg (fun k => B ≤ k ∧ k < m) w wr ∧ KeptF w wr)
  case atStart => exact ⟨0, nx, S, Q, [], sa, qa, sc, qc, by omega, by show _ = _; simp, by show _ = _; simp, hpar, hres, hK0, by show _ = _; simp, fun k e => .inl (hlow k e), hQin, rowK_nil _ _ _, by show _ = _; simp [packs], hw0, KeptF.of_below HB0⟩
  case round =>
    clear hpar hres hK0 l0 ll0 lf0 hw0 HB0
    obtain ⟨j, N, K, D, P, ka, qb, kc, qd, hj, HN, HD, hl, hres, hK, HK, hsep, hQj, hP, HP, hch, hkf⟩ := hrel
    have HC : Hid (j < kk ↔ (j < Q.length ∧ S.length + j < 8 ∧ nx + (j : Int) < 1048576)) := hcond j (by omega)
    have hKl : K.length ≤ S.length + j ∧ S.length + j ≤ K.length := by rw [HK.out, List.length_append, List.length_take]; omega
    have hDl : D.length + j ≤ Q.length ∧ Q.length ≤ D.length + j := by rw [HD.out, List.length_drop]; omega
    have hPl : P.length ≤ j ∧ j ≤ P.length := by have := congrArg List.length HP.out; rw [List.length_map, packs_length, List.length_map, List.length_take] at this; omega
    have hNb : 0 ≤ N ∧ N ≤ nx + (j : Int) ∧ nx + (j : Int) ≤ N := by rw [HN.out]; omega
    obtain ⟨pa, pc, rfl⟩ := own_form hP.row
    clear hcond
    by_cases hjlt : j < kk
    · obtain ⟨h1, h2, h3⟩ := HC.out.1 hjlt
      have hQr := (hQj.ahead hch (fun k h => h.2)).inK
      have hd0 : 0 < D.length := by omega
      obtain ⟨b, off, c', ea, hbl, _, c0, c1, c2, c3, c4⟩ := fr_get hQr hd0
      simp only [Value.slice.injEq, true_and] at ea
      obtain ⟨rfl, rfl⟩ := ea
      have hmem : D[0] ∈ Q := (fun y (hy : y ∈ D) => by rw [HD.out] at hy; exact List.mem_of_mem_drop hy : ∀ y ∈ D, y ∈ Q) _ (List.getElem_mem hd0)
      have hown0 : w.ownsRow m 63 3 D[0].2 D[0].1.op.length (partCells D[0].1.op) := hQ.each _ hmem
      have hs := fQ' _ hmem
      have HT : Hid (Q.take (j + 1) = Q.take j ++ [D[0]]) := by
        show _ = _
        rw [List.take_succ_eq_append_getElem h1]
        congr 2
        have : D[0]? = some Q[j] := by rw [HD.out, List.getElem?_drop]; exact List.getElem?_eq_getElem h1
        rw [List.getElem?_eq_getElem hd0] at this
        exact (Option.some.inj this).symm
      simp only [Nat.zero_mul, Nat.add_zero] at c0 c1 c2 c3 c4
      have hownr := own_chg hown0 hch (fun k hk e => by have := (hown0.lt k hk).1; omega)
      obtain ⟨la, lc, hcut, hQn⟩ := cut_inT hQj 1 hd0 1 rfl
      have HD2 : Hid (D.drop 1 = Q.drop (j + 1)) := by show _ = _; rw [HD.out, List.drop_drop]
      have hDp : (D.drop 1).length ≤ 1048577 := by rw [List.length_drop]; omega
      generalize D.drop 1 = D2 at *
      generalize D[0] = x at *
      obtain ⟨f, u⟩ := x
      simp only at c0 c1 c2 c3 c4 hownr hs HT
      obtain ⟨ua, uc, rfl⟩ := own_form hownr
      -- the frame's own variable
      have hbA := (Below.refl wr.heap.size wr).alloc (Nat.le_refl _) (.cells #[.int .i64 f.kind, .int .i64 f.heard, .int .i64 f.epoch, .slice ua f.op.length uc, .string f.text] 28)
      have hf1 := heap_alloc_new wr (.cells #[.int .i64 f.kind, .int .i64 f.heard, .int .i64 f.epoch, .slice ua f.op.length uc, .string f.text] 28)
      have hl1 := row_old hl (.cells #[.int .i64 f.kind, .int .i64 f.heard, .int .i64 f.epoch, .slice ua f.op.length uc, .string f.text] 28)
      have hr1 := row_old hres (.cells #[.int .i64 f.kind, .int .i64 f.heard, .int .i64 f.epoch, .slice ua f.op.length uc, .string f.text] 28)
      have hK1 := hK.below hbA
      have hP1 := hP.below hbA
      have ho1 := own_below hownr hbA
      have cPk := packetOf_any ep N hd N ka (some ⟨b, off, none⟩) K.length kc D.length qd f (.slice ua f.op.length uc) (wr.alloc (.cells #[.int .i64 f.kind, .int .i64 f.heard, .int .i64 f.epoch, .slice ua f.op.length uc, .string f.text] 28)) (opVal_own ho1) hs
      have HQ8 : Hid (K.length ≤ 7 ∧ P.length ≤ 1048577 ∧ j < kk ∧ N < 1048576 ∧ w.heap.size ≤ wr.heap.size) := ⟨by omega, by omega, hjlt, by omega, hch.size⟩
      have hq0 : (0 : Int) < (D.length : Int) := by omega
      have hs8 : (K.length : Int) < 8 := by omega
      have hnn : N < 1048576 := by omega
      have hn0 := hNb.1
      obtain ⟨l0, ll0, lf0⟩ := blk hl
      obtain ⟨l1, ll1, lf1⟩ := blk hl1
      obtain ⟨f1, fl1, _⟩ := blk hf1
      clear hK hP hownr hown0 hQr hQj HC hjlt h1 h2 h3 hKl hDl hd0 hkQ lS lQ hQ hQin hS hlow fQ' hs hPl hNb hmem hn hDp
      go_wp2_with fail
      refine cPk.mono ?_
      clear l0 ll0 lf0 l1 ll1 lf1 f1 c0 c1 c2 c3 c4 cPk hl hres
      have hzA : wr.heap.size + 1 ≤ (wr.alloc (.cells #[.int .i64 f.kind, .int .i64 f.heard, .int .i64 f.epoch, .slice ua f.op.length uc, .string f.text] 28)).heap.size := by simp
      generalize (wr.alloc (.cells #[.int .i64 f.kind, .int .i64 f.heard, .int .i64 f.epoch, .slice ua f.op.length uc, .string f.text] 28)) = w1 at *
      rintro r w2 ⟨xu, rfl, hox, hb2⟩
      obtain ⟨xa, xc, rfl⟩ := own_form hox
      have hl2 := (hb2.block _ (Array.getElem?_eq_some_iff.1 hl1).1).trans hl1
      have hr2 := (hb2.block _ (Array.getElem?_eq_some_iff.1 hr1).1).trans hr1
      have hf2 := (hb2.block _ fl1).trans hf1
      have hK2 := hK1.below hb2
      have hP2 := hP1.below hb2
      have ho2 := own_below ho1 hb2
      have hz2 := hb2.size
      have hzr : w.heap.size ≤ wr.heap.size := hch.size
      have hox2 := own_base hox (show w.heap.size ≤ w1.heap.size by omega)
      have hchA : Chg (fun k => B ≤ k ∧ k < m) w w2 := hch.trans (Chg.of_below (F := fun _ => False) (below_two hbA hb2 (Nat.le_refl _))) (fun _ _ h => h.elim)
      have hkA : KeptF wr w2 := KeptF.of_below (below_two hbA hb2 (Nat.le_refl _))
      have hrowP : w2.ownsRow w.heap.size 30 9 (.slice pa P.length pc) P.length (pkS.all P) := hP2.row
      clear hl1 hr1 hf1 fl1 hK1 hP1 ho1 hox hbA hb2
      go_wp2_with (first | (at_builtin; refine wpList_append_lies _ rfl _ _ 32 rfl w.heap.size 30 p0 (.agg #[.int .i64 0, .int .i64 0, .bool false, .int .i64 0, .int .i64 0, .int .i64 0, .int .i64 0, .slice none 0 0, .string .empty]) 9 96 Tryd.underlying32 hp0 hpz0 hpz1 hpz2 rfl (by decide) _ _ _ rfl (hrowP.alloc _) ⟨w2.heap.size, 0, none⟩ 1 1 [.int .i64 ep, .int .i64 N, .bool false, .int .i64 hd, .int .i64 f.kind, .int .i64 f.heard, .int .i64 f.epoch, .slice xa f.op.length xc, .string f.text] rfl rfl (World.news_of_block (cs := #[.int .i64 ep, .int .i64 N, .bool false, .int .i64 hd, .int .i64 f.kind, .int .i64 f.heard, .int .i64 f.epoch, .slice xa f.op.length xc, .string f.text]) (t := 30) (fr := (0, 0)) (heap_alloc_new w2 _)) (by simp [Value.oneCell']) (by decide) (by have := HQ8.out; unfold maxLen; omega) (by have := HQ8.out; omega) (by simp; omega) _ rfl ?_; intro g1 cap1 w3 hown3 hgr3 hat3 hlt3; have hP3 := RowK.app (x := ((⟨ep, N, false, hd, f⟩, Value.slice xa f.op.length xc) : PkK)) hP2 hox2 hown3 hgr3; have hch3 : Chg (fun k => (Value.slice pa P.length pc).ownBlock = some k) w2 w3 := ((Chg.refl _ w2).alloc _).grown hgr3 (fun k _ e => e); have hl3 := row_kept (hrowP.alloc _) (row_old hl2 _) (by decide) hgr3; have hf3 := row_kept (hrowP.alloc _) (row_old hf2 _) (by decide) hgr3; have hr3 := row_kept (hrowP.alloc _) (row_old hr2 _) (by decide) hgr3; have hK3 := hK2.other hrowP hgr3 (by decide) (own_ne (own_base hK2.row (Nat.zero_le _)) (own_base hrowP (Nat.zero_le _)) (by decide)); have ho3 := own_chg ho2 hch3 (own_ne (own_base ho2 (Nat.zero_le _)) (own_base hrowP (Nat.zero_le _)) (by decide)); have hrowK : w3.ownsRow B 28 5 (.slice ka K.length kc) K.length (frS.all K) := hK3.row; have g1x := blk hl3; obtain ⟨l3, ll3, lf3⟩ := g1x; have g2x := blk hf3; obtain ⟨f3, fl3, _⟩ := g2x; have hz3 : w2.heap.size + 1 ≤ w3.heap.size := by have := hgr3.size; simp at this; exact this) | (at_builtin; refine wpList_append_lies _ rfl _ _ 22 rfl B 28 i0 (.agg #[.int .i64 0, .int .i64 0, .int .i64 0, .slice none 0 0, .string .empty]) 5 64 Tryd.underlying22 hi0 hzz0 hzz1 hzz2 rfl (by decide) _ _ _ rfl (hrowK.alloc _) ⟨w3.heap.size, 0, none⟩ 1 1 [.int .i64 f.kind, .int .i64 f.heard, .int .i64 f.epoch, .slice ua f.op.length uc, .string f.text] rfl rfl (World.news_of_block (cs := #[.int .i64 f.kind, .int .i64 f.heard, .int .i64 f.epoch, .slice ua f.op.length uc, .string f.text]) (t := 28) (fr := (0, 0)) (heap_alloc_new w3 _)) (by simp [Value.oneCell']) (by decide) (by have := HQ8.out; unfold maxLen; omega) (by have := HQ8.out; omega) (by simp; omega) _ rfl ?_; intro g2 cap2 w4 hown4 hgr4 hat4 hlt4; have hl4 := row_kept (hrowK.alloc _) (row_old hl3 _) (by decide) hgr4; have hl5 : (w4.setCell ⟨w.heap.size, 2, none⟩ (.slice (some ⟨g2, 0, none⟩) (K.length + 1) cap2)).heap[w.heap.size]? = some (.cells #[.int .i64 ep, .int .i64 N, .slice (some ⟨g2, 0, none⟩) (K.length + 1) cap2, .slice (some ⟨b, off, none⟩) D.length qd, .int .i64 hd] 24 (0, 0)) := (blk_put hl4 2 _).1; have hl6 : ((w4.setCell ⟨w.heap.size, 2, none⟩ (.slice (some ⟨g2, 0, none⟩) (K.length + 1) cap2)).setCell ⟨w.heap.size, 3, none⟩ (.slice la D2.length lc)).heap[w.heap.size]? = some (.cells #[.int .i64 ep, .int .i64 N, .slice (some ⟨g2, 0, none⟩) (K.length + 1) cap2, .slice la D2.length lc, .int .i64 hd] 24 (0, 0)) := (blk_put hl5 3 _).1; have g4x := blk hl4; obtain ⟨l4, ll4, lf4⟩ := g4x; have g5x := blk hl5; obtain ⟨l5, ll5, lf5⟩ := g5x; have g6x := blk hl6; obtain ⟨l6, ll6, lf6⟩ := g6x; clear l3 ll3 lf3 f3 fl3))
      have hl7 : (((w4.setCell ⟨w.heap.size, 2, none⟩ (.slice (some ⟨g2, 0, none⟩) (K.length + 1) cap2)).setCell ⟨w.heap.size, 3, none⟩ (.slice la D2.length lc)).setCell ⟨w.heap.size, 1, none⟩ (.int .i64 (N + 1))).heap[w.heap.size]? = some (.cells #[.int .i64 ep, .int .i64 (N + 1), .slice (some ⟨g2, 0, none⟩) (K.length + 1) cap2, .slice la D2.length lc, .int .i64 hd] 24 (0, 0)) := (blk_put hl6 1 _).1
      have hs7 : Chg (fun k => k = w.heap.size) w4 (((w4.setCell ⟨w.heap.size, 2, none⟩ (.slice (some ⟨g2, 0, none⟩) (K.length + 1) cap2)).setCell ⟨w.heap.size, 3, none⟩ (.slice la D2.length lc)).setCell ⟨w.heap.size, 1, none⟩ (.int .i64 (N + 1))) := ((blk_put hl4 2 _).2.trans (blk_put hl5 3 _).2 (fun _ _ h => h)).trans (blk_put hl6 1 _).2 (fun _ _ h => h)
      have hch4 : Chg (fun k => (Value.slice ka K.length kc).ownBlock = some k) w3 w4 := ((Chg.refl _ w3).alloc _).grown hgr4 (fun k _ e => e)
      have hr7 := hs7.row (row_kept (hrowK.alloc _) (row_old hr3 _) (by decide) hgr4) (show ¬ w.heap.size + 1 = w.heap.size by omega)
      have hK7 := (RowK.app (x := ((f, Value.slice ua f.op.length uc) : FrK)) hK3 (own_base ho3 hm) hown4 hgr4).stored hl4 (by decide) (by decide) hs7
      have hP7 := (hP3.other hrowK hgr4 (by decide) (own_ne (own_base hP3.row (Nat.zero_le _)) (own_base hrowK (Nat.zero_le _)) (by decide))).stored hl4 (by decide) (by decide) hs7
      have hsep7 : Hid (∀ k, (Value.slice (some ⟨g2, 0, none⟩) (K.length + 1) cap2).ownBlock = some k → k < m ∨ w.heap.size ≤ k) := by
        show ∀ k, _ → _
        intro k hk
        have hgk : g2 = k := by simpa [Value.ownBlock] using hk
        subst hgk
        rcases hat4 with h | h
        · exact hsep.out _ h
        · right
          rw [h]
          simp
          omega
      have hch7 : Chg (fun k => B ≤ k ∧ k < m) w (((w4.setCell ⟨w.heap.size, 2, none⟩ (.slice (some ⟨g2, 0, none⟩) (K.length + 1) cap2)).setCell ⟨w.heap.size, 3, none⟩ (.slice la D2.length lc)).setCell ⟨w.heap.size, 1, none⟩ (.int .i64 (N + 1))) := ((hchA.trans hch3 (fun i hi e => by have := (hrowP.lt i e).1; omega)).trans hch4 (fun i hi e => ⟨(hrowK.lt i e).1, by rcases hsep.out i e with h | h <;> omega⟩)).trans hs7 (fun i hi e => by omega)
      have hkf7 : KeptF w (((w4.setCell ⟨w.heap.size, 2, none⟩ (.slice (some ⟨g2, 0, none⟩) (K.length + 1) cap2)).setCell ⟨w.heap.size, 3, none⟩ (.slice la D2.length lc)).setCell ⟨w.heap.size, 1, none⟩ (.int .i64 (N + 1))) := fun k cs T hT e => by
        have hk : k < w.heap.size := (Array.getElem?_eq_some_iff.1 e).1
        have e2 := hkA k cs T hT (hkf k cs T hT e)
        have e3 := hch3.row e2 (fun h => by have := (hrowP.lt k h).1; omega)
        exact hs7.row (row_kept (hrowK.alloc _) (row_old e3 _) hT hgr4) (by omega)
      have HN7 : Hid (N + 1 = nx + ((j + 1 : Nat) : Int)) := by show _ = _; rw [HN.out]; omega
      have HK7 : Hid (K ++ [((f, Value.slice ua f.op.length uc) : FrK)] = S ++ Q.take (j + 1)) := by show _ = _; rw [HT.out, HK.out, List.append_assoc]
      have HP7 : Hid ((P ++ [((⟨ep, N, false, hd, f⟩, Value.slice xa f.op.length xc) : PkK)]).map (·.1) = packs ep hd nx ((Q.take (j + 1)).map (·.1))) := by
        have hlq : (Q.take j).length = j := by have := congrArg List.length HP.out; have := congrArg List.length HT.out; simp at this ⊢; omega
        show _ = _
        rw [HT.out, List.map_append, List.map_append, packs_append, ← HP.out, List.length_map, hlq, HN.out]
        rfl
      clear hl4 hl5 hl6 l4 ll4 lf4 l5 ll5 lf5 l6 ll6 lf6 hK3 hP3 hrowK hrowP hch3 hch4 hgr3 hgr4 hown3 hown4 hs7 hkA hchA hl3 hf3 hr3 ho3 hl2 hr2 hf2 hK2 hP2 ho2 hox2 hat3 hat4 HK HP HN
      generalize (((w4.setCell ⟨w.heap.size, 2, none⟩ (.slice (some ⟨g2, 0, none⟩) (K.length + 1) cap2)).setCell ⟨w.heap.size, 3, none⟩ (.slice la D2.length lc)).setCell ⟨w.heap.size, 1, none⟩ (.int .i64 (N + 1))) = w7 at *
      go_wp2_with fail
      go_roundg (kk - j - 1)
      case measure => have := HQ8.out; omega
      case rel => exact ⟨j + 1, N + 1, _, D2, _, some ⟨g2, 0, none⟩, la, cap2, lc, by have := HQ8.out; omega, HN7, HD2, by rw [List.length_append]; exact hl7, hr7, by rw [List.length_append]; exact hK7, HK7, by rw [List.length_append]; exact hsep7, hQn, hP7, HP7, hch7, hkf7⟩
    · have hjk : j = kk := by omega
      subst hjk
      have hsplit : ¬ (0 : Int) < (D.length : Int) ∨ ((0 : Int) < (D.length : Int) ∧ ¬ (K.length : Int) < 8) ∨ ((0 : Int) < (D.length : Int) ∧ (K.length : Int) < 8 ∧ ¬ N < 1048576) := by
        have hno : ¬ (j < Q.length ∧ S.length + j < 8 ∧ nx + (j : Int) < 1048576) := fun h => hjlt (HC.out.2 h)
        omega
      have hQr := (hQj.ahead hch (fun k h => h.2)).inK
      obtain ⟨hfin, hs7⟩ := puts_all hres [.int .i64 ep, .int .i64 N, .slice ka K.length kc, .slice qb D.length qd, .int .i64 hd] rfl
      simp only [puts, Nat.zero_add, Nat.reduceAdd] at hfin hs7
      have hK7 := (hK.stored hres (by decide) (by decide) hs7).inT
      have hP7 := hP.stored hres (by decide) (by decide) hs7
      have hQ7 : InT frS (((((wr.setCell ⟨w.heap.size + 1, 0, none⟩ (.int .i64 ep)).setCell ⟨w.heap.size + 1, 1, none⟩ (.int .i64 N)).setCell ⟨w.heap.size + 1, 2, none⟩ (.slice ka K.length kc)).setCell ⟨w.heap.size + 1, 3, none⟩ (.slice qb D.length qd)).setCell ⟨w.heap.size + 1, 4, none⟩ (.int .i64 hd)) B (.slice qb D.length qd) D := by
        have h1 : Chg (fun k => B ≤ k ∧ k < m) w _ := hch.trans hs7 (fun i hi e => by omega)
        exact (hQj.ahead h1 (fun k h => h.2)).base hm
      have HB7 := (hch.below (fun k h => h.1) hB).trans (hs7.below (B := B) (fun i e => by omega) (Nat.le_trans hB hch.size))
      have hkf7 : KeptF w (((((wr.setCell ⟨w.heap.size + 1, 0, none⟩ (.int .i64 ep)).setCell ⟨w.heap.size + 1, 1, none⟩ (.int .i64 N)).setCell ⟨w.heap.size + 1, 2, none⟩ (.slice ka K.length kc)).setCell ⟨w.heap.size + 1, 3, none⟩ (.slice qb D.length qd)).setCell ⟨w.heap.size + 1, 4, none⟩ (.int .i64 hd)) := fun k cs T hT e => by
        have hk : k < w.heap.size := (Array.getElem?_eq_some_iff.1 e).1
        exact hs7.row (hkf k cs T hT e) (by omega)
      have HGK : Hid (GoOk (((((wr.setCell ⟨w.heap.size + 1, 0, none⟩ (.int .i64 ep)).setCell ⟨w.heap.size + 1, 1, none⟩ (.int .i64 N)).setCell ⟨w.heap.size + 1, 2, none⟩ (.slice ka K.length kc)).setCell ⟨w.heap.size + 1, 3, none⟩ (.slice qb D.length qd)).setCell ⟨w.heap.size + 1, 4, none⟩ (.int .i64 hd)) B w.heap.size (.slice ka K.length kc) (.slice qb D.length qd) (.slice pa P.length pc) G) := ⟨K, D, P, hK7, by rw [HGO.out, HK.out], hQ7, by rw [HGO.out, HD.out], hP7, by rw [HGO.out, HP.out]⟩
      obtain ⟨l0, ll0, lf0⟩ := blk hl
      obtain ⟨r0, rl0, rf0⟩ := blk hres
      clear hK hP hQj hQr HC hKl hDl hPl hNb hK7 hP7 hQ7 hQ hS hQin hlow fQ' hs7 HD HK HP hsep hkQ lS lQ hjlt
      generalize D.length = dn at *
      generalize K.length = kn at *
      generalize P.length = pn at *
      have HN2 : Hid (N = nx + (j : Int)) := HN
      rcases hsplit with c | ⟨c, d⟩ | ⟨c, d, e⟩
      · have hd0 : dn = 0 := by omega
        subst hd0
        clear c
        go_wp2_with fail
        generalize (((((wr.setCell ⟨w.heap.size + 1, 0, none⟩ (.int .i64 ep)).setCell ⟨w.heap.size + 1, 1, none⟩ (.int .i64 N)).setCell ⟨w.heap.size + 1, 2, none⟩ (.slice ka kn kc)).setCell ⟨w.heap.size + 1, 3, none⟩ (.slice qb 0 qd)).setCell ⟨w.heap.size + 1, 4, none⟩ (.int .i64 hd)) = w9 at *
        obtain ⟨t9, _, _⟩ := blk hfin
        exact bodyPost_ret (v := .tuple #[.agg #[.int .i64 ep, .int .i64 N, .slice ka kn kc, .slice qb 0 qd, .int .i64 hd], .slice pa pn pc]) (by simp [results, Tryd.results14, go_sem, t9]) rfl ⟨_, _, _, by rw [HN2.out], HGK, HB7, hkf7⟩
      all_goals
        go_wp2_with fail
        generalize (((((wr.setCell ⟨w.heap.size + 1, 0, none⟩ (.int .i64 ep)).setCell ⟨w.heap.size + 1, 1, none⟩ (.int .i64 N)).setCell ⟨w.heap.size + 1, 2, none⟩ (.slice ka kn kc)).setCell ⟨w.heap.size + 1, 3, none⟩ (.slice qb dn qd)).setCell ⟨w.heap.size + 1, 4, none⟩ (.int .i64 hd)) = w9 at *
        obtain ⟨t9, _, _⟩ := blk hfin
        exact bodyPost_ret (v := .tuple #[.agg #[.int .i64 ep, .int .i64 N, .slice ka kn kc, .slice qb dn qd, .int .i64 hd], .slice pa pn pc]) (by simp [results, Tryd.results14, go_sem, t9]) rfl ⟨_, _, _, by rw [HN2.out], HGK, HB7, hkf7⟩

end Go.Proofs.YtnpjcdfkjgenbaaDoor
