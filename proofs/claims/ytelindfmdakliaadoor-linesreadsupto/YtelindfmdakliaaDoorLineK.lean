/-
  Walk: wherryref.lineAct.
-/
import Derived.Test.YtelindfmdakliaaDoorLineJ
namespace Go.Proofs.YtelindfmdakliaaDoor
open Go.RowKit Go.Lib

def intCells (l : List Int) : List Value := l.map fun n => .int .i64 n
theorem parts_read (y : List UInt8) (r : List (List UInt8)) : partsR (y :: r) = (partOfL y).bind fun p => (partsR r).map (p :: ·) := by
  show (match partOfL y with | none => none | some p => match partsR r with | none => none | some ps => some (p :: ps)) = _
  cases partOfL y with
  | none => rfl
  | some p => show (match partsR r with | none => none | some ps => some (p :: ps)) = _; cases partsR r <;> rfl
theorem row_kindK {w : World} {B e size : Nat} {v : Value} {n : Nat} {xs : List Value} (h : w.ownsRow B e size v n xs) : ∀ g, v.ownBlock = some g → ∃ c fz, w.heap[g]? = some (.cells c e fz) := by
  intro g hg
  rcases h.2 with ⟨rfl, _⟩ | ⟨g', cap, cur, rfl, _, hg', _⟩
  · simp [Value.ownBlock] at hg
  · simp only [Value.ownBlock, Option.some.injEq] at hg
    subst hg
    exact ⟨cur, _, hg'⟩
theorem word_cell {w : World} {B : Nat} {W : List (List UInt8)} {g c : Nat} (h : w.ownsRow B 9 1 (.slice (some ⟨g, 0, none⟩) W.length c) W.length (strCells W)) (i : Nat) (hi : i < W.length) : w.cell? ⟨g, i, none⟩ = some (.string (txt W[i])) := by
  have hc := h.cells (g := g) rfl i (.string (txt W[i])) (by unfold strCells; rw [List.getElem?_map, List.getElem?_eq_getElem hi]; rfl)
  rwa [WideShapes.add_plain, Nat.zero_add] at hc
theorem int_cell {w : World} {B : Nat} {W : List Int} {g c : Nat} (h : w.ownsRow B 3 1 (.slice (some ⟨g, 0, none⟩) W.length c) W.length (intCells W)) (i : Nat) (hi : i < W.length) : w.cell? ⟨g, i, none⟩ = some (.int .i64 W[i]) := by
  have hc := h.cells (g := g) rfl i (.int .i64 W[i]) (by unfold intCells; rw [List.getElem?_map, List.getElem?_eq_getElem hi]; rfl)
  rwa [WideShapes.add_plain, Nat.zero_add] at hc

set_option maxRecDepth 100000 in
set_option maxHeartbeats 4000000 in
theorem lineAct_any (l : List UInt8) (w : World) (hl : l.length ≤ 1048576) (R : Option ActI) (hR : R = refA l) :
    Calls Tryd.prog 27 #[.string (txt l)] w (fun e w' => (∃ (x : ActI) (va : Option Addr) (vn vc : Nat), e = .returned (.tuple #[.agg (actVals x (.slice va vn vc)).toArray, .bool R.isSome]) ∧ ∀ y, R = some y → x = y ∧ w'.ownsRow w.heap.size 63 3 (.slice va vn vc) x.op.length (partCells x.op)) ∧ Below w.heap.size w w') := by
  obtain ⟨x, ws, hx⟩ : ∃ x ws, wordsL l = x :: ws := by
    rw [wordsL_cut]; exact ⟨_, _, rfl⟩
  have hle := wordsL_le l
  have hcn := wordsL_count l
  have hB0 := heap_alloc_new w (.cells #[.int .i64 0, .int .i64 0, .int .i64 0, .int .i64 0, .int .i64 0, .slice none 0 0, .int .i64 0, .int .i64 0] 29)
  have hb0 := (Below.refl w.heap.size w).alloc (Nat.le_refl _) (.cells #[.int .i64 0, .int .i64 0, .int .i64 0, .int .i64 0, .int .i64 0, .slice none 0 0, .int .i64 0, .int .i64 0] 29)
  have hs0 : (w.alloc (.cells #[.int .i64 0, .int .i64 0, .int .i64 0, .int .i64 0, .int .i64 0, .slice none 0 0, .int .i64 0, .int .i64 0] 29)).heap.size = w.heap.size + 1 := by simp
  have cP := partsOf_any l (w.alloc (.cells #[.int .i64 0, .int .i64 0, .int .i64 0, .int .i64 0, .int .i64 0, .slice none 0 0, .int .i64 0, .int .i64 0] 29)) hl
  rw [hx] at hle hcn cP
  have HR : Hid (R = refK (kindL (txt x)) ws) := by
    show R = _
    rw [hR]; unfold refA; rw [hx]
  have hk := kindL_lt (txt x)
  have hkw := kind_word (txt x)
  have hle' : ∀ y ∈ x :: ws, y.length ≤ 1048576 := fun y hy => Nat.le_trans (hle y hy) hl
  have hwl : ws.length ≤ 1048576 := by simp only [List.length_cons] at hcn; omega
  clear hx hR hle hcn hl
  generalize txt l = S at *
  generalize kindL (txt x) = k at *
  go_enter Tryd.func27, Tryd.ntmps27
  go_wp2_with fail
  refine cP.mono ?_
  clear cP
  rintro e w1 ⟨wv, rfl, ho, hb1⟩
  replace ho := own_base ho (B' := w.heap.size) (by rw [hs0]; omega)
  have hBk1 := (hb1.block _ (by rw [hs0]; omega)).trans hB0
  have hAB : w.heap.size < w1.heap.size := by have := hb1.size; rw [hs0] at this; omega
  replace hb1 := below_two hb0 hb1 (Nat.le_refl _)
  clear hb0 hs0 hB0
  obtain ⟨rg, rc, rfl, hrB, hrs⟩ := ho.form (by simp)
  have hlen : (x :: ws).length = ws.length + 1 := rfl
  have hz := heap_alloc_new w1 (.cells #[.int .i64 0, .int .i64 0, .int .i64 0, .int .i64 0, .int .i64 0, .slice none 0 0, .int .i64 0, .int .i64 0] 29)
  have hb2 := hb1.alloc hb1.size (.cells #[.int .i64 0, .int .i64 0, .int .i64 0, .int .i64 0, .int .i64 0, .slice none 0 0, .int .i64 0, .int .i64 0] 29)
  have ho2 := ho.alloc (.cells #[.int .i64 0, .int .i64 0, .int .i64 0, .int .i64 0, .int .i64 0, .slice none 0 0, .int .i64 0, .int .i64 0] 29)
  have hAs := hb1.size
  have hBk2 := row_old hBk1 (.cells #[.int .i64 0, .int .i64 0, .int .i64 0, .int .i64 0, .int .i64 0, .slice none 0 0, .int .i64 0, .int .i64 0] 29)
  have hAl : w1.heap.size < (w1.alloc (.cells #[.int .i64 0, .int .i64 0, .int .i64 0, .int .i64 0, .int .i64 0, .slice none 0 0, .int .i64 0, .int .i64 0] 29)).heap.size := by simp
  rw [hlen] at ho2 ⊢
  clear ho
  go_wp2_with fail
  generalize (w1.alloc (.cells #[.int .i64 0, .int .i64 0, .int .i64 0, .int .i64 0, .int .i64 0, .slice none 0 0, .int .i64 0, .int .i64 0] 29)) = w2 at *
  generalize w1.heap.size = A at *
  clear hb1 hAl hBk1
  have cW := refWords_any
  go_loopg [6] 9 (fun g iv wr => ∃ i : Nat, i + g = 10 ∧ 1 ≤ i ∧ iv = .int .i64 (i : Int) ∧ wr.heap[A]? = some (.cells #[.int .i64 ((if k < i then k else 0 : Nat) : Int), .int .i64 0, .int .i64 0, .int .i64 0, .int .i64 0, .slice none 0 0, .int .i64 0, .int .i64 0] 29 (0, 0)) ∧ wr.heap[w.heap.size]? = some (.cells #[.int .i64 0, .int .i64 0, .int .i64 0, .int .i64 0, .int .i64 0, .slice none 0 0, .int .i64 0, .int .i64 0] 29 (0, 0)) ∧ wr.ownsRow w.heap.size 9 1 (.slice (some ⟨rg, 0, none⟩) (ws.length + 1) rc) (ws.length + 1) (strCells (x :: ws)) ∧ Below w.heap.size w wr)
  case atStart =>
    refine ⟨1, rfl, Nat.le_refl _, rfl, ?_, hBk2, ho2, hb2⟩
    have e : (if k < 1 then k else 0) = 0 := by split <;> omega
    rw [e]
    exact hz
  case round =>
    obtain ⟨i, hi, hi1, rfl, hz, hBk, ho, HB⟩ := hrel
    obtain ⟨k0, kl, kf⟩ := blk hBk
    obtain ⟨z0, zl, zf⟩ := blk hz
    by_cases hlt : i ≤ 9
    · have hiz : (i : Int) ≤ 9 := by omega
      have hi0 : (0 : Int) ≤ (i : Int) := by omega
      have hi10 : (i : Int) < 10 := by omega
      have hi9 : 1 ≤ i ∧ i ≤ 9 := ⟨hi1, hlt⟩
      have hXc : wr.cell? ⟨rg, 0, none⟩ = some (.string (txt x)) := word_cell (W := x :: ws) ho 0 (Nat.succ_pos _)
      have hkwi := hkw i hi9
      have hrl := (ho.lt rg rfl).2
      have hD0 : Below wr.heap.size wr wr.drew := (Below.refl _ _).drew
      have keep : Hid (∀ w', Below wr.heap.size wr w' → w'.cell? ⟨rg, 0, none⟩ = some (.string (txt x)) ∧ Below wr.heap.size wr w') := fun w' hb => ⟨(hb.cell (p := ⟨rg, 0, none⟩) hrl).trans hXc, hb⟩
      have HG : Hid (i + gk = 10) := hi
      clear hkw hi hle' HR
      generalize txt x = X at *
      have hS0 := keep.out _ hD0
      have hs0 := hS0.1
      go_wp2_with fail
      go_region_law (first | (go_simp; go_at_call 38; with_reducible refine Calls.mono (cW _) ?_; rintro e wy ⟨g, rfl, hgc, hby⟩; have hgk := hgc i hi9; have hS1 := keep.out _ (below_two hD0 hby (Nat.le_refl _)); have hs1 := hS1.1))
      all_goals
        have hB1 := hS1.2
        have hz1 := (hB1.block _ zl).trans hz
        have hBk1 := (hB1.block _ kl).trans hBk
        have ho1 := own_below ho hB1
        have HB1 := HB.trans (hB1.mono HB.size)
        clear hS1 hS0 hs1 hs0 hgk hgc hby keep hD0 z0 zf hXc hz ho hB1 hBk k0 kl kf
        obtain ⟨y0, yl, yf⟩ := blk hz1
        by_cases he : k = i
        · rw [decide_eq_true he] at hkwi
          obtain ⟨p1, p2⟩ := blk_put hz1 0 (.int .i64 (i : Int))
          have HB2 := HB1.trans (p2.below (B := w.heap.size) (fun k e => by rw [e]; exact hAs) HB1.size)
          have ho2 := own_chg ho1 p2 (fun j hj e => row_ne ho1 hz1 (by decide) (by rw [hj, e]))
          have hBk2 := p2.row hBk1 (by omega)
          have HE : Hid (k = i) := he
          clear he
          go_wp2_with fail
          go_roundg (gk - 1)
          case measure => have := HG.out; omega
          case rel =>
            refine ⟨i + 1, by have := HG.out; omega, by omega, by go_num, ?_, hBk2, ho2, HB2⟩
            rw [show (if k < i + 1 then k else 0) = i by rw [if_pos (by have := HE.out; omega)]; exact HE.out]
            exact p1
        · rw [decide_eq_false he] at hkwi
          have HE : Hid (k ≠ i) := he
          clear he
          go_wp2_with fail
          go_roundg (gk - 1)
          case measure => have := HG.out; omega
          case rel =>
            refine ⟨i + 1, by have := HG.out; omega, by omega, by go_num, ?_, hBk1, ho1, HB1⟩
            rw [show (if k < i + 1 then k else 0) = if k < i then k else 0 by have := HE.out; by_cases h : k < i; rw [if_pos h, if_pos (by omega)]; rw [if_neg h, if_neg (by omega)]]
            exact hz1
    · obtain rfl : i = 10 := by omega
      have hiz : ¬ (10 : Int) ≤ 9 := by omega
      rw [if_pos hk] at hz z0
      clear hkw hi cW hlt hi1
      by_cases hk0 : k = 0
      · have hR0 : Hid (R = none) := by show R = none; rw [HR.out, hk0]; rfl
        subst hk0
        clear HR hle' hk ho
        obtain ⟨r1, r2⟩ := puts_all hBk [.int .i64 0, .int .i64 0, .int .i64 0, .int .i64 0, .int .i64 0, .slice none 0 0, .int .i64 0, .int .i64 0] rfl
        simp only [puts, Nat.zero_add, Nat.reduceAdd] at r1 r2
        have HBr := HB.trans (r2.below (B := w.heap.size) (fun k e => Nat.le_of_eq e.symm) HB.size)
        obtain ⟨r0, _, _⟩ := blk r1
        clear r1 r2
        go_wp2_with fail
        refine bodyPost_ret (by simp [results, Tryd.results27, go_sem, r0]; rfl) rfl ?_
        exact ⟨⟨act0, none, 0, 0, by rw [hR0.out]; rfl, fun y h => by rw [hR0.out] at h; cases h⟩, HBr⟩
      have hk0z : ((k : Int) == 0) = false := by simp; omega
      by_cases hk7 : k = 7
      · subst hk7
        have hR0 : Hid (R = if ws = [] then some (mkAct 7 [] []) else none) := HR.out
        clear HR hk ho hk0 hk0z
        by_cases hw : ws = []
        · have hR1 : Hid (R = some (mkAct 7 [] [])) := by show R = _; rw [hR0.out, if_pos hw]
          have hc : ((ws.length : Int) + 1 == 1) = true := by rw [hw]; rfl
          clear hR0 hw hle'
          obtain ⟨r1, r2⟩ := puts_all hBk [.int .i64 7, .int .i64 0, .int .i64 0, .int .i64 0, .int .i64 0, .slice none 0 0, .int .i64 0, .int .i64 0] rfl
          simp only [puts, Nat.zero_add, Nat.reduceAdd] at r1 r2
          have HBr := HB.trans (r2.below (B := w.heap.size) (fun k e => Nat.le_of_eq e.symm) HB.size)
          obtain ⟨r0, _, _⟩ := blk r1
          clear r1 r2
          go_wp2_with fail
          refine bodyPost_ret (by simp [results, Tryd.results27, go_sem, r0]; rfl) rfl ?_
          exact ⟨⟨mkAct 7 [] [], none, 0, 0, by rw [hR1.out]; rfl, fun y h => by rw [hR1.out] at h; cases h; exact ⟨rfl, World.ownsRow_nil _ _ _ _⟩⟩, HBr⟩
        · have hR1 : Hid (R = none) := by show R = _; rw [hR0.out, if_neg hw]
          have hp : 0 < ws.length := List.length_pos_iff.2 hw
          have hc : ((ws.length : Int) + 1 == 1) = false := by simp; omega
          clear hR0 hw hle'
          obtain ⟨r1, r2⟩ := puts_all hBk [.int .i64 7, .int .i64 0, .int .i64 0, .int .i64 0, .int .i64 0, .slice none 0 0, .int .i64 0, .int .i64 0] rfl
          simp only [puts, Nat.zero_add, Nat.reduceAdd] at r1 r2
          have HBr := HB.trans (r2.below (B := w.heap.size) (fun k e => Nat.le_of_eq e.symm) HB.size)
          obtain ⟨r0, _, _⟩ := blk r1
          clear r1 r2
          go_wp2_with fail
          refine bodyPost_ret (by simp [results, Tryd.results27, go_sem, r0]; rfl) rfl ?_
          exact ⟨⟨mkAct 7 [] [], none, 0, 0, by rw [hR1.out]; rfl, fun y h => by rw [hR1.out] at h; cases h⟩, HBr⟩
      have hk7z : ((k : Int) == 7) = false := by simp; omega
      cases ws with
      | nil =>
        have hR0 : Hid (R = none) := by show R = none; rw [HR.out]; unfold refK; rw [if_neg hk0, if_neg hk7]
        have hc : (([] : List (List UInt8)).length : Int) + 1 < 2 := by decide
        have hl0 : ([] : List (List UInt8)).length = 0 := rfl
        clear HR hle' hk ho hk0 hk7
        obtain ⟨r1, r2⟩ := puts_all hBk [.int .i64 (k : Int), .int .i64 0, .int .i64 0, .int .i64 0, .int .i64 0, .slice none 0 0, .int .i64 0, .int .i64 0] rfl
        simp only [puts, Nat.zero_add, Nat.reduceAdd] at r1 r2
        have HBr := HB.trans (r2.below (B := w.heap.size) (fun k e => Nat.le_of_eq e.symm) HB.size)
        obtain ⟨r0, _, _⟩ := blk r1
        clear r1 r2
        go_wp2_with fail
        refine bodyPost_ret (by simp [results, Tryd.results27, go_sem, r0]; rfl) rfl ?_
        exact ⟨⟨⟨k, 0, 0, 0, 0, [], 0, 0⟩, none, 0, 0, by rw [hR0.out]; rfl, fun y h => by rw [hR0.out] at h; cases h⟩, HBr⟩
      | cons y r =>
        obtain ⟨W, hW⟩ : ∃ W, W = x :: y :: r := ⟨_, rfl⟩
        have hlW : (y :: r).length + 1 = W.length := by rw [hW]; rfl
        rw [hlW] at ho ⊢
        rw [← hW] at ho hle'
        have hW2 : 2 ≤ W.length := by rw [hW]; simp
        have hWm : W.length ≤ 1048577 := by rw [← hlW]; omega
        have hWd : W.drop 2 = r := by rw [hW]; rfl
        have hWy : W[1] = y := by simp only [hW]; rfl
        have hYc : wr.cell? ⟨rg, 1, none⟩ = some (.string (txt y)) := by rw [← hWy]; exact word_cell ho 1 (by omega)
        have HR1 : Hid (R = (numW y).bind fun v => if k = 1 then (partsR (W.drop 2)).map fun ps => mkAct 1 [v] ps else (numsAll (W.drop 2)).bind fun vs => if vs.length + 1 = (numsOf (k : Int)).length then some (mkAct k (v :: vs) []) else none) := by show R = _; rw [HR.out, hWd]; unfold refK; rw [if_neg hk0, if_neg hk7]
        have cH := fun wx => whole_any y wx (hle' y (by rw [hW]; simp))
        have HLE : Hid (∀ z ∈ W, z.length ≤ 1048576) := hle'
        clear HR hle' hWd hWy hlW hW hwl
        generalize txt y = Y at *
        generalize numW y = N at *
        have hc : ¬ ((W.length : Int) < 2) := by omega
        have hc1 : (1 : Int) < (W.length : Int) := by omega
        go_wp2_with fail
        refine (cH _).mono ?_
        clear cH
        rintro e w3 ⟨⟨n, rfl, hn⟩, hw⟩
        rw [hw]
        clear hw w3
        have HN : Hid (∀ v, N = some v → n = v) := hn
        have HR2 : Hid (N = none → R = none) := fun h => by rw [HR1.out, h]; rfl
        obtain ⟨p1, p2⟩ := blk_put hz 1 (.int .i64 n)
        have HB2 := HB.trans (p2.below (B := w.heap.size) (fun k e => by rw [e]; exact hAs) HB.size)
        have ho2 := own_chg ho p2 (fun j hj e => row_ne ho hz (by decide) (by rw [hj, e]))
        have hn2 : (wr.setCell ⟨A, 1, none⟩ (.int .i64 n)).heap[A]? = some (.cells #[.int .i64 (k : Int), .int .i64 n, .int .i64 0, .int .i64 0, .int .i64 0, .slice none 0 0, .int .i64 0, .int .i64 0] 29 (0, 0)) := p1
        obtain ⟨q0, ql, qf⟩ := blk hn2
        have hBk2 := p2.row hBk (by omega)
        clear hn p1 p2 hc hc1 hYc
        by_cases hk1 : k = 1
        · subst hk1
          have HR3 : Hid (∀ v, N = some v → R = (partsR (W.drop 2)).map fun ps => mkAct 1 [v] ps) := fun v h => by rw [HR1.out, h]; rfl
          clear HR1 hk hk0 hk0z hk7 hk7z hz ho HB hBk k0 kl kf
          obtain ⟨i0, hpi, hz0, hz1, hz2⟩ := info_parts info_part
          go_wp2_with fail
          clear q0 ql qf z0 zl zf
          generalize (wr.setCell ⟨A, 1, none⟩ (.int .i64 n)) = wq0 at *
          go_loopg [9, 8] (W.length - 2) (fun g iv bv wq => ∃ (i : Nat) (ps : List Part) (oa : Option Addr) (oc : Nat) (ok : Bool), i + g = W.length ∧ 2 ≤ i ∧ iv = .int .i64 (i : Int) ∧ bv = .bool ok ∧ wq.heap[A]? = some (.cells #[.int .i64 1, .int .i64 n, .int .i64 0, .int .i64 0, .int .i64 0, .slice oa ps.length oc, .int .i64 0, .int .i64 0] 29 (0, 0)) ∧ wq.heap[w.heap.size]? = some (.cells #[.int .i64 0, .int .i64 0, .int .i64 0, .int .i64 0, .int .i64 0, .slice none 0 0, .int .i64 0, .int .i64 0] 29 (0, 0)) ∧ wq.ownsRow w.heap.size 63 3 (.slice oa ps.length oc) ps.length (partCells ps) ∧ wq.ownsRow w.heap.size 9 1 (.slice (some ⟨rg, 0, none⟩) W.length rc) W.length (strCells W) ∧ Hid (ok = true → R = (partsR (W.drop i)).map fun us => mkAct 1 [n] (ps ++ us)) ∧ Hid (ok = false → R = none) ∧ ps.length ≤ i ∧ Below w.heap.size w wq)
          case atStart =>
            refine ⟨2, [], none, 0, N.isSome, by omega, Nat.le_refl _, rfl, rfl, hn2, hBk2, World.ownsRow_nil _ _ _ _, ho2, fun h => ?_, fun h => ?_, Nat.zero_le _, HB2⟩
            · obtain ⟨v, hv⟩ := Option.isSome_iff_exists.1 h
              rw [HR3.out v hv, HN.out v hv]; rfl
            · exact HR2.out (by simpa using h)
          case round =>
            clear HR2 HR3 HN hn2 ho2 HB2 hBk2
            obtain ⟨i, ps, oa, oc, ok, hi, hi2, rfl, rfl, ha, hBk, hp, ho, HA, HE, hpl, HB⟩ := hrel
            obtain ⟨a0, al, af⟩ := blk ha
            obtain ⟨k0, kl, kf⟩ := blk hBk
            have HG : Hid (i + gk = W.length) := hi
            cases ok with
            | false =>
              have hR0 : Hid (R = none) := HE.out rfl
              clear HA HE
              by_cases hlt : i < W.length
              · have hiz : (i : Int) < (W.length : Int) := by omega
                clear hi
                obtain ⟨r1, r2⟩ := puts_all hBk [.int .i64 1, .int .i64 n, .int .i64 0, .int .i64 0, .int .i64 0, .slice oa ps.length oc, .int .i64 0, .int .i64 0] rfl
                simp only [puts, Nat.zero_add, Nat.reduceAdd] at r1 r2
                have HBr := HB.trans (r2.below (B := w.heap.size) (fun k e => Nat.le_of_eq e.symm) HB.size)
                have hpr := own_chg hp r2 (fun j hj e => row_ne hp hBk (by decide) (by rw [hj, e]))
                obtain ⟨r0, _, _⟩ := blk r1
                clear r1 r2
                go_wp2_with fail
                refine bodyPost_ret (by simp [results, Tryd.results27, go_sem, r0]; rfl) rfl ?_
                exact ⟨⟨mkAct 1 [n] ps, oa, ps.length, oc, by rw [hR0.out]; rfl, fun y h => by rw [hR0.out] at h; cases h⟩, HBr⟩
              · have hiz : ¬ (i : Int) < (W.length : Int) := by omega
                clear hi
                obtain ⟨r1, r2⟩ := puts_all hBk [.int .i64 1, .int .i64 n, .int .i64 0, .int .i64 0, .int .i64 0, .slice oa ps.length oc, .int .i64 0, .int .i64 0] rfl
                simp only [puts, Nat.zero_add, Nat.reduceAdd] at r1 r2
                have HBr := HB.trans (r2.below (B := w.heap.size) (fun k e => Nat.le_of_eq e.symm) HB.size)
                have hpr := own_chg hp r2 (fun j hj e => row_ne hp hBk (by decide) (by rw [hj, e]))
                obtain ⟨r0, _, _⟩ := blk r1
                clear r1 r2
                go_wp2_with fail
                refine bodyPost_ret (by simp [results, Tryd.results27, go_sem, r0]; rfl) rfl ?_
                exact ⟨⟨mkAct 1 [n] ps, oa, ps.length, oc, by rw [hR0.out]; rfl, fun y h => by rw [hR0.out] at h; cases h⟩, HBr⟩
            | true =>
              by_cases hlt : i < W.length
              · have hiz : (i : Int) < (W.length : Int) := by omega
                have hi0 : (0 : Int) ≤ (i : Int) := by omega
                have hWc := word_cell ho i hlt
                have cPt := fun wx => partOf_any W[i] wx (HLE.out _ (List.getElem_mem hlt))
                have HA1 : Hid (R = ((partOfL W[i]).bind fun p => (partsR (W.drop (i + 1))).map (p :: ·)).map fun us => mkAct 1 [n] (ps ++ us)) := by show R = _; rw [HA.out rfl, List.drop_eq_getElem_cons hlt, parts_read]
                clear HA HE hi
                generalize txt W[i] = Z at *
                generalize partOfL W[i] = Q at *
                go_wp2_with fail
                refine (cPt _).mono ?_
                clear cPt
                rintro e w8 ⟨⟨p, rfl, hpv⟩, hb8⟩
                have ha8 := (hb8.block _ al).trans ha
                have hBk8 := (hb8.block _ kl).trans hBk
                have hp8 := own_below hp hb8
                have ho8 := own_below ho hb8
                have HB8 := below_two HB hb8 (Nat.le_refl _)
                clear a0 al af ha hp ho HB hb8 hWc hBk k0 kl kf
                obtain ⟨a0, al, af⟩ := blk ha8
                obtain ⟨kd, pn, tx⟩ := p
                have HPV : Hid (∀ q, Q = some q → q = ⟨kd, pn, tx⟩) := hpv
                have hs1 : (w8.alloc (.cells #[.int .i64 kd, .int .i64 pn, .string tx] 63)).heap.size = w8.heap.size + 1 := by simp
                have hnew := heap_alloc_new (w8.alloc (.cells #[.int .i64 kd, .int .i64 pn, .string tx] 63)) (.cells #[.int .i64 kd, .int .i64 pn, .string tx] 63)
                rw [hs1] at hnew
                have hs2 : w8.heap.size + 1 < ((w8.alloc (.cells #[.int .i64 kd, .int .i64 pn, .string tx] 63)).alloc (.cells #[.int .i64 kd, .int .i64 pn, .string tx] 63)).heap.size := by simp
                have hBz := HB8.size
                obtain ⟨wc, wf, hwb⟩ := row_kindK ho8 rg rfl
                have hwne := row_ne hp8 hwb (by decide)
                have hwA := row_ne ho8 ha8 (by decide)
                clear hpv hs1 hwb
                go_wp2_with (at_builtin; refine wpList_append_lies _ rfl _ _ 25 rfl w.heap.size 63 i0 _ 3 32 Tryd.underlying25 hpi hz0 hz1 hz2 rfl (by decide) _ _ _ rfl ((hp8.alloc _).alloc _) ⟨w8.heap.size + 1, 0, none⟩ 1 1 [.int .i64 kd, .int .i64 pn, .string tx] rfl rfl (World.news_of_block (cs := #[.int .i64 kd, .int .i64 pn, .string tx]) (t := 63) (fr := (0, 0)) hnew) (by simp [Value.oneCell']) (by omega) (by unfold maxLen; omega) (by omega) (by omega) _ rfl ?_; intro g1 cap1 w3 hown3 hgr3 hat3 hlt3; have a3 := row_kept ((hp8.alloc _).alloc _) (row_old (row_old ha8 _) _) (by decide) hgr3; have b3 := blk a3; obtain ⟨c0, cl, cf⟩ := b3)
                obtain ⟨p1, p2⟩ := blk_put a3 5 (.slice (some ⟨g1, 0, none⟩) (ps.length + 1) cap1)
                have hch : Chg (fun j => j = A ∨ (Value.slice oa ps.length oc).ownBlock = some j) w8 (w3.setCell ⟨A, 5, none⟩ (.slice (some ⟨g1, 0, none⟩) (ps.length + 1) cap1)) := ((((Chg.refl _ w8).alloc _).alloc _).grown hgr3 (fun j _ e => .inr e)).trans p2 (fun _ _ h => .inl h)
                have hBk4 := hch.row hBk8 (fun h => h.elim (fun e => by omega) (fun e => row_ne hp8 hBk8 (by decide) e.symm))
                have ho4 := own_chg ho8 hch (fun j hj h => h.elim (fun e => hwA (by rw [hj, e])) (fun e => hwne (by rw [e]; exact hj.symm ▸ rfl)))
                have hA1 := HB8.alloc hBz (.cells #[.int .i64 kd, .int .i64 pn, .string tx] 63)
                have hA2 := hA1.alloc hA1.size (.cells #[.int .i64 kd, .int .i64 pn, .string tx] 63)
                have hB3 := hA2.grown hgr3 hA2.size (fun j e => (hp8.lt j e).1)
                have hB4 := hB3.trans (p2.below (B := w.heap.size) (fun k e => by rw [e]; exact hAs) hB3.size)
                have hown4 := own_chg hown3 p2 (fun j hj e => row_ne hown3 a3 (by decide) (by rw [hj, e]))
                go_roundg (gk - 1)
                case measure => have := HG.out; omega
                case rel =>
                  have hl1 : (ps ++ [(⟨kd, pn, tx⟩ : Part)]).length = ps.length + 1 := by simp
                  refine ⟨i + 1, ps ++ [(⟨kd, pn, tx⟩ : Part)], some ⟨g1, 0, none⟩, cap1, Q.isSome, by have := HG.out; omega, by omega, by go_num, rfl, ?_, hBk4, ?_, ho4, fun h => ?_, fun h => ?_, by omega, hB4⟩
                  · rw [hl1]; exact p1
                  · rw [hl1, partCells_append, partCells_one]; exact hown4
                  · obtain ⟨v, hv⟩ := Option.isSome_iff_exists.1 h
                    rw [HA1.out, hv, HPV.out v hv]
                    cases partsR (W.drop (i + 1)) <;> simp
                  · have : Q = none := by simpa using h
                    rw [HA1.out, this]; rfl
              · have hiz : ¬ (i : Int) < (W.length : Int) := by omega
                have hfin : Hid (R = some (mkAct 1 [n] ps)) := by
                  show R = _
                  rw [HA.out rfl, List.drop_of_length_le (by omega)]
                  show some (mkAct 1 [n] (ps ++ [])) = _
                  rw [List.append_nil]
                clear HA HE hi
                obtain ⟨r1, r2⟩ := puts_all hBk [.int .i64 1, .int .i64 n, .int .i64 0, .int .i64 0, .int .i64 0, .slice oa ps.length oc, .int .i64 0, .int .i64 0] rfl
                simp only [puts, Nat.zero_add, Nat.reduceAdd] at r1 r2
                have HBr := HB.trans (r2.below (B := w.heap.size) (fun k e => Nat.le_of_eq e.symm) HB.size)
                have hpr := own_chg hp r2 (fun j hj e => row_ne hp hBk (by decide) (by rw [hj, e]))
                obtain ⟨r0, _, _⟩ := blk r1
                clear r1 r2
                go_wp2_with fail
                refine bodyPost_ret (by simp [results, Tryd.results27, go_sem, r0]; rfl) rfl ?_
                exact ⟨⟨mkAct 1 [n] ps, oa, ps.length, oc, by rw [hfin.out]; rfl, fun y h => by rw [hfin.out] at h; cases h; exact ⟨rfl, hpr⟩⟩, HBr⟩
        have hk1z : ((k : Int) == 1) = false := by simp; omega
        have HR3 : Hid (∀ v, N = some v → R = (numsAll (W.drop 2)).bind fun vs => if vs.length + 1 = (numsOf (k : Int)).length then some (mkAct k (v :: vs) []) else none) := fun v h => by rw [HR1.out, h]; show (if k = 1 then _ else _ : Option ActI) = _; rw [if_neg hk1]
        clear HR1 hz ho HB hBk k0 kl kf
        obtain ⟨F, hF⟩ : ∃ F : List Int → Option ActI, F = fun vs => if vs.length + 1 = (numsOf (k : Int)).length then some (mkAct k (n :: vs) []) else none := ⟨_, rfl⟩
        have HF : Hid (F = fun vs => if vs.length + 1 = (numsOf (k : Int)).length then some (mkAct k (n :: vs) []) else none) := hF
        have HR4 : Hid (∀ v, N = some v → R = (numsAll (W.drop 2)).bind fun vs => F vs) := fun v h => by rw [HR3.out v h, hF, HN.out v h]
        clear HR3 hF
        obtain ⟨i0, hpi, hz0, hz1, hz2⟩ := info_parts info_int
        go_wp2_with fail
        clear q0 ql qf z0 zl zf
        generalize (wr.setCell ⟨A, 1, none⟩ (.int .i64 n)) = wq0 at *
        go_loopg [12, 13, 8] (W.length - 2) (fun g lv iv bv wq => ∃ (i : Nat) (vs : List Int) (ok : Bool), i + g = W.length ∧ 2 ≤ i ∧ iv = .int .i64 (i : Int) ∧ bv = .bool ok ∧ wq.heap[A]? = some (.cells #[.int .i64 (k : Int), .int .i64 n, .int .i64 0, .int .i64 0, .int .i64 0, .slice none 0 0, .int .i64 0, .int .i64 0] 29 (0, 0)) ∧ wq.heap[w.heap.size]? = some (.cells #[.int .i64 0, .int .i64 0, .int .i64 0, .int .i64 0, .int .i64 0, .slice none 0 0, .int .i64 0, .int .i64 0] 29 (0, 0)) ∧ wq.ownsRow w.heap.size 3 1 lv vs.length (intCells vs) ∧ wq.ownsRow w.heap.size 9 1 (.slice (some ⟨rg, 0, none⟩) W.length rc) W.length (strCells W) ∧ Hid (ok = true → R = (numsAll (W.drop i)).bind fun us => F (vs ++ us)) ∧ Hid (ok = false → R = none) ∧ vs.length ≤ i ∧ Below w.heap.size w wq)
        case atStart =>
          refine ⟨2, [], N.isSome, by omega, Nat.le_refl _, rfl, rfl, hn2, hBk2, World.ownsRow_nil _ _ _ _, ho2, fun h => ?_, fun h => ?_, Nat.zero_le _, HB2⟩
          · obtain ⟨v, hv⟩ := Option.isSome_iff_exists.1 h
            rw [HR4.out v hv]; rfl
          · exact HR2.out (by simpa using h)
        case round =>
          clear HR2 HR4 HN hn2 ho2 HB2 hBk2
          obtain ⟨i, vs, ok, hi, hi2, rfl, rfl, ha, hBk, hp, ho, HA, HE, hpl, HB⟩ := hrel
          obtain ⟨la, lc, rfl⟩ := own_form hp
          obtain ⟨a0, al, af⟩ := blk ha
          obtain ⟨k0, kl, kf⟩ := blk hBk
          have HG : Hid (i + gk = W.length) := hi
          cases ok with
          | false =>
            have hR0 : Hid (R = none) := HE.out rfl
            clear HA HE HF
            by_cases hlt : i < W.length
            · have hiz : (i : Int) < (W.length : Int) := by omega
              clear hi
              obtain ⟨r1, r2⟩ := puts_all hBk [.int .i64 (k : Int), .int .i64 n, .int .i64 0, .int .i64 0, .int .i64 0, .slice none 0 0, .int .i64 0, .int .i64 0] rfl
              simp only [puts, Nat.zero_add, Nat.reduceAdd] at r1 r2
              have HBr := HB.trans (r2.below (B := w.heap.size) (fun k e => Nat.le_of_eq e.symm) HB.size)
              obtain ⟨r0, _, _⟩ := blk r1
              clear r1 r2
              go_wp2_with fail
              refine bodyPost_ret (by simp [results, Tryd.results27, go_sem, r0]; rfl) rfl ?_
              exact ⟨⟨⟨k, n, 0, 0, 0, [], 0, 0⟩, none, 0, 0, by rw [hR0.out]; rfl, fun y h => by rw [hR0.out] at h; cases h⟩, HBr⟩
            · have hiz : ¬ (i : Int) < (W.length : Int) := by omega
              clear hi
              obtain ⟨r1, r2⟩ := puts_all hBk [.int .i64 (k : Int), .int .i64 n, .int .i64 0, .int .i64 0, .int .i64 0, .slice none 0 0, .int .i64 0, .int .i64 0] rfl
              simp only [puts, Nat.zero_add, Nat.reduceAdd] at r1 r2
              have HBr := HB.trans (r2.below (B := w.heap.size) (fun k e => Nat.le_of_eq e.symm) HB.size)
              obtain ⟨r0, _, _⟩ := blk r1
              clear r1 r2
              go_wp2_with fail
              refine bodyPost_ret (by simp [results, Tryd.results27, go_sem, r0]; rfl) rfl ?_
              exact ⟨⟨⟨k, n, 0, 0, 0, [], 0, 0⟩, none, 0, 0, by rw [hR0.out]; rfl, fun y h => by rw [hR0.out] at h; cases h⟩, HBr⟩
          | true =>
            by_cases hlt : i < W.length
            · have hiz : (i : Int) < (W.length : Int) := by omega
              have hi0 : (0 : Int) ≤ (i : Int) := by omega
              have hWc := word_cell ho i hlt
              have cH := fun wx => whole_any W[i] wx (HLE.out _ (List.getElem_mem hlt))
              have HA1 : Hid (R = ((numW W[i]).bind fun v => (numsAll (W.drop (i + 1))).map (v :: ·)).bind fun us => F (vs ++ us)) := by show R = _; rw [HA.out rfl, List.drop_eq_getElem_cons hlt]; rfl
              clear HA HE hi HF
              generalize txt W[i] = Z at *
              generalize numW W[i] = Q at *
              go_wp2_with fail
              refine (cH _).mono ?_
              clear cH
              rintro e w8 ⟨⟨n2, rfl, hpv⟩, hw⟩
              rw [hw]
              clear hw w8
              have HPV : Hid (∀ q, Q = some q → n2 = q) := hpv
              have hp8 := hp.alloc (.cells #[.int .i64 n2] 3)
              have hnew := heap_alloc_new wr (.cells #[.int .i64 n2] 3)
              have hb8 := HB.alloc HB.size (.cells #[.int .i64 n2] 3)
              have hBz := hb8.size
              have ha8 := row_old ha (.cells #[.int .i64 n2] 3)
              obtain ⟨wc, wf, hwb⟩ := row_kindK ho rg rfl
              have hwne := row_ne hp hwb (by decide)
              clear hpv hwb
              go_wp2_with (at_builtin; refine wpList_append_lies _ rfl _ _ 22 rfl w.heap.size 3 i0 _ 1 8 Tryd.underlying22 hpi hz0 hz1 hz2 rfl (by decide) (.slice la vs.length lc) vs.length (intCells vs) rfl hp8 ⟨wr.heap.size, 0, none⟩ 1 1 [.int .i64 n2] rfl rfl (World.news_of_block hnew) (by simp [Value.oneCell']) (by omega) (by unfold maxLen; omega) (by omega) hBz _ rfl ?_; intro g1 cap1 w3 hown3 hgr3 hat3 hlt3)
              have a3 := row_kept hp8 ha8 (by decide) hgr3
              have hBk4 := row_kept hp8 (row_old hBk (.cells #[.int .i64 n2] 3)) (by decide) hgr3
              have hch : Chg (fun j => (Value.slice la vs.length lc).ownBlock = some j) wr w3 := ((Chg.refl _ wr).alloc _).grown hgr3 (fun j _ e => e)
              have ho4 := own_chg ho hch (fun j hj e => hwne (by rw [e]; exact hj.symm ▸ rfl))
              have hB4 := hb8.grown hgr3 hb8.size (fun j e => (hp.lt j e).1)
              go_roundg (gk - 1)
              case measure => have := HG.out; omega
              case rel =>
                have hl1 : (vs ++ [n2]).length = vs.length + 1 := by simp
                refine ⟨i + 1, vs ++ [n2], Q.isSome, by have := HG.out; omega, by omega, by go_num, rfl, a3, hBk4, ?_, ho4, fun h => ?_, fun h => ?_, by omega, hB4⟩
                · rw [hl1, show intCells (vs ++ [n2]) = intCells vs ++ [.int .i64 n2] by unfold intCells; rw [List.map_append]; rfl]; exact hown3
                · obtain ⟨v, hv⟩ := Option.isSome_iff_exists.1 h
                  obtain rfl := HPV.out v hv
                  rw [HA1.out, hv]
                  cases numsAll (W.drop (i + 1)) <;> simp
                · have : Q = none := by simpa using h
                  rw [HA1.out, this]; rfl
            · have hiz : ¬ (i : Int) < (W.length : Int) := by omega
              have hfin : Hid (R = if vs.length + 1 = (numsOf (k : Int)).length then some (mkAct k (n :: vs) []) else none) := by
                show R = _
                rw [HA.out rfl, List.drop_of_length_le (by omega)]
                show F (vs ++ []) = _
                rw [List.append_nil, HF.out]
              clear HA HE hi HF HLE ho HG hpl hi2 hWm hW2
              have kcs : k = 2 ∨ k = 3 ∨ k = 4 ∨ k = 5 ∨ k = 6 ∨ k = 8 ∨ k = 9 := by omega
              clear hk hk0 hk1 hk7 hk0z hk1z hk7z
              rcases kcs with rfl | rfl | rfl | rfl | rfl | rfl | rfl
              · by_cases hv : vs.length = 0
                · obtain rfl : vs = [] := List.length_eq_zero_iff.1 hv
                  have hR1 : Hid (R = some (mkAct 2 [n] [])) := by show R = _; rw [hfin.out]; rfl
                  have hvl : ([] : List Int).length = 0 := rfl
                  rw [hvl] at hp ⊢
                  clear hfin hv hvl
                  obtain ⟨r1, r2⟩ := puts_all hBk [.int .i64 2, .int .i64 n, .int .i64 0, .int .i64 0, .int .i64 0, .slice none 0 0, .int .i64 0, .int .i64 0] rfl
                  simp only [puts, Nat.zero_add, Nat.reduceAdd] at r1 r2
                  have HBr := HB.trans (r2.below (B := w.heap.size) (fun k e => Nat.le_of_eq e.symm) HB.size)
                  obtain ⟨r0, _, _⟩ := blk r1
                  clear r1 r2
                  go_wp2_with fail
                  refine bodyPost_ret (by simp [results, Tryd.results27, go_sem, r0]; rfl) rfl ?_
                  exact ⟨⟨mkAct 2 [n] [], none, 0, 0, by rw [hR1.out]; rfl, fun y h => by rw [hR1.out] at h; cases h; exact ⟨rfl, World.ownsRow_nil _ _ _ _⟩⟩, HBr⟩
                · have hR1 : Hid (R = none) := by show R = _; rw [hfin.out]; exact if_neg (fun h => hv (by have e : (numsOf ((2 : Nat) : Int)).length = 1 := rfl; rw [e] at h; omega))
                  have hvz : ((vs.length : Int) == 0) = false := by rw [beq_eq_false_iff_ne]; intro h; exact hv (by omega)
                  clear hfin hv
                  obtain ⟨r1, r2⟩ := puts_all hBk [.int .i64 2, .int .i64 n, .int .i64 0, .int .i64 0, .int .i64 0, .slice none 0 0, .int .i64 0, .int .i64 0] rfl
                  simp only [puts, Nat.zero_add, Nat.reduceAdd] at r1 r2
                  have HBr := HB.trans (r2.below (B := w.heap.size) (fun k e => Nat.le_of_eq e.symm) HB.size)
                  obtain ⟨r0, _, _⟩ := blk r1
                  clear r1 r2
                  go_wp2_with fail
                  refine bodyPost_ret (by simp [results, Tryd.results27, go_sem, r0]; rfl) rfl ?_
                  exact ⟨⟨⟨2, n, 0, 0, 0, [], 0, 0⟩, none, 0, 0, by rw [hR1.out]; rfl, fun y h => by rw [hR1.out] at h; cases h⟩, HBr⟩
              · by_cases hv : vs.length = 2
                · obtain ⟨a, b, rfl⟩ : ∃ a b, vs = [a, b] := by
                    match vs, hv with
                    | [a, b], _ => exact ⟨a, b, rfl⟩
                  have hR1 : Hid (R = some (mkAct 3 [n, a, b] [])) := by show R = _; rw [hfin.out]; rfl
                  obtain ⟨g, gc, hge, _, _⟩ := hp.form (by simp)
                  rw [hge] at hp ⊢
                  have hi0 : wr.cell? ⟨g, 0, none⟩ = some (.int .i64 a) := int_cell hp 0 (by simp)
                  have hi1 : wr.cell? ⟨g, 1, none⟩ = some (.int .i64 b) := int_cell hp 1 (by simp)
                  have hvl : ([a, b] : List Int).length = 2 := rfl
                  rw [hvl] at hp ⊢
                  have hgl := (hp.lt g rfl).2
                  have hgA : g ≠ A := fun e => row_ne hp ha (by decide) (by rw [← e]; rfl)
                  clear hfin hv hvl hge hgA hp
                  have hj0 : wr.drew.cell? ⟨g, 0, none⟩ = some (.int .i64 a) := hi0
                  have hj1 : wr.drew.cell? ⟨g, 1, none⟩ = some (.int .i64 b) := hi1
                  go_wp2_with fail
                  go_region_law (first | fail)
                  all_goals
                    obtain ⟨s0, t0⟩ := blk_put ha 6 (.int .i64 a)
                    have hBk5 := t0.row hBk (by omega)
                    have HB5 := HB.trans (t0.below (B := w.heap.size) (fun k e => by rw [e]; exact hAs) HB.size)
                    obtain ⟨u0, _, v0⟩ := blk s0
                    obtain ⟨s1, t1⟩ := blk_put s0 7 (.int .i64 b)
                    have hBk6 := t1.row hBk5 (by omega)
                    have HB6 := HB5.trans (t1.below (B := w.heap.size) (fun k e => by rw [e]; exact hAs) HB5.size)
                    obtain ⟨u1, _, v1⟩ := blk s1
                    obtain ⟨r1, r2⟩ := puts_all hBk6 [.int .i64 3, .int .i64 n, .int .i64 0, .int .i64 0, .int .i64 0, .slice none 0 0, .int .i64 a, .int .i64 b] rfl
                    simp only [puts, Nat.zero_add, Nat.reduceAdd] at r1 r2
                    have HBr := HB6.trans (r2.below (B := w.heap.size) (fun k e => Nat.le_of_eq e.symm) HB6.size)
                    obtain ⟨r0, _, _⟩ := blk r1
                    clear r1 r2
                    go_wp2_with fail
                    refine bodyPost_ret (by simp [results, Tryd.results27, go_sem, r0]; rfl) rfl ?_
                    exact ⟨⟨mkAct 3 [n, a, b] [], none, 0, 0, by rw [hR1.out]; rfl, fun y h => by rw [hR1.out] at h; cases h; exact ⟨rfl, World.ownsRow_nil _ _ _ _⟩⟩, HBr.drew⟩
                · have hR1 : Hid (R = none) := by show R = _; rw [hfin.out]; exact if_neg (fun h => hv (by have e : (numsOf ((3 : Nat) : Int)).length = 3 := rfl; rw [e] at h; omega))
                  have hvz : ((vs.length : Int) == 2) = false := by rw [beq_eq_false_iff_ne]; intro h; exact hv (by omega)
                  clear hfin hv
                  obtain ⟨r1, r2⟩ := puts_all hBk [.int .i64 3, .int .i64 n, .int .i64 0, .int .i64 0, .int .i64 0, .slice none 0 0, .int .i64 0, .int .i64 0] rfl
                  simp only [puts, Nat.zero_add, Nat.reduceAdd] at r1 r2
                  have HBr := HB.trans (r2.below (B := w.heap.size) (fun k e => Nat.le_of_eq e.symm) HB.size)
                  obtain ⟨r0, _, _⟩ := blk r1
                  clear r1 r2
                  go_wp2_with fail
                  refine bodyPost_ret (by simp [results, Tryd.results27, go_sem, r0]; rfl) rfl ?_
                  exact ⟨⟨⟨3, n, 0, 0, 0, [], 0, 0⟩, none, 0, 0, by rw [hR1.out]; rfl, fun y h => by rw [hR1.out] at h; cases h⟩, HBr⟩
              · by_cases hv : vs.length = 2
                · obtain ⟨a, b, rfl⟩ : ∃ a b, vs = [a, b] := by
                    match vs, hv with
                    | [a, b], _ => exact ⟨a, b, rfl⟩
                  have hR1 : Hid (R = some (mkAct 4 [n, a, b] [])) := by show R = _; rw [hfin.out]; rfl
                  obtain ⟨g, gc, hge, _, _⟩ := hp.form (by simp)
                  rw [hge] at hp ⊢
                  have hi0 : wr.cell? ⟨g, 0, none⟩ = some (.int .i64 a) := int_cell hp 0 (by simp)
                  have hi1 : wr.cell? ⟨g, 1, none⟩ = some (.int .i64 b) := int_cell hp 1 (by simp)
                  have hvl : ([a, b] : List Int).length = 2 := rfl
                  rw [hvl] at hp ⊢
                  have hgl := (hp.lt g rfl).2
                  have hgA : g ≠ A := fun e => row_ne hp ha (by decide) (by rw [← e]; rfl)
                  obtain ⟨s0, t0⟩ := blk_put ha 2 (.int .i64 a)
                  have hBk5 := t0.row hBk (by omega)
                  have HB5 := HB.trans (t0.below (B := w.heap.size) (fun k e => by rw [e]; exact hAs) HB.size)
                  obtain ⟨u0, _, v0⟩ := blk s0
                  have hj1 : (wr.setCell ⟨A, 2, none⟩ (.int .i64 a)).cell? ⟨g, 1, none⟩ = some (.int .i64 b) := (World.cell?_of_block (t0.block g hgl hgA)).trans hi1
                  obtain ⟨s1, t1⟩ := blk_put s0 3 (.int .i64 b)
                  have hBk6 := t1.row hBk5 (by omega)
                  have HB6 := HB5.trans (t1.below (B := w.heap.size) (fun k e => by rw [e]; exact hAs) HB5.size)
                  obtain ⟨u1, _, v1⟩ := blk s1
                  clear hfin hv hvl hge hgA hp
                  obtain ⟨r1, r2⟩ := puts_all hBk6 [.int .i64 4, .int .i64 n, .int .i64 a, .int .i64 b, .int .i64 0, .slice none 0 0, .int .i64 0, .int .i64 0] rfl
                  simp only [puts, Nat.zero_add, Nat.reduceAdd] at r1 r2
                  have HBr := HB6.trans (r2.below (B := w.heap.size) (fun k e => Nat.le_of_eq e.symm) HB6.size)
                  obtain ⟨r0, _, _⟩ := blk r1
                  clear r1 r2
                  go_wp2_with fail
                  refine bodyPost_ret (by simp [results, Tryd.results27, go_sem, r0]; rfl) rfl ?_
                  exact ⟨⟨mkAct 4 [n, a, b] [], none, 0, 0, by rw [hR1.out]; rfl, fun y h => by rw [hR1.out] at h; cases h; exact ⟨rfl, World.ownsRow_nil _ _ _ _⟩⟩, HBr⟩
                · have hR1 : Hid (R = none) := by show R = _; rw [hfin.out]; exact if_neg (fun h => hv (by have e : (numsOf ((4 : Nat) : Int)).length = 3 := rfl; rw [e] at h; omega))
                  have hvz : ((vs.length : Int) == 2) = false := by rw [beq_eq_false_iff_ne]; intro h; exact hv (by omega)
                  clear hfin hv
                  obtain ⟨r1, r2⟩ := puts_all hBk [.int .i64 4, .int .i64 n, .int .i64 0, .int .i64 0, .int .i64 0, .slice none 0 0, .int .i64 0, .int .i64 0] rfl
                  simp only [puts, Nat.zero_add, Nat.reduceAdd] at r1 r2
                  have HBr := HB.trans (r2.below (B := w.heap.size) (fun k e => Nat.le_of_eq e.symm) HB.size)
                  obtain ⟨r0, _, _⟩ := blk r1
                  clear r1 r2
                  go_wp2_with fail
                  refine bodyPost_ret (by simp [results, Tryd.results27, go_sem, r0]; rfl) rfl ?_
                  exact ⟨⟨⟨4, n, 0, 0, 0, [], 0, 0⟩, none, 0, 0, by rw [hR1.out]; rfl, fun y h => by rw [hR1.out] at h; cases h⟩, HBr⟩
              · by_cases hv : vs.length = 2
                · obtain ⟨a, b, rfl⟩ : ∃ a b, vs = [a, b] := by
                    match vs, hv with
                    | [a, b], _ => exact ⟨a, b, rfl⟩
                  have hR1 : Hid (R = some (mkAct 5 [n, a, b] [])) := by show R = _; rw [hfin.out]; rfl
                  obtain ⟨g, gc, hge, _, _⟩ := hp.form (by simp)
                  rw [hge] at hp ⊢
                  have hi0 : wr.cell? ⟨g, 0, none⟩ = some (.int .i64 a) := int_cell hp 0 (by simp)
                  have hi1 : wr.cell? ⟨g, 1, none⟩ = some (.int .i64 b) := int_cell hp 1 (by simp)
                  have hvl : ([a, b] : List Int).length = 2 := rfl
                  rw [hvl] at hp ⊢
                  have hgl := (hp.lt g rfl).2
                  have hgA : g ≠ A := fun e => row_ne hp ha (by decide) (by rw [← e]; rfl)
                  obtain ⟨s0, t0⟩ := blk_put ha 2 (.int .i64 a)
                  have hBk5 := t0.row hBk (by omega)
                  have HB5 := HB.trans (t0.below (B := w.heap.size) (fun k e => by rw [e]; exact hAs) HB.size)
                  obtain ⟨u0, _, v0⟩ := blk s0
                  have hj1 : (wr.setCell ⟨A, 2, none⟩ (.int .i64 a)).cell? ⟨g, 1, none⟩ = some (.int .i64 b) := (World.cell?_of_block (t0.block g hgl hgA)).trans hi1
                  obtain ⟨s1, t1⟩ := blk_put s0 3 (.int .i64 b)
                  have hBk6 := t1.row hBk5 (by omega)
                  have HB6 := HB5.trans (t1.below (B := w.heap.size) (fun k e => by rw [e]; exact hAs) HB5.size)
                  obtain ⟨u1, _, v1⟩ := blk s1
                  clear hfin hv hvl hge hgA hp
                  obtain ⟨r1, r2⟩ := puts_all hBk6 [.int .i64 5, .int .i64 n, .int .i64 a, .int .i64 b, .int .i64 0, .slice none 0 0, .int .i64 0, .int .i64 0] rfl
                  simp only [puts, Nat.zero_add, Nat.reduceAdd] at r1 r2
                  have HBr := HB6.trans (r2.below (B := w.heap.size) (fun k e => Nat.le_of_eq e.symm) HB6.size)
                  obtain ⟨r0, _, _⟩ := blk r1
                  clear r1 r2
                  go_wp2_with fail
                  refine bodyPost_ret (by simp [results, Tryd.results27, go_sem, r0]; rfl) rfl ?_
                  exact ⟨⟨mkAct 5 [n, a, b] [], none, 0, 0, by rw [hR1.out]; rfl, fun y h => by rw [hR1.out] at h; cases h; exact ⟨rfl, World.ownsRow_nil _ _ _ _⟩⟩, HBr⟩
                · have hR1 : Hid (R = none) := by show R = _; rw [hfin.out]; exact if_neg (fun h => hv (by have e : (numsOf ((5 : Nat) : Int)).length = 3 := rfl; rw [e] at h; omega))
                  have hvz : ((vs.length : Int) == 2) = false := by rw [beq_eq_false_iff_ne]; intro h; exact hv (by omega)
                  clear hfin hv
                  obtain ⟨r1, r2⟩ := puts_all hBk [.int .i64 5, .int .i64 n, .int .i64 0, .int .i64 0, .int .i64 0, .slice none 0 0, .int .i64 0, .int .i64 0] rfl
                  simp only [puts, Nat.zero_add, Nat.reduceAdd] at r1 r2
                  have HBr := HB.trans (r2.below (B := w.heap.size) (fun k e => Nat.le_of_eq e.symm) HB.size)
                  obtain ⟨r0, _, _⟩ := blk r1
                  clear r1 r2
                  go_wp2_with fail
                  refine bodyPost_ret (by simp [results, Tryd.results27, go_sem, r0]; rfl) rfl ?_
                  exact ⟨⟨⟨5, n, 0, 0, 0, [], 0, 0⟩, none, 0, 0, by rw [hR1.out]; rfl, fun y h => by rw [hR1.out] at h; cases h⟩, HBr⟩
              · by_cases hv : vs.length = 2
                · obtain ⟨a, b, rfl⟩ : ∃ a b, vs = [a, b] := by
                    match vs, hv with
                    | [a, b], _ => exact ⟨a, b, rfl⟩
                  have hR1 : Hid (R = some (mkAct 6 [n, a, b] [])) := by show R = _; rw [hfin.out]; rfl
                  obtain ⟨g, gc, hge, _, _⟩ := hp.form (by simp)
                  rw [hge] at hp ⊢
                  have hi0 : wr.cell? ⟨g, 0, none⟩ = some (.int .i64 a) := int_cell hp 0 (by simp)
                  have hi1 : wr.cell? ⟨g, 1, none⟩ = some (.int .i64 b) := int_cell hp 1 (by simp)
                  have hvl : ([a, b] : List Int).length = 2 := rfl
                  rw [hvl] at hp ⊢
                  have hgl := (hp.lt g rfl).2
                  have hgA : g ≠ A := fun e => row_ne hp ha (by decide) (by rw [← e]; rfl)
                  obtain ⟨s0, t0⟩ := blk_put ha 2 (.int .i64 a)
                  have hBk5 := t0.row hBk (by omega)
                  have HB5 := HB.trans (t0.below (B := w.heap.size) (fun k e => by rw [e]; exact hAs) HB.size)
                  obtain ⟨u0, _, v0⟩ := blk s0
                  have hj1 : (wr.setCell ⟨A, 2, none⟩ (.int .i64 a)).cell? ⟨g, 1, none⟩ = some (.int .i64 b) := (World.cell?_of_block (t0.block g hgl hgA)).trans hi1
                  obtain ⟨s1, t1⟩ := blk_put s0 3 (.int .i64 b)
                  have hBk6 := t1.row hBk5 (by omega)
                  have HB6 := HB5.trans (t1.below (B := w.heap.size) (fun k e => by rw [e]; exact hAs) HB5.size)
                  obtain ⟨u1, _, v1⟩ := blk s1
                  clear hfin hv hvl hge hgA hp
                  obtain ⟨r1, r2⟩ := puts_all hBk6 [.int .i64 6, .int .i64 n, .int .i64 a, .int .i64 b, .int .i64 0, .slice none 0 0, .int .i64 0, .int .i64 0] rfl
                  simp only [puts, Nat.zero_add, Nat.reduceAdd] at r1 r2
                  have HBr := HB6.trans (r2.below (B := w.heap.size) (fun k e => Nat.le_of_eq e.symm) HB6.size)
                  obtain ⟨r0, _, _⟩ := blk r1
                  clear r1 r2
                  go_wp2_with fail
                  refine bodyPost_ret (by simp [results, Tryd.results27, go_sem, r0]; rfl) rfl ?_
                  exact ⟨⟨mkAct 6 [n, a, b] [], none, 0, 0, by rw [hR1.out]; rfl, fun y h => by rw [hR1.out] at h; cases h; exact ⟨rfl, World.ownsRow_nil _ _ _ _⟩⟩, HBr⟩
                · have hR1 : Hid (R = none) := by show R = _; rw [hfin.out]; exact if_neg (fun h => hv (by have e : (numsOf ((6 : Nat) : Int)).length = 3 := rfl; rw [e] at h; omega))
                  have hvz : ((vs.length : Int) == 2) = false := by rw [beq_eq_false_iff_ne]; intro h; exact hv (by omega)
                  clear hfin hv
                  obtain ⟨r1, r2⟩ := puts_all hBk [.int .i64 6, .int .i64 n, .int .i64 0, .int .i64 0, .int .i64 0, .slice none 0 0, .int .i64 0, .int .i64 0] rfl
                  simp only [puts, Nat.zero_add, Nat.reduceAdd] at r1 r2
                  have HBr := HB.trans (r2.below (B := w.heap.size) (fun k e => Nat.le_of_eq e.symm) HB.size)
                  obtain ⟨r0, _, _⟩ := blk r1
                  clear r1 r2
                  go_wp2_with fail
                  refine bodyPost_ret (by simp [results, Tryd.results27, go_sem, r0]; rfl) rfl ?_
                  exact ⟨⟨⟨6, n, 0, 0, 0, [], 0, 0⟩, none, 0, 0, by rw [hR1.out]; rfl, fun y h => by rw [hR1.out] at h; cases h⟩, HBr⟩
              · by_cases hv : vs.length = 1
                · obtain ⟨a, rfl⟩ : ∃ a, vs = [a] := by
                    match vs, hv with
                    | [a], _ => exact ⟨a, rfl⟩
                  have hR1 : Hid (R = some (mkAct 8 [n, a] [])) := by show R = _; rw [hfin.out]; rfl
                  obtain ⟨g, gc, hge, _, _⟩ := hp.form (by simp)
                  rw [hge] at hp ⊢
                  have hi0 : wr.cell? ⟨g, 0, none⟩ = some (.int .i64 a) := int_cell hp 0 (by simp)
                  have hvl : ([a] : List Int).length = 1 := rfl
                  rw [hvl] at hp ⊢
                  have hgl := (hp.lt g rfl).2
                  have hgA : g ≠ A := fun e => row_ne hp ha (by decide) (by rw [← e]; rfl)
                  obtain ⟨s0, t0⟩ := blk_put ha 4 (.int .i64 a)
                  have hBk5 := t0.row hBk (by omega)
                  have HB5 := HB.trans (t0.below (B := w.heap.size) (fun k e => by rw [e]; exact hAs) HB.size)
                  obtain ⟨u0, _, v0⟩ := blk s0
                  clear hfin hv hvl hge hgA hp
                  obtain ⟨r1, r2⟩ := puts_all hBk5 [.int .i64 8, .int .i64 n, .int .i64 0, .int .i64 0, .int .i64 a, .slice none 0 0, .int .i64 0, .int .i64 0] rfl
                  simp only [puts, Nat.zero_add, Nat.reduceAdd] at r1 r2
                  have HBr := HB5.trans (r2.below (B := w.heap.size) (fun k e => Nat.le_of_eq e.symm) HB5.size)
                  obtain ⟨r0, _, _⟩ := blk r1
                  clear r1 r2
                  go_wp2_with fail
                  refine bodyPost_ret (by simp [results, Tryd.results27, go_sem, r0]; rfl) rfl ?_
                  exact ⟨⟨mkAct 8 [n, a] [], none, 0, 0, by rw [hR1.out]; rfl, fun y h => by rw [hR1.out] at h; cases h; exact ⟨rfl, World.ownsRow_nil _ _ _ _⟩⟩, HBr⟩
                · have hR1 : Hid (R = none) := by show R = _; rw [hfin.out]; exact if_neg (fun h => hv (by have e : (numsOf ((8 : Nat) : Int)).length = 2 := rfl; rw [e] at h; omega))
                  have hvz : ((vs.length : Int) == 1) = false := by rw [beq_eq_false_iff_ne]; intro h; exact hv (by omega)
                  clear hfin hv
                  obtain ⟨r1, r2⟩ := puts_all hBk [.int .i64 8, .int .i64 n, .int .i64 0, .int .i64 0, .int .i64 0, .slice none 0 0, .int .i64 0, .int .i64 0] rfl
                  simp only [puts, Nat.zero_add, Nat.reduceAdd] at r1 r2
                  have HBr := HB.trans (r2.below (B := w.heap.size) (fun k e => Nat.le_of_eq e.symm) HB.size)
                  obtain ⟨r0, _, _⟩ := blk r1
                  clear r1 r2
                  go_wp2_with fail
                  refine bodyPost_ret (by simp [results, Tryd.results27, go_sem, r0]; rfl) rfl ?_
                  exact ⟨⟨⟨8, n, 0, 0, 0, [], 0, 0⟩, none, 0, 0, by rw [hR1.out]; rfl, fun y h => by rw [hR1.out] at h; cases h⟩, HBr⟩
              · by_cases hv : vs.length = 0
                · obtain rfl : vs = [] := List.length_eq_zero_iff.1 hv
                  have hR1 : Hid (R = some (mkAct 9 [n] [])) := by show R = _; rw [hfin.out]; rfl
                  have hvl : ([] : List Int).length = 0 := rfl
                  rw [hvl] at hp ⊢
                  clear hfin hv hvl
                  obtain ⟨r1, r2⟩ := puts_all hBk [.int .i64 9, .int .i64 n, .int .i64 0, .int .i64 0, .int .i64 0, .slice none 0 0, .int .i64 0, .int .i64 0] rfl
                  simp only [puts, Nat.zero_add, Nat.reduceAdd] at r1 r2
                  have HBr := HB.trans (r2.below (B := w.heap.size) (fun k e => Nat.le_of_eq e.symm) HB.size)
                  obtain ⟨r0, _, _⟩ := blk r1
                  clear r1 r2
                  go_wp2_with fail
                  refine bodyPost_ret (by simp [results, Tryd.results27, go_sem, r0]; rfl) rfl ?_
                  exact ⟨⟨mkAct 9 [n] [], none, 0, 0, by rw [hR1.out]; rfl, fun y h => by rw [hR1.out] at h; cases h; exact ⟨rfl, World.ownsRow_nil _ _ _ _⟩⟩, HBr⟩
                · have hR1 : Hid (R = none) := by show R = _; rw [hfin.out]; exact if_neg (fun h => hv (by have e : (numsOf ((9 : Nat) : Int)).length = 1 := rfl; rw [e] at h; omega))
                  have hvz : ((vs.length : Int) == 0) = false := by rw [beq_eq_false_iff_ne]; intro h; exact hv (by omega)
                  clear hfin hv
                  obtain ⟨r1, r2⟩ := puts_all hBk [.int .i64 9, .int .i64 n, .int .i64 0, .int .i64 0, .int .i64 0, .slice none 0 0, .int .i64 0, .int .i64 0] rfl
                  simp only [puts, Nat.zero_add, Nat.reduceAdd] at r1 r2
                  have HBr := HB.trans (r2.below (B := w.heap.size) (fun k e => Nat.le_of_eq e.symm) HB.size)
                  obtain ⟨r0, _, _⟩ := blk r1
                  clear r1 r2
                  go_wp2_with fail
                  refine bodyPost_ret (by simp [results, Tryd.results27, go_sem, r0]; rfl) rfl ?_
                  exact ⟨⟨⟨9, n, 0, 0, 0, [], 0, 0⟩, none, 0, 0, by rw [hR1.out]; rfl, fun y h => by rw [hR1.out] at h; cases h⟩, HBr⟩

end Go.Proofs.YtelindfmdakliaaDoor
