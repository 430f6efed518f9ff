/-
  Lines, read. Pure; walks: lines.readLine, Read.
-/
import Derived.Test.YtelindfmdakliaaDoorReadP
import Derived.Test.YtelindfmdakliaaDoorActRow
namespace Go.Proofs.YtelindfmdakliaaDoor
open Go.RowKit Go.Lib

/-- the words of a line -/
def wordsL : List UInt8 → List (List UInt8)
  | [] => [[]]
  | c :: r => if c = 32 then [] :: wordsL r else match wordsL r with
    | [] => [[c]]
    | w :: ws => (c :: w) :: ws
theorem wordsL_cut (l : List UInt8) : wordsL l = (cutB 32 l).1 :: (if (cutB 32 l).2.2 = true then wordsL (cutB 32 l).2.1 else []) := by
  induction l with
  | nil => rfl
  | cons c r ih =>
    by_cases h : c = 32
    · subst h
      rfl
    · have e1 : (c != 32) = true := by simpa using h
      have e2 : (c == 32) = false := by simpa using h
      have hc : cutB 32 (c :: r) = (c :: (cutB 32 r).1, (cutB 32 r).2.1, (cutB 32 r).2.2) := by
        unfold cutB
        rw [List.takeWhile_cons, if_pos e1, List.dropWhile_cons, if_pos e1, List.any_cons, e2, Bool.false_or]
      rw [hc]
      show (if c = 32 then _ else _) = _
      rw [if_neg h, ih]
theorem wordsL_ne (l : List UInt8) : wordsL l ≠ [] := by rw [wordsL_cut]; exact List.cons_ne_nil _ _
theorem cut_len (c : UInt8) (l : List UInt8) : (cutB c l).1.length ≤ l.length ∧ (cutB c l).2.1.length ≤ l.length := by
  unfold cutB
  have h1 : (l.takeWhile (· != c)).length + (l.dropWhile (· != c)).length = l.length := by rw [← List.length_append, List.takeWhile_append_dropWhile]
  constructor
  · show (l.takeWhile (· != c)).length ≤ _; omega
  · show ((l.dropWhile (· != c)).drop 1).length ≤ _; rw [List.length_drop]; omega
theorem wordsL_le (l : List UInt8) : ∀ x ∈ wordsL l, x.length ≤ l.length := by
  induction l with
  | nil => intro x hx; simp [wordsL] at hx; simp [hx]
  | cons c r ih =>
    intro x hx
    unfold wordsL at hx
    split at hx
    · rcases List.mem_cons.1 hx with rfl | hx
      · simp
      · have := ih x hx; simp only [List.length_cons]; omega
    · split at hx
      · simp at hx; simp [hx]
      · rename_i w ws he
        rw [he] at ih
        rcases List.mem_cons.1 hx with rfl | hx
        · have := ih w List.mem_cons_self; simp only [List.length_cons]; omega
        · have := ih x (List.mem_cons_of_mem _ hx); simp only [List.length_cons]; omega
/-- the first word; behind the last one an empty one -/
def hdW : List (List UInt8) → List UInt8
  | [] => []
  | x :: _ => x
/-- what is still to be read of a line, as words -/
def WS (rest : List UInt8) (en : Bool) (ws : List (List UInt8)) : Prop := if en = true then ws = [] ∧ rest = [] else ws = wordsL rest
theorem word_step {rest : List UInt8} {en : Bool} {ws : List (List UInt8)} (h : WS rest en ws) : (cutB 32 rest).1 = hdW ws ∧ WS (cutB 32 rest).2.1 (!(cutB 32 rest).2.2) ws.tail := by
  unfold WS at h
  cases en with
  | true =>
    obtain ⟨rfl, rfl⟩ := h
    exact ⟨rfl, by unfold WS; exact ⟨rfl, rfl⟩⟩
  | false =>
    have h : ws = wordsL rest := h
    rw [wordsL_cut] at h
    subst h
    refine ⟨rfl, ?_⟩
    unfold WS
    cases hc : (cutB 32 rest).2.2 with
    | true => simp
    | false =>
      have : rest.any (· == 32) = false := hc
      obtain ⟨_, h2⟩ := none_tw rest 32 this
      have e : (cutB 32 rest).2.1 = [] := by unfold cutB; show (rest.dropWhile _).drop 1 = []; rw [h2]; rfl
      simp [e]
theorem WS.ended {rest : List UInt8} {en : Bool} {ws : List (List UInt8)} (h : WS rest en ws) : en = decide (ws = []) := by
  unfold WS at h
  cases en with
  | true => obtain ⟨rfl, _⟩ := h; rfl
  | false =>
    have h : ws = wordsL rest := h
    subst h
    rw [decide_eq_false (wordsL_ne _)]

/-- a reader of these words -/
def LnAt (w : World) (b : Nat) (ws : List (List UInt8)) : Prop := ∃ (s : ByteArray) (en : Bool), w.heap[b]? = some (.cells #[.string s, .bool en] 82 (0, 0)) ∧ s.size ≤ 1048576 ∧ WS s.data.toList en ws ∧ (∀ x ∈ ws, x.length ≤ 1048576)
theorem txt_size (l : List UInt8) : (txt l).size = l.length := rfl
theorem head_le {ws : List (List UInt8)} (h : ∀ x ∈ ws, x.length ≤ 1048576) : (hdW ws).length ≤ 1048576 := by
  cases ws with
  | nil => exact Nat.zero_le _
  | cons x ws => exact h x List.mem_cons_self
theorem word_ws (b : Nat) (ws : List (List UInt8)) (w : World) (h : LnAt w b ws) (hT : RTabs w) :
    Calls Tryd.prog 43 #[.pointer (some ⟨b, 0, none⟩)] w fun e w' => e = .returned (.string (txt (hdW ws))) ∧ LnAt w' b ws.tail ∧ Chg (fun k => k = b) w w' := by
  obtain ⟨s, en, hm, hs, hW, hl⟩ := h
  refine (word_any b s en w hm (by omega) hT).mono ?_
  rintro e w' ⟨he, hm', hc⟩
  obtain ⟨h1, h2⟩ := word_step hW
  rw [h1] at he
  refine ⟨he, ⟨_, _, hm', ?_, h2, fun x hx => hl x (List.mem_of_mem_tail hx)⟩, hc⟩
  have := (cut_len 32 s.data.toList).2
  rw [txt_size]
  have e : s.data.toList.length = s.size := by rw [Array.length_toList]; rfl
  omega
theorem LnAt.far {w w' : World} {b : Nat} {ws : List (List UInt8)} {F : Nat → Prop} (h : LnAt w b ws) (hc : Chg F w w') (hb : ¬ F b) : LnAt w' b ws := by
  obtain ⟨s, en, hm, h2⟩ := h
  exact ⟨s, en, hc.row hm hb, h2⟩

/-- numbers ahead -/
def numsR : Nat → List (List UInt8) → Option (List Int × List (List UInt8))
  | 0, ws => some ([], ws)
  | k + 1, ws => match numW (hdW ws) with
    | none => none
    | some v => match numsR k ws.tail with
      | none => none
      | some (vs, r) => some (v :: vs, r)
def partsR : List (List UInt8) → Option (List Part)
  | [] => some []
  | x :: ws => match partOfL x with
    | none => none
    | some p => match partsR ws with
      | none => none
      | some ps => some (p :: ps)
/-- the number that a kind has at this place -/
def vAt (k : Nat) (vs : List Int) (c : Nat) : Int := (((numsOf (k : Int)).zip vs).lookup c).getD 0
def mkAct (k : Nat) (vs : List Int) (ps : List Part) : ActI := ⟨k, vAt k vs 1, vAt k vs 2, vAt k vs 3, vAt k vs 4, ps, vAt k vs 6, vAt k vs 7⟩
def finL (k : Nat) (vs : List Int) (r : List (List UInt8)) : Option ActI :=
  if k = 1 then (partsR r).map fun ps => mkAct 1 vs (ps.take 8002) else if k ≠ 0 ∧ r = [] then some (mkAct k vs []) else none
/-- P7.3: a line's act, if it is in form (of its parts as many as may count) -/
def readL (l : List UInt8) : Option ActI := match wordsL l with
  | [] => none
  | x :: ws => (numsR (numsOf ((kindL (txt x) : Nat) : Int)).length ws).bind fun p => finL (kindL (txt x)) p.1 p.2
theorem kindL_lt (s : ByteArray) : kindL s < 10 := by
  unfold kindL
  cases h : (List.range 10).find? (fun k => (wordS k).toList == s.toList) with
  | none => decide
  | some k => have := List.mem_of_find?_eq_some h; simpa using this
theorem mk_put {k : Nat} (hk : k < 10) (vs : List Int) (h : vs.length < (numsOf (k : Int)).length) (v : Int) (u : Value) :
    (#[.int .i64 (k : Int), .int .i64 (vAt k vs 1), .int .i64 (vAt k vs 2), .int .i64 (vAt k vs 3), .int .i64 (vAt k vs 4), u, .int .i64 (vAt k vs 6), .int .i64 (vAt k vs 7)] : Array Value).setIfInBounds ((numsOf (k : Int))[vs.length]) (.int .i64 v) = #[.int .i64 (k : Int), .int .i64 (vAt k (vs ++ [v]) 1), .int .i64 (vAt k (vs ++ [v]) 2), .int .i64 (vAt k (vs ++ [v]) 3), .int .i64 (vAt k (vs ++ [v]) 4), u, .int .i64 (vAt k (vs ++ [v]) 6), .int .i64 (vAt k (vs ++ [v]) 7)] := by
  obtain rfl | rfl | rfl | rfl | rfl | rfl | rfl | rfl | rfl | rfl : k = 0 ∨ k = 1 ∨ k = 2 ∨ k = 3 ∨ k = 4 ∨ k = 5 ∨ k = 6 ∨ k = 7 ∨ k = 8 ∨ k = 9 := by omega
  all_goals
    match vs, h with
    | [], h => first | rfl | (exact absurd h (by decide))
    | [_], h => first | rfl | (exact absurd h (by simp [numsOf]))
    | [_, _], h => first | rfl | (exact absurd h (by simp [numsOf]))
    | _ :: _ :: _ :: _, h => exact absurd h (by simp [numsOf])
theorem vAt_nil (k c : Nat) : vAt k [] c = 0 := by unfold vAt; rw [List.zip_nil_right]; rfl
theorem numsR_drop (k : Nat) (ws : List (List UInt8)) : numsR (k + 1) ws = (numW (hdW ws)).bind fun v => (numsR k ws.tail).map fun p => (v :: p.1, p.2) := by
  show (match numW (hdW ws) with | none => none | some v => match numsR k ws.tail with | none => none | some (vs, r) => some (v :: vs, r)) = _
  cases numW (hdW ws) with
  | none => rfl
  | some v =>
    show (match numsR k ws.tail with | none => none | some (vs, r) => some (v :: vs, r)) = (numsR k ws.tail).map _
    cases numsR k ws.tail <;> rfl

set_option maxRecDepth 100000 in
set_option maxHeartbeats 2000000 in
theorem readLine_any (s : ByteArray) (w : World) (hs : s.size ≤ 1048576) (hT : RTabs w) :
    Calls Tryd.prog 26 #[.string s] w fun e w' => (∃ (x : ActI) (va : Option Addr) (vn vc : Nat), e = .returned (.tuple #[.agg (actVals x (.slice va vn vc)).toArray, .bool (readL s.data.toList).isSome]) ∧ ∀ y, readL s.data.toList = some y → x = y ∧ w'.ownsRow w.heap.size 63 3 (.slice va vn vc) x.op.length (partCells x.op)) ∧ Below w.heap.size w w' := by
  obtain ⟨x, ws, hx⟩ : ∃ x ws, wordsL s.data.toList = x :: ws := by
    rw [wordsL_cut]; exact ⟨_, _, rfl⟩
  have hle := wordsL_le s.data.toList
  have hsl : s.data.toList.length = s.size := by rw [Array.length_toList]; rfl
  rw [hx] at hle
  obtain ⟨R, hR⟩ : ∃ R, R = readL s.data.toList := ⟨_, rfl⟩
  have HR : Hid (R = (numsR (numsOf ((kindL (txt x) : Nat) : Int)).length ws).bind fun p => finL (kindL (txt x)) p.1 p.2) := by
    show R = _
    rw [hR]; unfold readL; rw [hx]
  rw [← hR]
  clear hR
  have hrd : ∀ wx : World, ∀ b, wx.heap[b]? = some (.cells #[.string s, .bool false] 82 (0, 0)) → LnAt wx b (x :: ws) := fun wx b h => ⟨s, false, h, hs, hx.symm, fun y hy => by have := hle y hy; omega⟩
  have hk := kindL_lt (txt x)
  have cK := fun wx (hx : Below w.heap.size w wx) => kindOf_any (txt x) wx (hT.below hx).l
  clear hx hle hsl
  generalize kindL (txt x) = k at *
  have hl3 : (numsOf (k : Int)).length ≤ 3 := nums_three _
  obtain ⟨L, hL⟩ : ∃ L, numsOf (k : Int) = L := ⟨_, rfl⟩
  have hL8 : ∀ j ∈ L, j < 8 := fun j hj => nums_le (hL ▸ hj)
  have hL3 : L.length ≤ 3 := hL ▸ hl3
  have ha := heap_alloc_new w (.cells #[.int .i64 0, .int .i64 0, .int .i64 0, .int .i64 0, .int .i64 0, .slice none 0 0, .int .i64 0, .int .i64 0] 29)
  have hb0 := (Below.refl w.heap.size w).alloc (Nat.le_refl _) (.cells #[.int .i64 0, .int .i64 0, .int .i64 0, .int .i64 0, .int .i64 0, .slice none 0 0, .int .i64 0, .int .i64 0] 29)
  have hs1 : (w.alloc (.cells #[.int .i64 0, .int .i64 0, .int .i64 0, .int .i64 0, .int .i64 0, .slice none 0 0, .int .i64 0, .int .i64 0] 29)).heap.size = w.heap.size + 1 := by simp
  have hr1 := heap_alloc_new (w.alloc (.cells #[.int .i64 0, .int .i64 0, .int .i64 0, .int .i64 0, .int .i64 0, .slice none 0 0, .int .i64 0, .int .i64 0] 29)) (.cells #[.string s, .bool false] 82)
  rw [hs1] at hr1
  have ha1 := row_old ha (.cells #[.string s, .bool false] 82)
  have hb1 := hb0.alloc (by rw [hs1]; omega) (.cells #[.string s, .bool false] 82)
  clear hs1 ha hb0
  go_enter Tryd.func26, Tryd.ntmps26
  go_wp2_with fail
  generalize ((w.alloc (.cells #[.int .i64 0, .int .i64 0, .int .i64 0, .int .i64 0, .int .i64 0, .slice none 0 0, .int .i64 0, .int .i64 0] 29)).alloc (.cells #[.string s, .bool false] 82)) = w2 at *
  have cW : Calls Tryd.prog 43 #[.pointer (some ⟨w.heap.size + 1, 0, none⟩)] w2 fun e w' => e = .returned (.string (txt x)) ∧ LnAt w' (w.heap.size + 1) ws ∧ Chg (fun k => k = w.heap.size + 1) w2 w' := word_ws (w.heap.size + 1) (x :: ws) w2 (hrd _ _ hr1) (hT.below hb1)
  clear hrd hr1
  refine cW.mono ?_
  clear cW
  rintro r w3 ⟨rfl, hrd, hc3⟩
  have ha3 := hc3.row ha1 (by omega)
  have HB3 := hb1.trans (hc3.below (B := w.heap.size) (fun k e => by omega) hb1.size)
  obtain ⟨b3, bl3, bf3⟩ := blk ha3
  clear ha1 hb1 hc3
  go_wp2_with fail
  refine (cK _ HB3).mono ?_
  clear cK
  rintro r w4 ⟨rfl, rfl⟩
  obtain ⟨p1, p2⟩ := blk_put ha3 0 (.int .i64 (k : Int))
  have HB4 := HB3.trans (p2.below (B := w.heap.size) (fun k e => Nat.le_of_eq e.symm) HB3.size)
  have hrd4 := hrd.far p2 (by omega)
  have cN := numbersOf_any (k : Int) 0 0 0 0 0 0 (.slice none 0 0) w.heap.size 29 _ (by omega) p1
  clear HB3 hrd
  go_wp2_with fail
  clear b3 bf3 bl3
  generalize (w4.setCell ⟨w.heap.size, 0, none⟩ (.int .i64 (k : Int))) = w5 at *
  refine cN.mono ?_
  clear cN
  rintro e w6 ⟨v, rfl, ho, hb6⟩
  rw [hL] at ho
  obtain ⟨ra, rc, rfl⟩ := own_form ho
  have hn6 := (hb6.block _ (Array.getElem?_eq_some_iff.1 p1).1).trans p1
  have hn6' : w6.heap[w.heap.size]? = some (.cells #[.int .i64 (k : Int), .int .i64 0, .int .i64 0, .int .i64 0, .int .i64 0, .slice none 0 0, .int .i64 0, .int .i64 0] 29 (0, 0)) := hn6
  have hrd6 := hrd4.far (Chg.of_below (F := fun _ => False) hb6) (fun h => h)
  have hput : ∀ (vs : List Int) (h : vs.length < L.length) (v : Int) (u : Value), (#[.int .i64 (k : Int), .int .i64 (vAt k vs 1), .int .i64 (vAt k vs 2), .int .i64 (vAt k vs 3), .int .i64 (vAt k vs 4), u, .int .i64 (vAt k vs 6), .int .i64 (vAt k vs 7)] : Array Value).setIfInBounds (L[vs.length]) (.int .i64 v) = #[.int .i64 (k : Int), .int .i64 (vAt k (vs ++ [v]) 1), .int .i64 (vAt k (vs ++ [v]) 2), .int .i64 (vAt k (vs ++ [v]) 3), .int .i64 (vAt k (vs ++ [v]) 4), u, .int .i64 (vAt k (vs ++ [v]) 6), .int .i64 (vAt k (vs ++ [v]) 7)] := by
    subst hL
    exact fun vs h v u => mk_put hk vs h v u
  have HB6 := below_two HB4 hb6 (Nat.le_refl _)
  have hB65 := HB4.size
  have hB66 := hb6.size
  have hrl := ho.lt
  have hrc := fun g hg => ho.cells (g := g) hg
  obtain ⟨i0, hpi, hz0, hz1, hz2⟩ := info_parts info_part
  have hbl5 := (Array.getElem?_eq_some_iff.1 p1).1
  have hrl5 : w.heap.size + 1 < w5.heap.size := by
    obtain ⟨s', en', hm', _⟩ := hrd4
    exact (Array.getElem?_eq_some_iff.1 hm').1
  have cNum := fun (l : List UInt8) (wx : World) (hl : l.length ≤ 1048576) (hx : Below w.heap.size w wx) => readNumber_any (txt l) wx (by rw [txt_size]; omega) (hT.below hx)
  have cWd := fun r wx h (hx : Below w.heap.size w wx) => word_ws (w.heap.size + 1) r wx h (hT.below hx)
  clear hn6 p1 p2 hb6 hrd4 HB4
  go_wp2_with fail
  go_loopg [3, 16] L.length (fun g bo iv wr => ∃ (vs : List Int) (rs : List (List UInt8)), vs.length + g = L.length ∧ iv = .int .i64 (vs.length : Int) ∧ (∃ b, bo = .bool b) ∧ wr.heap[w.heap.size]? = some (.cells #[.int .i64 (k : Int), .int .i64 (vAt k vs 1), .int .i64 (vAt k vs 2), .int .i64 (vAt k vs 3), .int .i64 (vAt k vs 4), .slice none 0 0, .int .i64 (vAt k vs 6), .int .i64 (vAt k vs 7)] 29 (0, 0)) ∧ LnAt wr (w.heap.size + 1) rs ∧ Hid (R = (numsR g rs).bind fun p => finL k (vs ++ p.1) p.2) ∧ Below w.heap.size w wr ∧ Chg (fun j => j = w.heap.size ∨ j = w.heap.size + 1) w6 wr)
  case atStart =>
    refine ⟨[], ws, by simp, rfl, ⟨_, rfl⟩, ?_, hrd6, ?_, HB6, Chg.refl _ _⟩
    · simp only [vAt_nil]; exact hn6'
    · show R = _
      rw [HR.out, hL]; rfl
  case round =>
    obtain ⟨vs, rs, hi, rfl, ⟨bo, rfl⟩, ha, hrd, HA, HB, hc⟩ := hrel
    by_cases hlt : vs.length < L.length
    · have hiz : (vs.length : Int) < (L.length : Int) := by omega
      have hi0 : (0 : Int) ≤ (vs.length : Int) := by omega
      obtain ⟨q, hq⟩ : ∃ q, L[vs.length] = q := ⟨_, rfl⟩
      have hq8 : q < 8 := hL8 q (hq ▸ List.getElem_mem hlt)
      have hpv := fun v => hput vs hlt v (.slice none 0 0)
      simp only [hq] at hpv
      rcases ho.2 with ⟨e, h0⟩ | ⟨g, cap, cur, e, _, hg, hnc, _⟩
      · omega
      simp only [Value.slice.injEq] at e
      obtain ⟨rfl, _, rfl⟩ := e
      have hgl := hrl g rfl
      have hcell := hrc g rfl vs.length (.pointer (some ⟨w.heap.size, q, none⟩)) (by unfold ptrs; rw [List.getElem?_map, List.getElem?_eq_getElem hlt, hq]; rfl)
      rw [WideShapes.add_plain, Nat.zero_add] at hcell
      have hcw : wr.cell? ⟨g, vs.length, none⟩ = some (.pointer (some ⟨w.heap.size, q, none⟩)) := (World.cell?_of_block (hc.block g hgl.2 (by omega))).trans hcell
      clear hcell ho hrc hrl hput hn6' hrd6 HB6 HR
      go_wp2_with fail
      refine (cWd _ _ hrd HB).mono ?_
      clear cWd
      rintro e w8 ⟨rfl, hrd8, hc8⟩
      have hwl : (hdW rs).length ≤ 1048576 := by obtain ⟨_, _, _, _, _, hx⟩ := hrd; exact head_le hx
      have ha8 := hc8.row ha (by omega)
      have HB8 := HB.trans (hc8.below (B := w.heap.size) (fun k e => by omega) HB.size)
      have hC8 := hc.trans hc8 (fun _ _ h => .inr h)
      obtain ⟨g', hg'⟩ : ∃ g', gk = g' + 1 := ⟨gk - 1, by omega⟩
      have HA8 : Hid (R = ((numW (hdW rs)).bind fun v => (numsR g' rs.tail).map fun p => (v :: p.1, p.2)).bind fun p => finL k (vs ++ p.1) p.2) := by
        show R = _
        rw [HA.out, hg', numsR_drop]
      have HG : Hid (gk = g' + 1) := hg'
      clear HA hrd ha hc8 hc HB hg' hq
      obtain ⟨b8, bl8, bf8⟩ := blk ha8
      obtain ⟨uq, huq⟩ : ∃ uq, w8.cell? ⟨w.heap.size, q, none⟩ = some uq := ⟨_, (b8 q).trans (Array.getElem?_eq_getElem hq8)⟩
      clear b8
      go_wp2_with fail
      refine (cNum _ _ hwl HB8).mono ?_
      clear cNum
      rintro e w9 ⟨n, rfl, hnv, hb9⟩
      rw [txt_list] at hnv ⊢
      have ha9 := (hb9.block _ bl8).trans ha8
      have HB9 := below_two HB8 hb9 (Nat.le_refl _)
      have hC9 := hC8.trans (Chg.of_below (F := fun _ => False) hb9) (fun _ _ h => h.elim)
      have hrd9 := hrd8.far (Chg.of_below (F := fun _ => False) hb9) (fun h => h)
      have huq9 := (hb9.cell (p := ⟨w.heap.size, q, none⟩) bl8).trans huq
      obtain ⟨b9, bl9, bf9⟩ := blk ha9
      obtain ⟨p1, p2⟩ := blk_put ha9 q (.int .i64 n)
      have HB10 := HB9.trans (p2.below (B := w.heap.size) (fun k e => Nat.le_of_eq e.symm) HB9.size)
      have hC10 := hC9.trans p2 (fun _ _ h => .inl h)
      have hrd10 := hrd9.far p2 (by omega)
      clear ha8 hrd8 hC8 HB8 hwl hb9 bf8 huq bl8 ha9 hrd9 hC9 HB9 b9 p2
      rw [hpv n] at p1
      clear hpv
      cases hn : numW (hdW rs) with
      | none =>
        have hR0 : Hid (R = none) := by show R = none; rw [HA8.out, hn]; rfl
        clear HA8 hnv hn
        obtain ⟨c0, cl, cf⟩ := blk p1
        clear hC10 hrd10
        go_wp2_with fail
        obtain ⟨z1, z2⟩ := puts_all p1 [.int .i64 0, .int .i64 0, .int .i64 0, .int .i64 0, .int .i64 0, .slice none 0 0, .int .i64 0, .int .i64 0] rfl
        simp only [puts, Nat.zero_add, Nat.reduceAdd] at z1 z2
        obtain ⟨z0, _, _⟩ := blk z1
        refine bodyPost_ret (by simp [results, Tryd.results26, go_sem, z0]; rfl) rfl ?_
        exact ⟨⟨act0, none, 0, 0, by rw [hR0.out]; rfl, fun y h => by rw [hR0.out] at h; cases h⟩, HB10.trans (z2.below (B := w.heap.size) (fun k e => Nat.le_of_eq e.symm) HB10.size)⟩
      | some v =>
        obtain rfl := hnv v hn
        have HA9 : Hid (R = (numsR g' rs.tail).bind fun p => finL k ((vs ++ [n]) ++ p.1) p.2) := by
          show R = _
          rw [HA8.out, hn]
          show ((numsR g' rs.tail).map fun p => (n :: p.1, p.2)).bind _ = _
          cases numsR g' rs.tail with
          | none => rfl
          | some p => simp
        clear HA8 hnv hn
        go_wp2_with fail
        go_roundg g'
        case measure => have := HG.out; omega
        case rel =>
          have hvl : (vs ++ [n]).length = vs.length + 1 := by simp
          exact ⟨vs ++ [n], rs.tail, by have := HG.out; omega, by rw [hvl]; go_num, ⟨_, rfl⟩, p1, hrd10, HA9, HB10, hC10⟩
    · have hiz : ¬ (vs.length : Int) < (L.length : Int) := by omega
      obtain rfl : gk = 0 := by omega
      have HA1 : Hid (R = finL k vs rs) := by show R = _; rw [HA.out]; show finL k (vs ++ []) rs = _; rw [List.append_nil]
      clear HA ho hrc hrl hput hn6' hrd6 HB6 HR hc hL8 hi cNum
      obtain ⟨a0, al, af⟩ := blk ha
      obtain ⟨sr, er, hmr, hsr, hWr, hlr⟩ := hrd
      obtain ⟨d0, dl, df⟩ := blk hmr
      have her := hWr.ended
      by_cases hk1 : k = 1
      · have HA2 : Hid (R = (partsR rs).map fun us => mkAct k vs (([] ++ us).take 8002)) := by show R = _; rw [HA1.out]; unfold finL; rw [if_pos hk1, hk1]; rfl
        have hkz : ((k : Int) == 1) = true := by rw [hk1]; rfl
        have hk0z : ((k : Int) != 0) = true := by rw [hk1]; rfl
        have hrd : LnAt wr (w.heap.size + 1) rs := ⟨sr, er, hmr, hsr, hWr, hlr⟩
        have cPart := fun (l : List UInt8) (wx : World) (hl : l.length ≤ 1048576) (hx : Below w.heap.size w wx) => readPart_any (txt l) wx (by rw [txt_size]; omega) (hT.below hx)
        clear HA1 hk1 her hWr hlr hsr hmr d0 dl df hT
        go_wp2_with fail
        go_loopg [3] rs.length (fun g bq wq => ∃ (ps : List Part) (rq : List (List UInt8)) (ov : Value), rq.length = g ∧ (∃ b, bq = .bool b) ∧ wq.heap[w.heap.size]? = some (.cells #[.int .i64 (k : Int), .int .i64 (vAt k vs 1), .int .i64 (vAt k vs 2), .int .i64 (vAt k vs 3), .int .i64 (vAt k vs 4), ov, .int .i64 (vAt k vs 6), .int .i64 (vAt k vs 7)] 29 (0, 0)) ∧ LnAt wq (w.heap.size + 1) rq ∧ wq.ownsRow w.heap.size 63 3 ov (ps.take 8002).length (partCells (ps.take 8002)) ∧ Hid (R = (partsR rq).map fun us => mkAct k vs ((ps ++ us).take 8002)) ∧ Below w.heap.size w wq)
        case atStart => exact ⟨[], rs, .slice none 0 0, rfl, ⟨_, rfl⟩, ha, hrd, World.ownsRow_nil _ _ _ _, HA2, HB⟩
        case round =>
          obtain ⟨ps, rq, ov, hgk, ⟨bq, rfl⟩, ha, hrd, ho, HA, HB⟩ := hrel
          clear a0 al af HA2
          obtain ⟨oa, oc, rfl⟩ := own_form ho
          obtain ⟨a0, al, af⟩ := blk ha
          obtain ⟨sr, er, hmr, hsr, hWr, hlr⟩ := id hrd
          obtain ⟨d0, dl, df⟩ := blk hmr
          have her := hWr.ended
          have HE : Hid (er = decide (rq = [])) := her
          have hwl := head_le hlr
          have hl2 : (ps.take 8002).length ≤ 8002 := by rw [List.length_take]; omega
          cases rq with
          | nil =>
            have he : er = true := her
            have hfin : Hid (R = some (mkAct k vs (ps.take 8002))) := by show R = _; rw [HA.out]; show some (mkAct k vs ((ps ++ []).take 8002)) = _; rw [List.append_nil]
            obtain ⟨z1, z2⟩ := puts_all ha [.int .i64 (k : Int), .int .i64 (vAt k vs 1), .int .i64 (vAt k vs 2), .int .i64 (vAt k vs 3), .int .i64 (vAt k vs 4), .slice oa (ps.take 8002).length oc, .int .i64 (vAt k vs 6), .int .i64 (vAt k vs 7)] rfl
            simp only [puts, Nat.zero_add, Nat.reduceAdd] at z1 z2
            have HB2 := HB.trans (z2.below (B := w.heap.size) (fun k e => Nat.le_of_eq e.symm) HB.size)
            have ho2 := own_chg ho z2 (fun j hj e => row_ne ho ha (by decide) (by rw [hj, e]))
            subst he
            clear her hWr hlr hsr hmr hrd HA HE z1 z2 cPart cWd hwl
            generalize ps.take 8002 = os at *
            go_wp2_with fail
            refine bodyPost_ret (by simp [results, Tryd.results26, go_sem, a0]; rfl) rfl ?_
            exact ⟨⟨mkAct k vs os, oa, os.length, oc, by rw [hfin.out]; rfl, fun y h => by rw [hfin.out] at h; cases h; exact ⟨rfl, ho2⟩⟩, HB2⟩
          | cons y rq =>
            have he : er = false := her
            subst he
            have hne := row_ne ho hmr (by decide)
            clear her hWr hlr hsr hmr HE
            obtain ⟨os, hos⟩ : ∃ os, os = ps.take 8002 := ⟨_, rfl⟩
            have HO : Hid (os = ps.take 8002) := hos
            rw [← hos] at ha ho hl2 hne
            simp only [← hos] at a0
            clear hos
            have cW : Calls Tryd.prog 43 #[.pointer (some ⟨w.heap.size + 1, 0, none⟩)] wr fun e w' => e = .returned (.string (txt y)) ∧ LnAt w' (w.heap.size + 1) rq ∧ Chg (fun k => k = w.heap.size + 1) wr w' := cWd (y :: rq) wr hrd HB
            have hyl : y.length ≤ 1048576 := hwl
            have HG : Hid (rq.length + 1 = gk) := hgk
            clear cWd hwl hgk hrd
            go_wp2_with fail
            refine cW.mono ?_
            clear cW
            rintro e w8 ⟨rfl, hrd8, hc8⟩
            have ha8 := hc8.row ha (by omega)
            have HB8 := HB.trans (hc8.below (B := w.heap.size) (fun k e => by omega) HB.size)
            have ho8 := own_chg ho hc8 (fun j hj e => hne (by rw [hj, e]))
            clear ha ho a0 d0 df af dl al hc8 HB
            go_wp2_with fail
            refine (cPart _ _ hyl HB8).mono ?_
            clear cPart
            rintro e w9 ⟨⟨p, rfl, hpv⟩, hb9⟩
            rw [txt_list] at hpv ⊢
            have ha9 := (hb9.block _ (Array.getElem?_eq_some_iff.1 ha8).1).trans ha8
            have HB9 := below_two HB8 hb9 (Nat.le_refl _)
            have hrd9 := hrd8.far (Chg.of_below (F := fun _ => False) hb9) (fun h => h)
            have ho9 := own_below ho8 hb9
            obtain ⟨a0, al, af⟩ := blk ha9
            obtain ⟨kd, pn, tx⟩ := p
            clear ha8 hrd8 ho8 HB8 hb9
            cases hn : partOfL y with
            | none =>
              have hR0 : Hid (R = none) := by
                show R = none
                rw [HA.out]
                show (match partOfL y with | none => none | some p => match partsR rq with | none => none | some ps => some (p :: ps)).map _ = none
                rw [hn]; rfl
              clear HA hpv hn
              obtain ⟨z1, z2⟩ := puts_all ha9 [.int .i64 0, .int .i64 0, .int .i64 0, .int .i64 0, .int .i64 0, .slice none 0 0, .int .i64 0, .int .i64 0] rfl
              simp only [puts, Nat.zero_add, Nat.reduceAdd] at z1 z2
              have HBz := HB9.trans (z2.below (B := w.heap.size) (fun k e => Nat.le_of_eq e.symm) HB9.size)
              have HBz2 := HBz.alloc HBz.size (.cells #[.int .i64 kd, .int .i64 pn, .string tx] 63)
              obtain ⟨z0, _, _⟩ := blk (row_old z1 (.cells #[.int .i64 kd, .int .i64 pn, .string tx] 63))
              clear hrd9 ho9 hne
              go_wp2_with fail
              refine bodyPost_ret (by simp [results, Tryd.results26, go_sem, z0]; rfl) rfl ?_
              exact ⟨⟨act0, none, 0, 0, by rw [hR0.out]; rfl, fun y h => by rw [hR0.out] at h; cases h⟩, HBz2⟩
            | some q =>
              obtain rfl := hpv q hn
              have HA9 : Hid (R = (partsR rq).map fun us => mkAct k vs ((ps ++ [(⟨kd, pn, tx⟩ : Part)] ++ us).take 8002)) := by
                show R = _
                rw [HA.out]
                show (match partOfL y with | none => none | some p => match partsR rq with | none => none | some ps => some (p :: ps)).map _ = _
                rw [hn]
                cases partsR rq with
                | none => rfl
                | some us => simp
              have hs1 : (w9.alloc (.cells #[.int .i64 kd, .int .i64 pn, .string tx] 63)).heap.size = w9.heap.size + 1 := by simp
              have hnew := heap_alloc_new (w9.alloc (.cells #[.int .i64 kd, .int .i64 pn, .string tx] 63)) (.cells #[.int .i64 kd, .int .i64 pn, .string tx] 63)
              rw [hs1] at hnew
              have hs2 : w9.heap.size + 1 < ((w9.alloc (.cells #[.int .i64 kd, .int .i64 pn, .string tx] 63)).alloc (.cells #[.int .i64 kd, .int .i64 pn, .string tx] 63)).heap.size := by simp
              have hBz := HB9.size
              clear hpv hn hs1 HA
              by_cases hol : os.length < 8002
              · have hoz : (os.length : Int) ≤ 8001 := by omega
                go_wp2_with (at_builtin; refine wpList_append_lies _ rfl _ _ 25 rfl w.heap.size 63 i0 _ 3 32 Tryd.underlying25 hpi hz0 hz1 hz2 rfl (by decide) _ _ _ rfl ((ho9.alloc _).alloc _) ⟨w9.heap.size + 1, 0, none⟩ 1 1 [.int .i64 kd, .int .i64 pn, .string tx] rfl rfl (World.news_of_block (cs := #[.int .i64 kd, .int .i64 pn, .string tx]) (t := 63) (fr := (0, 0)) hnew) (by simp [Value.oneCell']) (by omega) (by unfold maxLen; omega) (by omega) (by omega) _ rfl ?_; intro g1 cap1 w3 hown3 hgr3 hat3 hlt3; have a3 := row_kept ((ho9.alloc _).alloc _) (row_old (row_old ha9 _) _) (by decide) hgr3; have b3 := blk a3; obtain ⟨c0, cl, cf⟩ := b3)
                obtain ⟨p1, p2⟩ := blk_put a3 5 (.slice (some ⟨g1, 0, none⟩) (os.length + 1) cap1)
                have hch : Chg (fun j => j = w.heap.size ∨ (Value.slice oa os.length oc).ownBlock = some j) w9 (w3.setCell ⟨w.heap.size, 5, none⟩ (.slice (some ⟨g1, 0, none⟩) (os.length + 1) cap1)) := ((((Chg.refl _ w9).alloc _).alloc _).grown hgr3 (fun j _ e => .inr e)).trans p2 (fun _ _ h => .inl h)
                have hrd' := hrd9.far hch (fun h => h.elim (by omega) (fun e => hne e.symm))
                have hA1 := HB9.alloc hBz (.cells #[.int .i64 kd, .int .i64 pn, .string tx] 63)
                have hA2 := hA1.alloc hA1.size (.cells #[.int .i64 kd, .int .i64 pn, .string tx] 63)
                have hB3 := hA2.grown hgr3 hA2.size (fun j e => (ho9.lt j e).1)
                have hB4 := hB3.trans (p2.below (B := w.heap.size) (fun k e => Nat.le_of_eq e.symm) hB3.size)
                have hown4 := own_chg hown3 p2 (fun j hj e => row_ne hown3 a3 (by decide) (by rw [hj, e]))
                go_roundg rq.length
                case measure => have := HG.out; omega
                case rel =>
                  have hps : (ps ++ [(⟨kd, pn, tx⟩ : Part)]).take 8002 = os ++ [(⟨kd, pn, tx⟩ : Part)] := by
                    have h1 := HO.out
                    have h2 := congrArg List.length h1
                    rw [List.length_take] at h2
                    have h3 : ps.take 8002 = ps := List.take_of_length_le (by omega)
                    rw [h3] at h1
                    rw [h1, List.take_of_length_le]
                    rw [List.length_append, List.length_singleton]; omega
                  refine ⟨ps ++ [(⟨kd, pn, tx⟩ : Part)], rq, .slice (some ⟨g1, 0, none⟩) (os.length + 1) cap1, rfl, ⟨_, rfl⟩, p1, hrd', ?_, HA9, hB4⟩
                  rw [hps, List.length_append, List.length_singleton, partCells_append, partCells_one]
                  exact hown4
              · have hoz : ¬ (os.length : Int) ≤ 8001 := by omega
                go_wp2_with fail
                go_roundg rq.length
                case measure => have := HG.out; omega
                case rel =>
                  have hps : (ps ++ [(⟨kd, pn, tx⟩ : Part)]).take 8002 = os := by
                    have h1 := HO.out
                    have h2 := congrArg List.length h1
                    rw [List.length_take] at h2
                    rw [List.take_append_of_le_length (by omega), h1]
                  refine ⟨ps ++ [(⟨kd, pn, tx⟩ : Part)], rq, .slice oa os.length oc, rfl, ⟨_, rfl⟩, row_old ha9 _, hrd9.far ((Chg.refl (fun _ => False) w9).alloc _) (fun h => h), ?_, HA9, HB9.alloc hBz _⟩
                  rw [hps]
                  exact ho9.alloc _
      · have HA2 : Hid (R = if k ≠ 0 ∧ rs = [] then some (mkAct k vs []) else none) := by show R = _; rw [HA1.out]; unfold finL; rw [if_neg hk1]
        have hkz : ((k : Int) == 1) = false := by simp; omega
        clear HA1
        have HE : Hid (er = decide (rs = [])) := her
        clear her hWr hlr hsr
        go_wp2_with fail
        go_loopg [3] 0 (fun g bq wq => g = 0 ∧ wr = wq ∧ ∃ b, bq = .bool b)
        case atStart => exact ⟨rfl, rfl, _, rfl⟩
        case round =>
          obtain ⟨rfl, rfl, bq, rfl⟩ := hrel
          obtain ⟨z1, z2⟩ := puts_all ha [.int .i64 (k : Int), .int .i64 (vAt k vs 1), .int .i64 (vAt k vs 2), .int .i64 (vAt k vs 3), .int .i64 (vAt k vs 4), .slice none 0 0, .int .i64 (vAt k vs 6), .int .i64 (vAt k vs 7)] rfl
          simp only [puts, Nat.zero_add, Nat.reduceAdd] at z1 z2
          have HB2 := HB.trans (z2.below (B := w.heap.size) (fun k e => Nat.le_of_eq e.symm) HB.size)
          have hown : ∀ wx : World, wx.ownsRow w.heap.size 63 3 (.slice none 0 0) 0 [] := fun wx => World.ownsRow_nil _ _ _ _
          by_cases hk0 : k = 0
          · have hR0 : Hid (R = none) := by show R = none; rw [HA2.out]; exact if_neg (fun h => h.1 hk0)
            have hk0z : ((k : Int) != 0) = false := by rw [hk0]; rfl
            clear HA2 HE z1 z2 hk0
            go_wp2_with fail
            all_goals
              refine bodyPost_ret (by simp [results, Tryd.results26, go_sem, a0]; rfl) rfl ?_
              exact ⟨⟨mkAct k vs [], none, 0, 0, by rw [hR0.out]; rfl, fun y h => by rw [hR0.out] at h; cases h⟩, HB2⟩
          · have hk0z : ((k : Int) != 0) = true := by simp; omega
            cases er with
            | false =>
              have hR0 : Hid (R = none) := by
                show R = none; rw [HA2.out]
                refine if_neg (fun h => ?_)
                have := HE.out; rw [decide_eq_true h.2] at this; cases this
              clear HA2 HE z1 z2
              go_wp2_with fail
              all_goals
                refine bodyPost_ret (by simp [results, Tryd.results26, go_sem, a0]; rfl) rfl ?_
                exact ⟨⟨mkAct k vs [], none, 0, 0, by rw [hR0.out]; rfl, fun y h => by rw [hR0.out] at h; cases h⟩, HB2⟩
            | true =>
              have hR0 : Hid (R = some (mkAct k vs [])) := by
                show R = _; rw [HA2.out]
                exact if_pos ⟨hk0, of_decide_eq_true HE.out.symm⟩
              clear HA2 HE z1 z2
              go_wp2_with fail
              all_goals
                refine bodyPost_ret (by simp [results, Tryd.results26, go_sem, a0]; rfl) rfl ?_
                exact ⟨⟨mkAct k vs [], none, 0, 0, by rw [hR0.out]; rfl, fun y h => by rw [hR0.out] at h; cases h; exact ⟨rfl, hown _⟩⟩, HB2⟩

/-- what is read, line by line -/
def readA (n : Int) : Nat → List ActI → List UInt8 → List ActI × Nat × Int
  | 0, _, _ => ([], 0, 0)
  | g + 1, D, s => if s = [] then (D, 0, 0) else if D.length = 3000 then ([], D.length, 1) else match readL (cutB 10 s).1 with
    | none => ([], D.length, 4)
    | some a => if (cutB 10 s).2.2 = false then ([], D.length, 4) else if actErr n a.v ≠ 0 then ([], D.length, actErr n a.v) else readA n g (D ++ [a]) (cutB 10 s).2.1
/-- P7.3 -/
def readX (T : List Int) (s : List UInt8) : List ActI × Nat × Int := if treeErr T ≠ 0 then ([], 0, treeErr T) else readA T.length (s.length + 1) [] s
theorem readA_succ (n : Int) (g : Nat) (D : List ActI) (s : List UInt8) : readA n (g + 1) D s = if s = [] then (D, 0, 0) else if D.length = 3000 then ([], D.length, 1) else match readL (cutB 10 s).1 with
    | none => ([], D.length, 4)
    | some a => if (cutB 10 s).2.2 = false then ([], D.length, 4) else if actErr n a.v ≠ 0 then ([], D.length, actErr n a.v) else readA n g (D ++ [a]) (cutB 10 s).2.1 := rfl
theorem cut_less {c : UInt8} {s : List UInt8} (h : (cutB c s).2.2 = true) : (cutB c s).2.1.length < s.length := by
  have h1 : (s.takeWhile (· != c)).length + (s.dropWhile (· != c)).length = s.length := by rw [← List.length_append, List.takeWhile_append_dropWhile]
  have h2 : s.dropWhile (· != c) ≠ [] := by
    intro h0
    have h3 := List.takeWhile_append_dropWhile (p := (· != c)) (l := s)
    rw [h0, List.append_nil] at h3
    have h4 : s.any (· == c) = true := h
    obtain ⟨x, hx, he⟩ := List.any_eq_true.1 h4
    rw [← h3] at hx
    have : (x != c) = true := by
      have := List.all_takeWhile (p := (· != c)) (l := s)
      exact List.all_eq_true.1 this x hx
    simp [bne, he] at this
  show ((s.dropWhile (· != c)).drop 1).length < _
  have h5 : 0 < (s.dropWhile (· != c)).length := List.length_pos_iff.2 h2
  rw [List.length_drop]
  omega
theorem txt_data (s : ByteArray) : txt s.data.toList = s := by
  unfold txt; rw [Array.toArray_toList]

theorem numW_bounds {l : List UInt8} {v : Int} (h : numW l = some v) : -9223372036854775808 ≤ v ∧ v ≤ 9223372036854775807 := by
  unfold numW at h
  split at h
  · rename_i v' hA
    split at h
    · cases h; exact Lib.atoiAll_bounds hA
    · cases h
  · cases h
theorem unhexL_len : ∀ (l : List UInt8) (t : List Nat), unhexL l = some t → 2 * t.length = l.length
  | [], t, h => by cases h; rfl
  | [_], t, h => by cases h
  | a :: b :: r, t, h => by
    rw [unhexL_two] at h
    split at h
    · rename_i x y l hx hy hl
      cases h
      have := unhexL_len r l hl
      simp only [List.length_cons]; omega
    · cases h
theorem partOfL_ok {x : List UInt8} {p : Part} {M : Nat} (h : partOfL x = some p) (hx : x.length ≤ M) : PartOk M p ∧ (p.kind = 1 ∨ p.kind = 2 ∨ p.kind = 3) := by
  unfold partOfL at h
  split at h
  · cases h
  · rename_i c r
    simp only [List.length_cons] at hx
    split at h
    · obtain ⟨v, hv, rfl⟩ := Option.map_eq_some_iff.1 h
      exact ⟨⟨(show -9223372036854775808 ≤ (1 : Int) ∧ (1 : Int) ≤ 9223372036854775807 by decide), numW_bounds hv, Nat.zero_le _⟩, .inl rfl⟩
    · split at h
      · obtain ⟨v, hv, rfl⟩ := Option.map_eq_some_iff.1 h
        exact ⟨⟨(show -9223372036854775808 ≤ (3 : Int) ∧ (3 : Int) ≤ 9223372036854775807 by decide), numW_bounds hv, Nat.zero_le _⟩, .inr (.inr rfl)⟩
      · split at h
        · obtain ⟨t, ht, rfl⟩ := Option.map_eq_some_iff.1 h
          refine ⟨⟨(show -9223372036854775808 ≤ (2 : Int) ∧ (2 : Int) ≤ 9223372036854775807 by decide), (show -9223372036854775808 ≤ (0 : Int) ∧ (0 : Int) ≤ 9223372036854775807 by decide), ?_⟩, .inr (.inl rfl)⟩
          show (bstr t).size ≤ M
          rw [bstr_size]
          have := unhexL_len r t ht
          omega
        · cases h
theorem partsR_ok : ∀ (ws : List (List UInt8)) (ps : List Part) (M : Nat), partsR ws = some ps → (∀ x ∈ ws, x.length ≤ M) → ∀ p ∈ ps, PartOk M p
  | [], ps, M, h, _ => by cases h; intro p hp; simp at hp
  | x :: ws, ps, M, h, hx => by
    unfold partsR at h
    split at h
    · cases h
    · rename_i q hq
      split at h
      · cases h
      · rename_i qs hqs
        cases h
        intro p hp
        rcases List.mem_cons.1 hp with rfl | hp
        · exact (partOfL_ok hq (hx x List.mem_cons_self)).1
        · exact partsR_ok ws qs M hqs (fun y hy => hx y (List.mem_cons_of_mem _ hy)) p hp
theorem numsR_ok : ∀ (k : Nat) (ws : List (List UInt8)) (vs : List Int) (r : List (List UInt8)), numsR k ws = some (vs, r) → (∀ v ∈ vs, -9223372036854775808 ≤ v ∧ v ≤ 9223372036854775807) ∧ (∀ x ∈ r, x ∈ ws) ∧ vs.length = k
  | 0, ws, vs, r, h => by cases h; exact ⟨fun v hv => by simp at hv, fun x hx => hx, rfl⟩
  | k + 1, ws, vs, r, h => by
    rw [numsR_drop] at h
    obtain ⟨v, hv, h⟩ := Option.bind_eq_some_iff.1 h
    obtain ⟨p, hp, h⟩ := Option.map_eq_some_iff.1 h
    cases h
    obtain ⟨h1, h2, h3⟩ := numsR_ok k ws.tail p.1 p.2 hp
    refine ⟨fun u hu => ?_, fun x hx => List.mem_of_mem_tail (h2 x hx), by simp [h3]⟩
    rcases List.mem_cons.1 hu with rfl | hu
    · exact numW_bounds hv
    · exact h1 u hu
theorem lookup_zip : ∀ (L : List Nat) (vs : List Int) (c : Nat) (v : Int), (L.zip vs).lookup c = some v → v ∈ vs
  | [], vs, c, v, h => by simp at h
  | _ :: _, [], c, v, h => by simp at h
  | x :: L, u :: vs, c, v, h => by
    rw [List.zip_cons_cons, List.lookup_cons] at h
    split at h
    · cases h; exact List.mem_cons_self
    · exact List.mem_cons_of_mem _ (lookup_zip L vs c v h)
theorem vAt_ok {k : Nat} {vs : List Int} (h : ∀ v ∈ vs, -9223372036854775808 ≤ v ∧ v ≤ 9223372036854775807) (c : Nat) : -9223372036854775808 ≤ vAt k vs c ∧ vAt k vs c ≤ 9223372036854775807 := by
  unfold vAt
  cases hl : ((numsOf (k : Int)).zip vs).lookup c with
  | none => exact ⟨by decide, by decide⟩
  | some v => exact h v (lookup_zip _ _ _ _ hl)
theorem mkAct_small {k : Nat} {vs : List Int} {ps : List Part} (hk : k < 10) (hv : ∀ v ∈ vs, -9223372036854775808 ≤ v ∧ v ≤ 9223372036854775807) (hp : OpSmall ps) : ActSmall (mkAct k vs ps) := by
  refine ⟨hp, fun n hn => ?_⟩
  have hn : n ∈ [((k : Int)), vAt k vs 1, vAt k vs 2, vAt k vs 3, vAt k vs 4, vAt k vs 6, vAt k vs 7] := hn
  simp only [List.mem_cons, List.not_mem_nil, or_false] at hn
  rcases hn with rfl | rfl | rfl | rfl | rfl | rfl | rfl
  · omega
  all_goals exact vAt_ok hv _
/-- an act that was read is small -/
theorem readL_small {l : List UInt8} {a : ActI} (h : readL l = some a) (hl : l.length ≤ 1048576) : ActSmall a := by
  have hw := wordsL_le l
  unfold readL at h
  split at h
  · cases h
  · rename_i x ws he
    rw [he] at hw
    obtain ⟨⟨vs, r⟩, hn, h⟩ := Option.bind_eq_some_iff.1 h
    obtain ⟨h1, h2, _⟩ := numsR_ok _ _ _ _ hn
    have hk := kindL_lt (txt x)
    unfold finL at h
    split at h
    · obtain ⟨ps, hp, rfl⟩ := Option.map_eq_some_iff.1 h
      refine mkAct_small (by decide) h1 ⟨by rw [List.length_take]; omega, fun p hp' => ?_⟩
      exact partsR_ok r ps 1048576 hp (fun y hy => by have := hw y (List.mem_cons_of_mem _ (h2 y hy)); omega) p (List.mem_of_mem_take hp')
    · split at h
      · cases h
        exact mkAct_small hk h1 ⟨Nat.zero_le _, fun p hp => by simp at hp⟩
      · cases h

set_option maxRecDepth 100000 in
set_option maxHeartbeats 2000000 in
theorem read_any (T : List Int) (ta : Option Addr) (tc : Nat) (s : ByteArray) (w : World) (hin : Ints w ta T) (hs : s.size ≤ 1048576) (hT : RTabs w) (R : List ActI × Nat × Int) (hR : R = readX T s.data.toList) :
    Calls Tryd.prog 12 #[.slice ta T.length tc, .string s] w (fun e w' => (∃ (K : List ActK) (v : Value), e = .returned (.tuple #[v, .int .i64 (R.2.1 : Int), .int .i64 R.2.2]) ∧ RowK actS w' w.heap.size v K ∧ K.map (·.1) = R.1 ∧ K.length ≤ 3000 ∧ ∀ x ∈ K, ActSmall x.1) ∧ Below w.heap.size w w') := by
  have cT := checkTree_any T ta tc w hin
  by_cases ht : treeErr T = 0
  rotate_left
  · have e : R = ([], 0, treeErr T) := by rw [hR]; unfold readX; rw [if_pos ht]
    rw [e]
    clear e hin hT hR
    have g : (treeErr T != 0) = true := by simpa using ht
    generalize treeErr T = E at *
    go_enter Tryd.func12, Tryd.ntmps12
    go_wp2_with fail
    refine cT.mono ?_
    rintro r w1 ⟨rfl, hw⟩
    rw [hw]
    clear hw w1 cT
    go_wp2_with fail
    go_ret3
    exact ⟨⟨[], _, rfl, rowK_nil _ _ _, rfl, Nat.zero_le _, fun x hx => by simp at hx⟩, Below.refl _ _⟩
  have hT7 := (treeErr_zero ht).1.2
  have HR : Hid (R = readA T.length (s.size + 1) [] s.data.toList) := by
    show R = _
    rw [hR]; unfold readX; rw [if_neg (fun k => k ht)]
    have : s.data.toList.length = s.size := by rw [Array.length_toList]; rfl
    rw [this]
  rw [ht] at cT
  clear hR ht hin
  have hsl : s.data.toList.length = s.size := by rw [Array.length_toList]; rfl
  obtain ⟨l0, hl0⟩ : ∃ l, l = s.data.toList := ⟨_, rfl⟩
  have hst : s = txt l0 := by rw [hl0]; exact (txt_data s).symm
  rw [← hl0] at HR hsl
  have hs2 : l0.length ≤ 1048576 := by omega
  rw [← hsl] at HR
  clear hsl hl0
  subst hst
  clear hs
  go_enter Tryd.func12, Tryd.ntmps12
  go_wp2_with fail
  refine cT.mono ?_
  rintro r w1 ⟨rfl, hw⟩
  rw [hw]
  clear hw w1 cT
  go_wp2_with fail
  go_loopg [1, 8] (l0.length + 1) (fun g sv lv wr => ∃ (l : List UInt8) (K : List ActK), sv = .string (txt l) ∧ l.length < g ∧ RowK actS wr w.heap.size lv K ∧ K.length ≤ 3000 ∧ (∀ x ∈ K, ActSmall x.1) ∧ Hid (R = readA T.length g (K.map (·.1)) l) ∧ l.length ≤ 1048576 ∧ Below w.heap.size w wr)
  case atStart => exact ⟨l0, [], rfl, by omega, rowK_nil _ _ _, Nat.zero_le _, fun x hx => by simp at hx, HR, hs2, Below.refl _ _⟩
  case round =>
    obtain ⟨l, K, rfl, hlg, hK, hK3, hsm, HA, hl, HB⟩ := hrel
    obtain ⟨g', hg'⟩ : ∃ g', gk = g' + 1 := ⟨gk - 1, by omega⟩
    obtain ⟨la, lc, rfl⟩ := own_form hK.row
    have HA1 := HA.out
    rw [hg', readA_succ] at HA1
    have hml : (K.map (·.1)).length = K.length := List.length_map _
    rw [hml] at HA1
    have HG : Hid (gk = g' + 1) := hg'
    have HKm : ∀ x : ActK, (K ++ [x]).map (·.1) = K.map (·.1) ++ [x.1] := fun x => by rw [List.map_append]; rfl
    clear HA hg' hml
    by_cases h0 : l = []
    · have hg : (txt l).toList.isEmpty = true := by rw [h0, Lib.toList_data]; rfl
      have hfin : Hid (R = (K.map (·.1), 0, 0)) := by show R = _; rw [HA1, if_pos h0]
      clear HA1 h0 HKm hT
      go_wp2_with fail
      go_ret3
      exact ⟨⟨K, _, by rw [hfin.out]; rfl, hK, by rw [hfin.out], hK3, hsm⟩, HB⟩
    have hg : (txt l).toList.isEmpty = false := by rw [Lib.toList_data]; cases l with | nil => exact absurd rfl h0 | cons a b => rfl
    rw [if_neg h0] at HA1
    by_cases h3 : K.length = 3000
    · have h3z : ((K.length : Int) == 3000) = true := by rw [h3]; rfl
      have hfin : Hid (R = ([], K.length, 1)) := by show R = _; rw [HA1, if_pos h3]
      clear HA1 h0 HKm hT h3 hlg
      go_wp2_with fail
      go_ret3
      exact ⟨⟨[], _, by rw [hfin.out]; rfl, rowK_nil _ _ _, by rw [hfin.out]; rfl, Nat.zero_le _, fun x hx => by simp at hx⟩, HB⟩
    have h3z : ((K.length : Int) == 3000) = false := by simp; omega
    rw [if_neg h3] at HA1
    have cC := cut_any (txt l) 10 wr (by rw [txt_size]; omega) (hT.below HB)
    rw [txt_list] at cC
    have hc1 := (cut_len 10 l).1
    have hc2 := (cut_len 10 l).2
    have hcl := fun h => @cut_less 10 l h
    generalize cutB 10 l = C at *
    obtain ⟨c1, c2, c3⟩ := C
    simp only at cC hc1 hc2 hcl HA1
    have cL := fun (wx : World) (hx : Below w.heap.size w wx) => readLine_any (txt c1) wx (by rw [txt_size]; omega) (hT.below hx)
    simp only [txt_list] at cL
    have hsl := fun a (h : readL c1 = some a) => readL_small h (by omega)
    generalize readL c1 = Q at *
    have HA2 : Hid (R = match (motive := Option ActI → List ActI × Nat × Int) Q with
      | none => ([], K.length, 4)
      | some a => if c3 = false then ([], K.length, 4) else if actErr (T.length : Int) a.v ≠ 0 then ([], K.length, actErr (T.length : Int) a.v) else readA T.length g' (K.map (·.1) ++ [a]) c2) := HA1
    clear HA1 h0
    go_wp2_with fail
    refine cC.mono ?_
    clear cC
    rintro e w1 ⟨rfl, hb1⟩
    have HB1 := below_two HB hb1 (Nat.le_refl _)
    have hK1 := hK.below hb1
    clear hK hb1 HB
    go_wp2_with fail
    refine (cL _ HB1).mono ?_
    clear cL
    rintro e w2 ⟨⟨x, va, vn, vc, rfl, hxv⟩, hb2⟩
    have HB2 := below_two HB1 hb2 (Nat.le_refl _)
    have hK2 := hK1.below hb2
    have hB21 := hb2.size
    have hB1s := HB1.size
    clear hK1 hb2
    obtain ⟨kd, nd, tw, pk, kp, op, an, hd⟩ := x
    rw [show (actVals ⟨kd, nd, tw, pk, kp, op, an, hd⟩ (.slice va vn vc)).toArray = #[.int .i64 kd, .int .i64 nd, .int .i64 tw, .int .i64 pk, .int .i64 kp, .slice va vn vc, .int .i64 an, .int .i64 hd] from rfl]
    have hz := heap_alloc_new w2 (.cells #[.int .i64 0, .int .i64 0, .int .i64 0, .int .i64 0, .int .i64 0, .slice none 0 0, .int .i64 0, .int .i64 0] 29)
    obtain ⟨z0, zl, zf⟩ := blk hz
    have HB4 := HB2.alloc HB2.size (.cells #[.int .i64 kd, .int .i64 nd, .int .i64 tw, .int .i64 pk, .int .i64 kp, .slice va vn vc, .int .i64 an, .int .i64 hd] 29)
    cases Q with
    | none =>
      have hfin : Hid (R = ([], K.length, 4)) := HA2
      clear HA2 hT hxv HKm hsl hcl
      cases c3
      all_goals
        go_wp2_with fail
        go_ret3
        exact ⟨⟨[], _, by rw [hfin.out]; rfl, rowK_nil _ _ _, by rw [hfin.out]; rfl, Nat.zero_le _, fun x hx => by simp at hx⟩, HB4⟩
    | some q =>
      obtain ⟨rfl, hov⟩ := hxv q rfl
      have hsx := hsl _ rfl
      cases c3 with
      | false =>
        have hfin : Hid (R = ([], K.length, 4)) := HA2
        clear HA2 hT hxv HKm hsl hcl hov
        go_wp2_with fail
        go_ret3
        exact ⟨⟨[], _, by rw [hfin.out]; rfl, rowK_nil _ _ _, by rw [hfin.out]; rfl, Nat.zero_le _, fun x hx => by simp at hx⟩, HB4⟩
      | true =>
        obtain ⟨_, _, ev, hop2⟩ := own_opAt hov
        cases ev
        have hlt := hcl rfl
        have hz4 := heap_alloc_new w2 (.cells #[.int .i64 kd, .int .i64 nd, .int .i64 tw, .int .i64 pk, .int .i64 kp, .slice va op.length vc, .int .i64 an, .int .i64 hd] 29)
        have hb24 := (Below.refl w2.heap.size w2).alloc (Nat.le_refl _) (.cells #[.int .i64 kd, .int .i64 nd, .int .i64 tw, .int .i64 pk, .int .i64 kp, .slice va op.length vc, .int .i64 an, .int .i64 hd] 29)
        have hsz4 : (w2.alloc (.cells #[.int .i64 kd, .int .i64 nd, .int .i64 tw, .int .i64 pk, .int .i64 kp, .slice va op.length vc, .int .i64 an, .int .i64 hd] 29)).heap.size = w2.heap.size + 1 := by simp
        have hK4 := hK2.below hb24
        have hov4 := own_base (own_below hov hb24) hB1s
        obtain ⟨q0, ql, qf⟩ := blk hz4
        have cA := checkAct_any T.length ta tc kd nd tw pk kp an hd op va vc (w2.alloc (.cells #[.int .i64 kd, .int .i64 nd, .int .i64 tw, .int .i64 pk, .int .i64 kp, .slice va op.length vc, .int .i64 an, .int .i64 hd] 29)) hT7 (hop2.below hb24) (by have : op.length ≤ 1048576 := hsx.op.1; omega) (fun p hp => by have := (hsx.op.2 p hp).2.2; omega) (hT.l.tabs.below HB4)
        have ev : actErr (T.length : Int) ⟨kd, nd, tw, pk, kp, op, va, vc, an, hd⟩ = actErr (T.length : Int) (ActI.v ⟨kd, nd, tw, pk, kp, op, an, hd⟩) := rfl
        rw [ev] at cA
        have HA3 : Hid (R = if actErr (T.length : Int) (ActI.v ⟨kd, nd, tw, pk, kp, op, an, hd⟩) ≠ 0 then ([], K.length, actErr (T.length : Int) (ActI.v ⟨kd, nd, tw, pk, kp, op, an, hd⟩)) else readA T.length g' (K.map (·.1) ++ [(⟨kd, nd, tw, pk, kp, op, an, hd⟩ : ActI)]) c2) := HA2
        clear ev HA2 hxv hsl hcl hop2 hov hK2 HB2 hb24 hz
        generalize actErr (T.length : Int) (ActI.v ⟨kd, nd, tw, pk, kp, op, an, hd⟩) = E at *
        go_wp2_with fail
        refine cA.mono ?_
        clear cA
        rintro e w5 ⟨rfl, hb5⟩
        have hK5 := hK4.below hb5
        have hov5 := own_below hov4 hb5
        have HB5 := below_two HB4 hb5 (Nat.le_refl _)
        have hq5 := (hb5.block _ ql).trans hz4
        obtain ⟨s0, sl, sf⟩ := blk hq5
        clear hK4 hov4 hb5 q0 qf hz4 z0 zf HB4
        by_cases hE : E = 0
        · have HA4 : Hid (R = readA T.length g' ((K ++ [((⟨kd, nd, tw, pk, kp, op, an, hd⟩ : ActI), Value.slice va op.length vc)]).map (·.1)) c2) := by
            show R = _
            rw [HA3.out, if_neg (fun h => h hE), HKm]
          subst hE
          have hnew := heap_alloc_new w5 (.cells #[.int .i64 kd, .int .i64 nd, .int .i64 tw, .int .i64 pk, .int .i64 kp, .slice va op.length vc, .int .i64 an, .int .i64 hd] 29)
          have hBs5 := HB5.size
          have hsA : (w5.alloc (.cells #[.int .i64 kd, .int .i64 nd, .int .i64 tw, .int .i64 pk, .int .i64 kp, .slice va op.length vc, .int .i64 an, .int .i64 hd] 29)).heap.size = w5.heap.size + 1 := by simp
          obtain ⟨i0, hi, hz0, hz1, hz2⟩ := info_parts info_act
          clear HA3 HKm hT
          go_wp2_with (at_builtin; refine wpList_append_lies _ rfl _ _ 33 rfl w.heap.size 29 i0 _ 8 80 Tryd.underlying33 hi hz0 hz1 hz2 rfl (by decide) (.slice la K.length lc) K.length (actS.all K) rfl (hK5.row.alloc _) ⟨w5.heap.size, 0, none⟩ 1 1 [.int .i64 kd, .int .i64 nd, .int .i64 tw, .int .i64 pk, .int .i64 kp, .slice va op.length vc, .int .i64 an, .int .i64 hd] rfl rfl (World.news_of_block hnew) (by simp [Value.oneCell']) (by omega) (by unfold maxLen; omega) (by omega) (by omega) _ rfl ?_; intro g1 cap1 w6 hown6 hgr6 hat6 hlt6)
          have HB6 := (HB5.alloc hBs5 _).grown hgr6 (by rw [hsA]; omega) (fun k e => (hK5.row.lt k e).1)
          have hK6 : RowK actS w6 w.heap.size (.slice (some ⟨g1, 0, none⟩) (K.length + 1) cap1) (K ++ [((⟨kd, nd, tw, pk, kp, op, an, hd⟩ : ActI), Value.slice va op.length vc)]) := RowK.app hK5 hov5 hown6 hgr6
          go_roundg g'
          case measure => have := HG.out; omega
          case rel =>
            have hl1 : (K ++ [((⟨kd, nd, tw, pk, kp, op, an, hd⟩ : ActI), Value.slice va op.length vc)]).length = K.length + 1 := by rw [List.length_append]; rfl
            refine ⟨c2, _, rfl, by have := HG.out; omega, ?_, by omega, fun y hy => ?_, HA4, by omega, HB6⟩
            · exact hK6
            · rcases List.mem_append.1 hy with hy | hy
              · exact hsm y hy
              · rw [List.mem_singleton.1 hy]; exact hsx
        · have hEz : (E != 0) = true := by simpa using hE
          have hfin : Hid (R = ([], K.length, E)) := by show R = _; rw [HA3.out, if_pos hE]
          clear HA3 HKm hT hE
          go_wp2_with fail
          go_ret3
          exact ⟨⟨[], _, by rw [hfin.out]; rfl, rowK_nil _ _ _, by rw [hfin.out]; rfl, Nat.zero_le _, fun x hx => by simp at hx⟩, HB5⟩

end Go.Proofs.YtelindfmdakliaaDoor
