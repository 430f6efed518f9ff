/-
  Acts: pure; walks: lines.upTo, numbersMayBe, numbersOf, hasMore.
-/
import Derived.Test.YtelindfmdakliaaDoorTreeAt
import Derived.Test.YtelindfmdakliaaDoorOpFault
import Derived.Deep.RegionHeld3
namespace Go.Proofs.YtelindfmdakliaaDoor
open Go.RowKit Go.Lib

/-- an act as its cells say -/
structure ActV where
  kd : Int
  nd : Int
  tw : Int
  pk : Int
  kp : Int
  op : List Part
  oa : Option Addr
  oc : Nat
  an : Int
  hd : Int
/-- are the numbers within their bounds? -/
def actNums (n : Int) (a : ActV) : Bool := decide ((0 ≤ a.nd ∧ a.nd ≤ n - 1) ∧ (0 ≤ a.tw ∧ a.tw ≤ n - 1) ∧ (0 ≤ a.pk ∧ a.pk ≤ 1048576) ∧ (0 ≤ a.kp ∧ a.kp ≤ 8388608) ∧ (0 ≤ a.an ∧ a.an ≤ 4000) ∧ (0 ≤ a.hd ∧ a.hd ≤ 4000))
/-- what its kind has not -/
def actMore (a : ActV) : Bool := decide ((a.kd = 7 ∧ a.nd ≠ 0) ∨ (¬ (4 ≤ a.kd ∧ a.kd ≤ 6) ∧ (a.tw ≠ 0 ∨ a.pk ≠ 0)) ∨ (a.kd ≠ 8 ∧ a.kp ≠ 0) ∨ (a.kd ≠ 1 ∧ 0 < a.op.length) ∨ (a.kd ≠ 3 ∧ (a.an ≠ 0 ∨ a.hd ≠ 0)))
/-- P7.1, behind the tree -/
def actErr (n : Int) (a : ActV) : Int := if ¬ (1 ≤ a.kd ∧ a.kd ≤ 9) then 3 else if actNums n a = false then 2 else if opErr a.op ≠ 0 then opErr a.op else if actMore a = true then 4 else 0

def numsOf (k : Int) : List Nat := if k = 1 ∨ k = 2 ∨ k = 9 then [1] else if k = 3 then [1, 6, 7] else if k = 4 ∨ k = 5 ∨ k = 6 then [1, 2, 3] else if k = 8 then [1, 4] else []
/-- pointers tw the cells of a block -/
def ptrs (b : Nat) (l : List Nat) : List Value := l.map fun j => .pointer (some ⟨b, j, none⟩)
theorem info_ptr : (Tryd.prog.info? 74).map (fun i => (i.zero, i.size, i.bytes)) = some (some (.pointer none), 1, 8) := by kernel_rfl

set_option maxRecDepth 100000 in
theorem addNums_any (x m c : Nat) (L : List Value) (T : TypeId) (w : World) (hx : w.heap[x]? = some (.cells #[.slice none 0 0] T (0, 0))) (hm : ∀ j u, L[j]? = some u → w.cell? ((⟨m, 0, none⟩ : Addr).add j) = some u) (h0 : 0 < L.length) (h3 : L.length ≤ 3) (h1 : ∀ u ∈ L, u.oneCell' = true) :
    Calls Tryd.prog 54 #[.slice (some ⟨m, 0, none⟩) L.length c, .pointer (some ⟨x, 0, none⟩)] w fun r w' => r = .returned (.tuple #[]) ∧ ∃ v, w'.heap[x]? = some (.cells #[v] T (0, 0)) ∧ w'.ownsRow w.heap.size 74 1 v L.length L ∧ Chg (fun k => k = x) w w' := by
  obtain ⟨i0, hi, hinfo⟩ := Option.map_eq_some_iff.1 info_ptr
  simp only [Prod.mk.injEq] at hinfo
  obtain ⟨hz0, hz1, hz2⟩ := hinfo
  obtain ⟨x0, xl, xf⟩ := blk hx
  have h0z : 0 < L.length := h0
  go_enter Tryd.func54, Tryd.ntmps54
  go_wp2_with (at_builtin; refine wpList_append_lies _ rfl _ _ 71 rfl w.heap.size 74 i0 _ 1 8 Tryd.underlying71 hi hz0 hz1 hz2 rfl (by decide) (.slice none 0 0) 0 [] rfl (World.ownsRow_nil _ _ _ _) ⟨m, 0, none⟩ L.length c L rfl (by simp) hm h1 h0 (by unfold maxLen; omega) (by omega) (Nat.le_refl _) _ rfl ?_; intro g1 cap1 w4 hown4 hgr4 hat4 hlt4; have x4 := (hgr4.block x xl (by simp [Value.ownBlock])).trans hx; have b4 := blk x4; obtain ⟨y0, yl, yf⟩ := b4)
  go_end0
  obtain ⟨p1, p2⟩ := blk_put x4 0 (.slice (some ⟨g1, 0, none⟩) L.length cap1)
  have hg1 : g1 = w.heap.size := by rcases hat4 with h | h; · simp [Value.ownBlock] at h
                                    · exact h
  have hch : Chg (fun k => k = x) w w4 := (Chg.refl _ w).grown hgr4 (fun k _ e => by simp [Value.ownBlock] at e)
  rw [Nat.zero_add, List.nil_append] at hown4
  refine ⟨rfl, _, p1, own_chg hown4 p2 (fun k hk e => ?_), hch.trans p2 (fun _ _ h => h)⟩
  simp only [Value.ownBlock, Option.some.injEq] at hk
  omega


set_option maxRecDepth 100000 in
theorem numbersOf_1 (nd tw pk kp an hd : Int) (ov : Value) (b : Nat) (T : TypeId) (w : World) (h : w.heap[b]? = some (.cells #[.int .i64 1, .int .i64 nd, .int .i64 tw, .int .i64 pk, .int .i64 kp, ov, .int .i64 an, .int .i64 hd] T (0, 0))) :
    Calls Tryd.prog 35 #[.pointer (some ⟨b, 0, none⟩)] w fun r w' => ∃ v, r = .returned v ∧ w'.ownsRow w.heap.size 74 1 v (numsOf 1).length (ptrs b (numsOf 1)) ∧ Below w.heap.size w w' := by
  obtain ⟨b0, bl, _⟩ := blk h
  have hl := heap_alloc_new w (.cells #[.slice none 0 0] 71)
  have hz : w.heap.size < (w.alloc (.cells #[.slice none 0 0] 71)).heap.size := by simp
  have hb1 := (Below.refl w.heap.size w).alloc (Nat.le_refl _) (.cells #[.slice none 0 0] 71)
  go_enter Tryd.func35, Tryd.ntmps35
  go_wp2_with fail
  have hs1 : (w.alloc (.cells #[.slice none 0 0] 71)).heap.size = w.heap.size + 1 := by simp
  generalize (w.alloc (.cells #[.slice none 0 0] 71)) = w1 at *
  have hm := @heap_alloc_new w1 (.cells #[.pointer (some ⟨b, 1, none⟩)] 74)
  rw [hs1] at hm
  have hx := row_old hl (.cells #[.pointer (some ⟨b, 1, none⟩)] 74)
  have hsz : w.heap.size ≤ ((w1.alloc (.cells #[.pointer (some ⟨b, 1, none⟩)] 74))).heap.size := by show w.heap.size ≤ (w1.alloc (.cells #[.pointer (some ⟨b, 1, none⟩)] 74)).heap.size; simp; omega
  have hS1 : Below w.heap.size w (w1.alloc (.cells #[.pointer (some ⟨b, 1, none⟩)] 74)) := (hb1.alloc (by omega) (.cells #[.pointer (some ⟨b, 1, none⟩)] 74))
  have cc := addNums_any w.heap.size (w.heap.size + 1) 1 [.pointer (some ⟨b, 1, none⟩)] 71 ((w1.alloc (.cells #[.pointer (some ⟨b, 1, none⟩)] 74))) hx (World.news_of_block hm) (by simp) (by simp) (by simp [Value.oneCell'])
  clear hs1
  refine cc.mono ?_
  rintro e w3 ⟨rfl, v, hv3, ho3, hc3⟩
  have hS3 := hS1.trans (hc3.below (B := w.heap.size) (fun k e => Nat.le_of_eq e.symm) hS1.size)
  obtain ⟨v0, vl, vf⟩ := blk hv3
  go_wp2_with fail
  go_ret
  exact ⟨_, rfl, own_base ho3 hsz, hS3⟩

set_option maxRecDepth 100000 in
theorem numbersOf_2 (nd tw pk kp an hd : Int) (ov : Value) (b : Nat) (T : TypeId) (w : World) (h : w.heap[b]? = some (.cells #[.int .i64 2, .int .i64 nd, .int .i64 tw, .int .i64 pk, .int .i64 kp, ov, .int .i64 an, .int .i64 hd] T (0, 0))) :
    Calls Tryd.prog 35 #[.pointer (some ⟨b, 0, none⟩)] w fun r w' => ∃ v, r = .returned v ∧ w'.ownsRow w.heap.size 74 1 v (numsOf 2).length (ptrs b (numsOf 2)) ∧ Below w.heap.size w w' := by
  obtain ⟨b0, bl, _⟩ := blk h
  have hl := heap_alloc_new w (.cells #[.slice none 0 0] 71)
  have hz : w.heap.size < (w.alloc (.cells #[.slice none 0 0] 71)).heap.size := by simp
  have hb1 := (Below.refl w.heap.size w).alloc (Nat.le_refl _) (.cells #[.slice none 0 0] 71)
  go_enter Tryd.func35, Tryd.ntmps35
  go_wp2_with fail
  have hs1 : (w.alloc (.cells #[.slice none 0 0] 71)).heap.size = w.heap.size + 1 := by simp
  generalize (w.alloc (.cells #[.slice none 0 0] 71)) = w1 at *
  have hm := @heap_alloc_new w1 (.cells #[.pointer (some ⟨b, 1, none⟩)] 74)
  rw [hs1] at hm
  have hx := row_old hl (.cells #[.pointer (some ⟨b, 1, none⟩)] 74)
  have hsz : w.heap.size ≤ ((w1.alloc (.cells #[.pointer (some ⟨b, 1, none⟩)] 74))).heap.size := by show w.heap.size ≤ (w1.alloc (.cells #[.pointer (some ⟨b, 1, none⟩)] 74)).heap.size; simp; omega
  have hS1 : Below w.heap.size w (w1.alloc (.cells #[.pointer (some ⟨b, 1, none⟩)] 74)) := (hb1.alloc (by omega) (.cells #[.pointer (some ⟨b, 1, none⟩)] 74))
  have cc := addNums_any w.heap.size (w.heap.size + 1) 1 [.pointer (some ⟨b, 1, none⟩)] 71 ((w1.alloc (.cells #[.pointer (some ⟨b, 1, none⟩)] 74))) hx (World.news_of_block hm) (by simp) (by simp) (by simp [Value.oneCell'])
  clear hs1
  refine cc.mono ?_
  rintro e w3 ⟨rfl, v, hv3, ho3, hc3⟩
  have hS3 := hS1.trans (hc3.below (B := w.heap.size) (fun k e => Nat.le_of_eq e.symm) hS1.size)
  obtain ⟨v0, vl, vf⟩ := blk hv3
  go_wp2_with fail
  go_ret
  exact ⟨_, rfl, own_base ho3 hsz, hS3⟩

set_option maxRecDepth 100000 in
theorem numbersOf_3 (nd tw pk kp an hd : Int) (ov : Value) (b : Nat) (T : TypeId) (w : World) (h : w.heap[b]? = some (.cells #[.int .i64 3, .int .i64 nd, .int .i64 tw, .int .i64 pk, .int .i64 kp, ov, .int .i64 an, .int .i64 hd] T (0, 0))) :
    Calls Tryd.prog 35 #[.pointer (some ⟨b, 0, none⟩)] w fun r w' => ∃ v, r = .returned v ∧ w'.ownsRow w.heap.size 74 1 v (numsOf 3).length (ptrs b (numsOf 3)) ∧ Below w.heap.size w w' := by
  obtain ⟨b0, bl, _⟩ := blk h
  have hl := heap_alloc_new w (.cells #[.slice none 0 0] 71)
  have hz : w.heap.size < (w.alloc (.cells #[.slice none 0 0] 71)).heap.size := by simp
  have hb1 := (Below.refl w.heap.size w).alloc (Nat.le_refl _) (.cells #[.slice none 0 0] 71)
  go_enter Tryd.func35, Tryd.ntmps35
  go_wp2_with fail
  generalize (w.alloc (.cells #[.slice none 0 0] 71)) = w1 at *
  have hm := @heap_alloc_new w1 (.cells #[.pointer (some ⟨b, 1, none⟩), .pointer (some ⟨b, 6, none⟩), .pointer (some ⟨b, 7, none⟩)] 74)
  have hx := row_old hl (.cells #[.pointer (some ⟨b, 1, none⟩), .pointer (some ⟨b, 6, none⟩), .pointer (some ⟨b, 7, none⟩)] 74)
  have hsz : w.heap.size ≤ ((w1.alloc (.cells #[.pointer (some ⟨b, 1, none⟩), .pointer (some ⟨b, 6, none⟩), .pointer (some ⟨b, 7, none⟩)] 74)).drew).heap.size := by show w.heap.size ≤ (w1.alloc (.cells #[.pointer (some ⟨b, 1, none⟩), .pointer (some ⟨b, 6, none⟩), .pointer (some ⟨b, 7, none⟩)] 74)).heap.size; simp; omega
  have hS0 : Below w.heap.size w w1.drew := hb1.trans ⟨rfl, rfl, rfl, Nat.le_refl _, fun _ _ => rfl⟩
  have hS1 : Below w.heap.size w (w1.alloc (.cells #[.pointer (some ⟨b, 1, none⟩), .pointer (some ⟨b, 6, none⟩), .pointer (some ⟨b, 7, none⟩)] 74)).drew := (hb1.alloc (by omega) (.cells #[.pointer (some ⟨b, 1, none⟩), .pointer (some ⟨b, 6, none⟩), .pointer (some ⟨b, 7, none⟩)] 74)).trans ⟨rfl, rfl, rfl, Nat.le_refl _, fun _ _ => rfl⟩
  have cc := addNums_any w.heap.size w1.heap.size 3 [.pointer (some ⟨b, 1, none⟩), .pointer (some ⟨b, 6, none⟩), .pointer (some ⟨b, 7, none⟩)] 71 ((w1.alloc (.cells #[.pointer (some ⟨b, 1, none⟩), .pointer (some ⟨b, 6, none⟩), .pointer (some ⟨b, 7, none⟩)] 74)).drew) hx (World.news_of_block hm) (by simp) (by simp) (by simp [Value.oneCell'])
  go_region_held3 (fun w' => Below w.heap.size w w') (with_reducible first | exact hS0 | exact hS1 | exact hS3) (first | (go_at_call 54; refine Calls.mono cc ?_; rintro e w3 ⟨rfl, v, hv3, ho3, hc3⟩; have hS3 := hS1.trans (hc3.below (B := w.heap.size) (fun k e => Nat.le_of_eq e.symm) hS1.size)))
  obtain ⟨v0, vl, vf⟩ := blk hv3
  go_wp2_with fail
  go_ret
  exact ⟨_, rfl, own_base ho3 hsz, hS3⟩

set_option maxRecDepth 100000 in
theorem numbersOf_4 (nd tw pk kp an hd : Int) (ov : Value) (b : Nat) (T : TypeId) (w : World) (h : w.heap[b]? = some (.cells #[.int .i64 4, .int .i64 nd, .int .i64 tw, .int .i64 pk, .int .i64 kp, ov, .int .i64 an, .int .i64 hd] T (0, 0))) :
    Calls Tryd.prog 35 #[.pointer (some ⟨b, 0, none⟩)] w fun r w' => ∃ v, r = .returned v ∧ w'.ownsRow w.heap.size 74 1 v (numsOf 4).length (ptrs b (numsOf 4)) ∧ Below w.heap.size w w' := by
  obtain ⟨b0, bl, _⟩ := blk h
  have hl := heap_alloc_new w (.cells #[.slice none 0 0] 71)
  have hz : w.heap.size < (w.alloc (.cells #[.slice none 0 0] 71)).heap.size := by simp
  have hb1 := (Below.refl w.heap.size w).alloc (Nat.le_refl _) (.cells #[.slice none 0 0] 71)
  go_enter Tryd.func35, Tryd.ntmps35
  go_wp2_with fail
  generalize (w.alloc (.cells #[.slice none 0 0] 71)) = w1 at *
  have hm := @heap_alloc_new w1 (.cells #[.pointer (some ⟨b, 1, none⟩), .pointer (some ⟨b, 2, none⟩), .pointer (some ⟨b, 3, none⟩)] 74)
  have hx := row_old hl (.cells #[.pointer (some ⟨b, 1, none⟩), .pointer (some ⟨b, 2, none⟩), .pointer (some ⟨b, 3, none⟩)] 74)
  have hsz : w.heap.size ≤ ((w1.alloc (.cells #[.pointer (some ⟨b, 1, none⟩), .pointer (some ⟨b, 2, none⟩), .pointer (some ⟨b, 3, none⟩)] 74)).drew).heap.size := by show w.heap.size ≤ (w1.alloc (.cells #[.pointer (some ⟨b, 1, none⟩), .pointer (some ⟨b, 2, none⟩), .pointer (some ⟨b, 3, none⟩)] 74)).heap.size; simp; omega
  have hS0 : Below w.heap.size w w1.drew := hb1.trans ⟨rfl, rfl, rfl, Nat.le_refl _, fun _ _ => rfl⟩
  have hS1 : Below w.heap.size w (w1.alloc (.cells #[.pointer (some ⟨b, 1, none⟩), .pointer (some ⟨b, 2, none⟩), .pointer (some ⟨b, 3, none⟩)] 74)).drew := (hb1.alloc (by omega) (.cells #[.pointer (some ⟨b, 1, none⟩), .pointer (some ⟨b, 2, none⟩), .pointer (some ⟨b, 3, none⟩)] 74)).trans ⟨rfl, rfl, rfl, Nat.le_refl _, fun _ _ => rfl⟩
  have cc := addNums_any w.heap.size w1.heap.size 3 [.pointer (some ⟨b, 1, none⟩), .pointer (some ⟨b, 2, none⟩), .pointer (some ⟨b, 3, none⟩)] 71 ((w1.alloc (.cells #[.pointer (some ⟨b, 1, none⟩), .pointer (some ⟨b, 2, none⟩), .pointer (some ⟨b, 3, none⟩)] 74)).drew) hx (World.news_of_block hm) (by simp) (by simp) (by simp [Value.oneCell'])
  go_region_held3 (fun w' => Below w.heap.size w w') (with_reducible first | exact hS0 | exact hS1 | exact hS3) (first | (go_at_call 54; refine Calls.mono cc ?_; rintro e w3 ⟨rfl, v, hv3, ho3, hc3⟩; have hS3 := hS1.trans (hc3.below (B := w.heap.size) (fun k e => Nat.le_of_eq e.symm) hS1.size)))
  obtain ⟨v0, vl, vf⟩ := blk hv3
  go_wp2_with fail
  go_ret
  exact ⟨_, rfl, own_base ho3 hsz, hS3⟩

set_option maxRecDepth 100000 in
theorem numbersOf_5 (nd tw pk kp an hd : Int) (ov : Value) (b : Nat) (T : TypeId) (w : World) (h : w.heap[b]? = some (.cells #[.int .i64 5, .int .i64 nd, .int .i64 tw, .int .i64 pk, .int .i64 kp, ov, .int .i64 an, .int .i64 hd] T (0, 0))) :
    Calls Tryd.prog 35 #[.pointer (some ⟨b, 0, none⟩)] w fun r w' => ∃ v, r = .returned v ∧ w'.ownsRow w.heap.size 74 1 v (numsOf 5).length (ptrs b (numsOf 5)) ∧ Below w.heap.size w w' := by
  obtain ⟨b0, bl, _⟩ := blk h
  have hl := heap_alloc_new w (.cells #[.slice none 0 0] 71)
  have hz : w.heap.size < (w.alloc (.cells #[.slice none 0 0] 71)).heap.size := by simp
  have hb1 := (Below.refl w.heap.size w).alloc (Nat.le_refl _) (.cells #[.slice none 0 0] 71)
  go_enter Tryd.func35, Tryd.ntmps35
  go_wp2_with fail
  generalize (w.alloc (.cells #[.slice none 0 0] 71)) = w1 at *
  have hm := @heap_alloc_new w1 (.cells #[.pointer (some ⟨b, 1, none⟩), .pointer (some ⟨b, 2, none⟩), .pointer (some ⟨b, 3, none⟩)] 74)
  have hx := row_old hl (.cells #[.pointer (some ⟨b, 1, none⟩), .pointer (some ⟨b, 2, none⟩), .pointer (some ⟨b, 3, none⟩)] 74)
  have hsz : w.heap.size ≤ ((w1.alloc (.cells #[.pointer (some ⟨b, 1, none⟩), .pointer (some ⟨b, 2, none⟩), .pointer (some ⟨b, 3, none⟩)] 74)).drew).heap.size := by show w.heap.size ≤ (w1.alloc (.cells #[.pointer (some ⟨b, 1, none⟩), .pointer (some ⟨b, 2, none⟩), .pointer (some ⟨b, 3, none⟩)] 74)).heap.size; simp; omega
  have hS0 : Below w.heap.size w w1.drew := hb1.trans ⟨rfl, rfl, rfl, Nat.le_refl _, fun _ _ => rfl⟩
  have hS1 : Below w.heap.size w (w1.alloc (.cells #[.pointer (some ⟨b, 1, none⟩), .pointer (some ⟨b, 2, none⟩), .pointer (some ⟨b, 3, none⟩)] 74)).drew := (hb1.alloc (by omega) (.cells #[.pointer (some ⟨b, 1, none⟩), .pointer (some ⟨b, 2, none⟩), .pointer (some ⟨b, 3, none⟩)] 74)).trans ⟨rfl, rfl, rfl, Nat.le_refl _, fun _ _ => rfl⟩
  have cc := addNums_any w.heap.size w1.heap.size 3 [.pointer (some ⟨b, 1, none⟩), .pointer (some ⟨b, 2, none⟩), .pointer (some ⟨b, 3, none⟩)] 71 ((w1.alloc (.cells #[.pointer (some ⟨b, 1, none⟩), .pointer (some ⟨b, 2, none⟩), .pointer (some ⟨b, 3, none⟩)] 74)).drew) hx (World.news_of_block hm) (by simp) (by simp) (by simp [Value.oneCell'])
  go_region_held3 (fun w' => Below w.heap.size w w') (with_reducible first | exact hS0 | exact hS1 | exact hS3) (first | (go_at_call 54; refine Calls.mono cc ?_; rintro e w3 ⟨rfl, v, hv3, ho3, hc3⟩; have hS3 := hS1.trans (hc3.below (B := w.heap.size) (fun k e => Nat.le_of_eq e.symm) hS1.size)))
  obtain ⟨v0, vl, vf⟩ := blk hv3
  go_wp2_with fail
  go_ret
  exact ⟨_, rfl, own_base ho3 hsz, hS3⟩

set_option maxRecDepth 100000 in
theorem numbersOf_6 (nd tw pk kp an hd : Int) (ov : Value) (b : Nat) (T : TypeId) (w : World) (h : w.heap[b]? = some (.cells #[.int .i64 6, .int .i64 nd, .int .i64 tw, .int .i64 pk, .int .i64 kp, ov, .int .i64 an, .int .i64 hd] T (0, 0))) :
    Calls Tryd.prog 35 #[.pointer (some ⟨b, 0, none⟩)] w fun r w' => ∃ v, r = .returned v ∧ w'.ownsRow w.heap.size 74 1 v (numsOf 6).length (ptrs b (numsOf 6)) ∧ Below w.heap.size w w' := by
  obtain ⟨b0, bl, _⟩ := blk h
  have hl := heap_alloc_new w (.cells #[.slice none 0 0] 71)
  have hz : w.heap.size < (w.alloc (.cells #[.slice none 0 0] 71)).heap.size := by simp
  have hb1 := (Below.refl w.heap.size w).alloc (Nat.le_refl _) (.cells #[.slice none 0 0] 71)
  go_enter Tryd.func35, Tryd.ntmps35
  go_wp2_with fail
  generalize (w.alloc (.cells #[.slice none 0 0] 71)) = w1 at *
  have hm := @heap_alloc_new w1 (.cells #[.pointer (some ⟨b, 1, none⟩), .pointer (some ⟨b, 2, none⟩), .pointer (some ⟨b, 3, none⟩)] 74)
  have hx := row_old hl (.cells #[.pointer (some ⟨b, 1, none⟩), .pointer (some ⟨b, 2, none⟩), .pointer (some ⟨b, 3, none⟩)] 74)
  have hsz : w.heap.size ≤ ((w1.alloc (.cells #[.pointer (some ⟨b, 1, none⟩), .pointer (some ⟨b, 2, none⟩), .pointer (some ⟨b, 3, none⟩)] 74)).drew).heap.size := by show w.heap.size ≤ (w1.alloc (.cells #[.pointer (some ⟨b, 1, none⟩), .pointer (some ⟨b, 2, none⟩), .pointer (some ⟨b, 3, none⟩)] 74)).heap.size; simp; omega
  have hS0 : Below w.heap.size w w1.drew := hb1.trans ⟨rfl, rfl, rfl, Nat.le_refl _, fun _ _ => rfl⟩
  have hS1 : Below w.heap.size w (w1.alloc (.cells #[.pointer (some ⟨b, 1, none⟩), .pointer (some ⟨b, 2, none⟩), .pointer (some ⟨b, 3, none⟩)] 74)).drew := (hb1.alloc (by omega) (.cells #[.pointer (some ⟨b, 1, none⟩), .pointer (some ⟨b, 2, none⟩), .pointer (some ⟨b, 3, none⟩)] 74)).trans ⟨rfl, rfl, rfl, Nat.le_refl _, fun _ _ => rfl⟩
  have cc := addNums_any w.heap.size w1.heap.size 3 [.pointer (some ⟨b, 1, none⟩), .pointer (some ⟨b, 2, none⟩), .pointer (some ⟨b, 3, none⟩)] 71 ((w1.alloc (.cells #[.pointer (some ⟨b, 1, none⟩), .pointer (some ⟨b, 2, none⟩), .pointer (some ⟨b, 3, none⟩)] 74)).drew) hx (World.news_of_block hm) (by simp) (by simp) (by simp [Value.oneCell'])
  go_region_held3 (fun w' => Below w.heap.size w w') (with_reducible first | exact hS0 | exact hS1 | exact hS3) (first | (go_at_call 54; refine Calls.mono cc ?_; rintro e w3 ⟨rfl, v, hv3, ho3, hc3⟩; have hS3 := hS1.trans (hc3.below (B := w.heap.size) (fun k e => Nat.le_of_eq e.symm) hS1.size)))
  obtain ⟨v0, vl, vf⟩ := blk hv3
  go_wp2_with fail
  go_ret
  exact ⟨_, rfl, own_base ho3 hsz, hS3⟩

set_option maxRecDepth 100000 in
theorem numbersOf_7 (nd tw pk kp an hd : Int) (ov : Value) (b : Nat) (T : TypeId) (w : World) (h : w.heap[b]? = some (.cells #[.int .i64 7, .int .i64 nd, .int .i64 tw, .int .i64 pk, .int .i64 kp, ov, .int .i64 an, .int .i64 hd] T (0, 0))) :
    Calls Tryd.prog 35 #[.pointer (some ⟨b, 0, none⟩)] w fun r w' => ∃ v, r = .returned v ∧ w'.ownsRow w.heap.size 74 1 v (numsOf 7).length (ptrs b (numsOf 7)) ∧ Below w.heap.size w w' := by
  obtain ⟨b0, bl, _⟩ := blk h
  have hl := heap_alloc_new w (.cells #[.slice none 0 0] 71)
  have hz : w.heap.size < (w.alloc (.cells #[.slice none 0 0] 71)).heap.size := by simp
  have hb1 := (Below.refl w.heap.size w).alloc (Nat.le_refl _) (.cells #[.slice none 0 0] 71)
  go_enter Tryd.func35, Tryd.ntmps35
  go_wp2_with fail
  go_ret
  exact ⟨_, rfl, World.ownsRow_nil _ _ _ _, hb1⟩

set_option maxRecDepth 100000 in
theorem numbersOf_8 (nd tw pk kp an hd : Int) (ov : Value) (b : Nat) (T : TypeId) (w : World) (h : w.heap[b]? = some (.cells #[.int .i64 8, .int .i64 nd, .int .i64 tw, .int .i64 pk, .int .i64 kp, ov, .int .i64 an, .int .i64 hd] T (0, 0))) :
    Calls Tryd.prog 35 #[.pointer (some ⟨b, 0, none⟩)] w fun r w' => ∃ v, r = .returned v ∧ w'.ownsRow w.heap.size 74 1 v (numsOf 8).length (ptrs b (numsOf 8)) ∧ Below w.heap.size w w' := by
  obtain ⟨b0, bl, _⟩ := blk h
  have hl := heap_alloc_new w (.cells #[.slice none 0 0] 71)
  have hz : w.heap.size < (w.alloc (.cells #[.slice none 0 0] 71)).heap.size := by simp
  have hb1 := (Below.refl w.heap.size w).alloc (Nat.le_refl _) (.cells #[.slice none 0 0] 71)
  go_enter Tryd.func35, Tryd.ntmps35
  go_wp2_with fail
  generalize (w.alloc (.cells #[.slice none 0 0] 71)) = w1 at *
  have hm := @heap_alloc_new w1 (.cells #[.pointer (some ⟨b, 1, none⟩), .pointer (some ⟨b, 4, none⟩)] 74)
  have hx := row_old hl (.cells #[.pointer (some ⟨b, 1, none⟩), .pointer (some ⟨b, 4, none⟩)] 74)
  have hsz : w.heap.size ≤ ((w1.alloc (.cells #[.pointer (some ⟨b, 1, none⟩), .pointer (some ⟨b, 4, none⟩)] 74)).drew).heap.size := by show w.heap.size ≤ (w1.alloc (.cells #[.pointer (some ⟨b, 1, none⟩), .pointer (some ⟨b, 4, none⟩)] 74)).heap.size; simp; omega
  have hS0 : Below w.heap.size w w1.drew := hb1.trans ⟨rfl, rfl, rfl, Nat.le_refl _, fun _ _ => rfl⟩
  have hS1 : Below w.heap.size w (w1.alloc (.cells #[.pointer (some ⟨b, 1, none⟩), .pointer (some ⟨b, 4, none⟩)] 74)).drew := (hb1.alloc (by omega) (.cells #[.pointer (some ⟨b, 1, none⟩), .pointer (some ⟨b, 4, none⟩)] 74)).trans ⟨rfl, rfl, rfl, Nat.le_refl _, fun _ _ => rfl⟩
  have cc := addNums_any w.heap.size w1.heap.size 2 [.pointer (some ⟨b, 1, none⟩), .pointer (some ⟨b, 4, none⟩)] 71 ((w1.alloc (.cells #[.pointer (some ⟨b, 1, none⟩), .pointer (some ⟨b, 4, none⟩)] 74)).drew) hx (World.news_of_block hm) (by simp) (by simp) (by simp [Value.oneCell'])
  go_region_held3 (fun w' => Below w.heap.size w w') (with_reducible first | exact hS0 | exact hS1 | exact hS3) (first | (go_at_call 54; refine Calls.mono cc ?_; rintro e w3 ⟨rfl, v, hv3, ho3, hc3⟩; have hS3 := hS1.trans (hc3.below (B := w.heap.size) (fun k e => Nat.le_of_eq e.symm) hS1.size)))
  obtain ⟨v0, vl, vf⟩ := blk hv3
  go_wp2_with fail
  go_ret
  exact ⟨_, rfl, own_base ho3 hsz, hS3⟩

set_option maxRecDepth 100000 in
theorem numbersOf_9 (nd tw pk kp an hd : Int) (ov : Value) (b : Nat) (T : TypeId) (w : World) (h : w.heap[b]? = some (.cells #[.int .i64 9, .int .i64 nd, .int .i64 tw, .int .i64 pk, .int .i64 kp, ov, .int .i64 an, .int .i64 hd] T (0, 0))) :
    Calls Tryd.prog 35 #[.pointer (some ⟨b, 0, none⟩)] w fun r w' => ∃ v, r = .returned v ∧ w'.ownsRow w.heap.size 74 1 v (numsOf 9).length (ptrs b (numsOf 9)) ∧ Below w.heap.size w w' := by
  obtain ⟨b0, bl, _⟩ := blk h
  have hl := heap_alloc_new w (.cells #[.slice none 0 0] 71)
  have hz : w.heap.size < (w.alloc (.cells #[.slice none 0 0] 71)).heap.size := by simp
  have hb1 := (Below.refl w.heap.size w).alloc (Nat.le_refl _) (.cells #[.slice none 0 0] 71)
  go_enter Tryd.func35, Tryd.ntmps35
  go_wp2_with fail
  have hs1 : (w.alloc (.cells #[.slice none 0 0] 71)).heap.size = w.heap.size + 1 := by simp
  generalize (w.alloc (.cells #[.slice none 0 0] 71)) = w1 at *
  have hm := @heap_alloc_new w1 (.cells #[.pointer (some ⟨b, 1, none⟩)] 74)
  rw [hs1] at hm
  have hx := row_old hl (.cells #[.pointer (some ⟨b, 1, none⟩)] 74)
  have hsz : w.heap.size ≤ ((w1.alloc (.cells #[.pointer (some ⟨b, 1, none⟩)] 74))).heap.size := by show w.heap.size ≤ (w1.alloc (.cells #[.pointer (some ⟨b, 1, none⟩)] 74)).heap.size; simp; omega
  have hS1 : Below w.heap.size w (w1.alloc (.cells #[.pointer (some ⟨b, 1, none⟩)] 74)) := (hb1.alloc (by omega) (.cells #[.pointer (some ⟨b, 1, none⟩)] 74))
  have cc := addNums_any w.heap.size (w.heap.size + 1) 1 [.pointer (some ⟨b, 1, none⟩)] 71 ((w1.alloc (.cells #[.pointer (some ⟨b, 1, none⟩)] 74))) hx (World.news_of_block hm) (by simp) (by simp) (by simp [Value.oneCell'])
  clear hs1
  refine cc.mono ?_
  rintro e w3 ⟨rfl, v, hv3, ho3, hc3⟩
  have hS3 := hS1.trans (hc3.below (B := w.heap.size) (fun k e => Nat.le_of_eq e.symm) hS1.size)
  obtain ⟨v0, vl, vf⟩ := blk hv3
  go_wp2_with fail
  go_ret
  exact ⟨_, rfl, own_base ho3 hsz, hS3⟩

set_option maxRecDepth 100000 in
theorem numbersOf_0 (nd tw pk kp an hd : Int) (ov : Value) (b : Nat) (T : TypeId) (w : World) (h : w.heap[b]? = some (.cells #[.int .i64 0, .int .i64 nd, .int .i64 tw, .int .i64 pk, .int .i64 kp, ov, .int .i64 an, .int .i64 hd] T (0, 0))) :
    Calls Tryd.prog 35 #[.pointer (some ⟨b, 0, none⟩)] w fun r w' => ∃ v, r = .returned v ∧ w'.ownsRow w.heap.size 74 1 v (numsOf 0).length (ptrs b (numsOf 0)) ∧ Below w.heap.size w w' := by
  obtain ⟨b0, bl, _⟩ := blk h
  have hl := heap_alloc_new w (.cells #[.slice none 0 0] 71)
  have hz : w.heap.size < (w.alloc (.cells #[.slice none 0 0] 71)).heap.size := by simp
  have hb1 := (Below.refl w.heap.size w).alloc (Nat.le_refl _) (.cells #[.slice none 0 0] 71)
  go_enter Tryd.func35, Tryd.ntmps35
  go_wp2_with fail
  go_ret
  exact ⟨_, rfl, World.ownsRow_nil _ _ _ _, hb1⟩
theorem numbersOf_any (kd nd tw pk kp an hd : Int) (ov : Value) (b : Nat) (T : TypeId) (w : World) (hk : 0 ≤ kd ∧ kd ≤ 9) (h : w.heap[b]? = some (.cells #[.int .i64 kd, .int .i64 nd, .int .i64 tw, .int .i64 pk, .int .i64 kp, ov, .int .i64 an, .int .i64 hd] T (0, 0))) :
    Calls Tryd.prog 35 #[.pointer (some ⟨b, 0, none⟩)] w fun r w' => ∃ v, r = .returned v ∧ w'.ownsRow w.heap.size 74 1 v (numsOf kd).length (ptrs b (numsOf kd)) ∧ Below w.heap.size w w' := by
  obtain rfl | rfl | rfl | rfl | rfl | rfl | rfl | rfl | rfl | rfl : kd = 0 ∨ kd = 1 ∨ kd = 2 ∨ kd = 3 ∨ kd = 4 ∨ kd = 5 ∨ kd = 6 ∨ kd = 7 ∨ kd = 8 ∨ kd = 9 := by omega
  · exact numbersOf_0 nd tw pk kp an hd ov b T w h
  · exact numbersOf_1 nd tw pk kp an hd ov b T w h
  · exact numbersOf_2 nd tw pk kp an hd ov b T w h
  · exact numbersOf_3 nd tw pk kp an hd ov b T w h
  · exact numbersOf_4 nd tw pk kp an hd ov b T w h
  · exact numbersOf_5 nd tw pk kp an hd ov b T w h
  · exact numbersOf_6 nd tw pk kp an hd ov b T w h
  · exact numbersOf_7 nd tw pk kp an hd ov b T w h
  · exact numbersOf_8 nd tw pk kp an hd ov b T w h
  · exact numbersOf_9 nd tw pk kp an hd ov b T w h

def zeroAt (l : List Nat) (cs : Array Value) : Array Value := l.foldl (fun cs j => cs.setIfInBounds j (.int .i64 0)) cs
theorem nums_le {k : Int} {j : Nat} (h : j ∈ numsOf k) : j < 8 := by
  unfold numsOf at h
  split at h
  · simp at h; omega
  · split at h
    · simp at h; omega
    · split at h
      · simp at h; omega
      · split at h <;> simp at h; omega
theorem zeroAt_size (l : List Nat) (cs : Array Value) : (zeroAt l cs).size = cs.size := by
  induction l generalizing cs with
  | nil => rfl
  | cons j l ih => show (zeroAt l _).size = _; rw [ih]; simp
theorem zeroAt_take {l : List Nat} {i : Nat} (h : i < l.length) (cs : Array Value) : zeroAt (l.take (i + 1)) cs = (zeroAt (l.take i) cs).setIfInBounds l[i] (.int .i64 0) := by
  unfold zeroAt
  rw [List.take_succ_eq_append_getElem h, List.foldl_append]; rfl
theorem zeroAt_act {kd : Int} (hk : 1 ≤ kd ∧ kd ≤ 9) (nd tw pk kp an hd : Int) (ov : Value) : ∃ nd' tw' pk' kp' an' hd' : Int, zeroAt (numsOf kd) #[.int .i64 kd, .int .i64 nd, .int .i64 tw, .int .i64 pk, .int .i64 kp, ov, .int .i64 an, .int .i64 hd] = #[.int .i64 kd, .int .i64 nd', .int .i64 tw', .int .i64 pk', .int .i64 kp', ov, .int .i64 an', .int .i64 hd'] ∧
    ((nd' ≠ 0 ∨ tw' ≠ 0 ∨ pk' ≠ 0 ∨ kp' ≠ 0 ∨ an' ≠ 0 ∨ hd' ≠ 0) ↔ ((kd = 7 ∧ nd ≠ 0) ∨ (¬ (4 ≤ kd ∧ kd ≤ 6) ∧ (tw ≠ 0 ∨ pk ≠ 0)) ∨ (kd ≠ 8 ∧ kp ≠ 0) ∨ (kd ≠ 3 ∧ (an ≠ 0 ∨ hd ≠ 0)))) := by
  obtain rfl | rfl | rfl | rfl | rfl | rfl | rfl | rfl | rfl : kd = 1 ∨ kd = 2 ∨ kd = 3 ∨ kd = 4 ∨ kd = 5 ∨ kd = 6 ∨ kd = 7 ∨ kd = 8 ∨ kd = 9 := by omega
  · exact ⟨0, tw, pk, kp, an, hd, rfl, by omega⟩
  · exact ⟨0, tw, pk, kp, an, hd, rfl, by omega⟩
  · exact ⟨0, tw, pk, kp, 0, 0, rfl, by omega⟩
  · exact ⟨0, 0, 0, kp, an, hd, rfl, by omega⟩
  · exact ⟨0, 0, 0, kp, an, hd, rfl, by omega⟩
  · exact ⟨0, 0, 0, kp, an, hd, rfl, by omega⟩
  · exact ⟨nd, tw, pk, kp, an, hd, rfl, by omega⟩
  · exact ⟨0, tw, pk, 0, an, hd, rfl, by omega⟩
  · exact ⟨0, tw, pk, kp, an, hd, rfl, by omega⟩

set_option maxRecDepth 100000 in
theorem hasMore_any (kd nd tw pk kp an hd : Int) (oa : Option Addr) (n oc : Nat) (w : World) (hk : 1 ≤ kd ∧ kd ≤ 9) :
    Calls Tryd.prog 31 #[.agg #[.int .i64 kd, .int .i64 nd, .int .i64 tw, .int .i64 pk, .int .i64 kp, .slice oa n oc, .int .i64 an, .int .i64 hd]] w fun r w' => r = .returned (.bool (decide ((kd = 7 ∧ nd ≠ 0) ∨ (¬ (4 ≤ kd ∧ kd ≤ 6) ∧ (tw ≠ 0 ∨ pk ≠ 0)) ∨ (kd ≠ 8 ∧ kp ≠ 0) ∨ (kd ≠ 1 ∧ 0 < n) ∨ (kd ≠ 3 ∧ (an ≠ 0 ∨ hd ≠ 0))))) ∧ Below w.heap.size w w' := by
  have hb0 := (Below.refl w.heap.size w).alloc (Nat.le_refl _) (.cells #[.int .i64 kd, .int .i64 nd, .int .i64 tw, .int .i64 pk, .int .i64 kp, .slice oa n oc, .int .i64 an, .int .i64 hd] 29)
  have hn := heap_alloc_new w (.cells #[.int .i64 kd, .int .i64 nd, .int .i64 tw, .int .i64 pk, .int .i64 kp, .slice oa n oc, .int .i64 an, .int .i64 hd] 29)
  have hz : w.heap.size < (w.alloc (.cells #[.int .i64 kd, .int .i64 nd, .int .i64 tw, .int .i64 pk, .int .i64 kp, .slice oa n oc, .int .i64 an, .int .i64 hd] 29)).heap.size := by simp
  have cN := numbersOf_any kd nd tw pk kp an hd (.slice oa n oc) w.heap.size 29 _ (by omega) hn
  have hl3 : (numsOf kd).length ≤ 3 := by unfold numsOf; split <;> (try split) <;> (try split) <;> (try split) <;> simp
  obtain ⟨L, hL⟩ : ∃ L, numsOf kd = L := ⟨_, rfl⟩
  have hL8 : ∀ j ∈ L, j < 8 := fun j hj => nums_le (hL ▸ hj)
  obtain ⟨nd', tw', pk', kp', an', hd', hz', hiff⟩ := zeroAt_act hk nd tw pk kp an hd (.slice oa n oc)
  rw [hL] at cN hz' hl3
  clear hL
  obtain ⟨R, hR⟩ : ∃ R, decide ((kd = 7 ∧ nd ≠ 0) ∨ (¬ (4 ≤ kd ∧ kd ≤ 6) ∧ (tw ≠ 0 ∨ pk ≠ 0)) ∨ (kd ≠ 8 ∧ kp ≠ 0) ∨ (kd ≠ 1 ∧ 0 < n) ∨ (kd ≠ 3 ∧ (an ≠ 0 ∨ hd ≠ 0))) = R := ⟨_, rfl⟩
  rw [hR]
  have HT : Hid ((nd' ≠ 0 ∨ tw' ≠ 0 ∨ pk' ≠ 0 ∨ kp' ≠ 0 ∨ an' ≠ 0 ∨ hd' ≠ 0 ∨ (kd ≠ 1 ∧ 0 < n)) → R = true) := fun h => by
    rw [← hR]
    refine decide_eq_true ?_
    rcases h with h | h | h | h | h | h | h
    · have := hiff.1 (.inl h); omega
    · have := hiff.1 (.inr (.inl h)); omega
    · have := hiff.1 (.inr (.inr (.inl h))); omega
    · have := hiff.1 (.inr (.inr (.inr (.inl h)))); omega
    · have := hiff.1 (.inr (.inr (.inr (.inr (.inl h))))); omega
    · have := hiff.1 (.inr (.inr (.inr (.inr (.inr h))))); omega
    · exact .inr (.inr (.inr (.inl h)))
  have HF : Hid (nd' = 0 → tw' = 0 → pk' = 0 → kp' = 0 → an' = 0 → hd' = 0 → (kd = 1 ∨ n = 0) → R = false) := fun h1 h2 h3 h4 h5 h6 h7 => by
    rw [← hR]
    refine decide_eq_false (fun hx => ?_)
    have := hiff.2 (by omega)
    omega
  clear hR hiff
  go_enter Tryd.func31, Tryd.ntmps31
  go_wp2_with fail
  refine cN.mono ?_
  clear cN
  generalize (w.alloc (.cells #[.int .i64 kd, .int .i64 nd, .int .i64 tw, .int .i64 pk, .int .i64 kp, .slice oa n oc, .int .i64 an, .int .i64 hd] 29)) = w0 at *
  rintro e w1 ⟨v, rfl, ho, hb1⟩
  obtain ⟨ra, rc, rfl⟩ := own_form ho
  have hn1 := (hb1.block _ hz).trans hn
  have HB1 := hb0.trans (hb1.mono hb0.size)
  have hrl := ho.lt
  have hrc := fun g hg => ho.cells (g := g) hg
  clear hn hb1 hb0
  go_wp2_with fail
  go_loopg [7] L.length (fun g iv wr => ∃ i : Nat, i + g = L.length ∧ iv = .int .i64 (i : Int) ∧ wr.heap[w.heap.size]? = some (.cells (zeroAt (L.take i) #[.int .i64 kd, .int .i64 nd, .int .i64 tw, .int .i64 pk, .int .i64 kp, .slice oa n oc, .int .i64 an, .int .i64 hd]) 29 (0, 0)) ∧ Below w.heap.size w wr ∧ Chg (fun k => k = w.heap.size) w1 wr)
  case atStart => exact ⟨0, by omega, rfl, hn1, HB1, Chg.refl _ _⟩
  case round =>
    obtain ⟨i, hi, rfl, hr, HB, hc⟩ := hrel
    by_cases hlt : i < L.length
    · have hiz : (i : Int) < (L.length : Int) := by omega
      have hi0 : (0 : Int) ≤ (i : Int) := by omega
      obtain ⟨q, hq⟩ : ∃ q, L[i] = q := ⟨_, rfl⟩
      have hq8 : q < 8 := hL8 q (hq ▸ List.getElem_mem hlt)
      have hzt : zeroAt (L.take (i + 1)) #[.int .i64 kd, .int .i64 nd, .int .i64 tw, .int .i64 pk, .int .i64 kp, .slice oa n oc, .int .i64 an, .int .i64 hd] = (zeroAt (L.take i) #[.int .i64 kd, .int .i64 nd, .int .i64 tw, .int .i64 pk, .int .i64 kp, .slice oa n oc, .int .i64 an, .int .i64 hd]).setIfInBounds q (.int .i64 0) := by rw [zeroAt_take hlt, hq]
      have hzs : (zeroAt (L.take i) #[.int .i64 kd, .int .i64 nd, .int .i64 tw, .int .i64 pk, .int .i64 kp, .slice oa n oc, .int .i64 an, .int .i64 hd]).size = 8 := by rw [zeroAt_size]; rfl
      generalize zeroAt (L.take i) #[.int .i64 kd, .int .i64 nd, .int .i64 tw, .int .i64 pk, .int .i64 kp, .slice oa n oc, .int .i64 an, .int .i64 hd] = cs at *
      rcases ho.2 with ⟨e, h0⟩ | ⟨g, cap, cur, e, _, hg, hnc, _⟩
      · omega
      simp only [Value.slice.injEq] at e
      obtain ⟨rfl, _, rfl⟩ := e
      have hgl := hrl g rfl
      have hcell := hrc g rfl i (.pointer (some ⟨w.heap.size, q, none⟩)) (by unfold ptrs; rw [List.getElem?_map, List.getElem?_eq_getElem hlt, hq]; rfl)
      rw [WideShapes.add_plain, Nat.zero_add] at hcell
      have hcw : wr.cell? ⟨g, i, none⟩ = some (.pointer (some ⟨w.heap.size, q, none⟩)) := (World.cell?_of_block (hc.block g hgl.2 (by omega))).trans hcell
      obtain ⟨r0, rl, rf⟩ := blk hr
      obtain ⟨u, hu⟩ : ∃ u, wr.cell? ⟨w.heap.size, q, none⟩ = some u := ⟨_, (r0 q).trans (Array.getElem?_eq_getElem (by omega))⟩
      obtain ⟨p1, p2⟩ := blk_put hr q (.int .i64 0)
      rw [← hzt] at p1
      have HB' := HB.trans (p2.below (B := w.heap.size) (fun k e => Nat.le_of_eq e.symm) HB.size)
      have hc' := hc.trans p2 (fun _ _ h => h)
      clear r0 hcell hq hzt hr ho hrc hrl hn1 HB1
      clear hzs
      go_wp2_with fail
      go_roundg (L.length - i - 1)
      case measure => omega
      case rel => exact ⟨i + 1, by omega, by go_num, p1, HB', hc'⟩
    · obtain rfl : i = L.length := by omega
      have hiz : ¬ (L.length : Int) < (L.length : Int) := by omega
      rw [List.take_length, hz'] at hr
      clear hz' ho hrc hrl hn1 HB1 hc hL8 hi hlt
      obtain ⟨r0, rl, rf⟩ := blk hr
      by_cases hk1 : kd = 1
      · subst hk1
        obtain ⟨p1, p2⟩ := blk_put hr 5 (.slice none 0 0)
        have HB' := HB.trans (p2.below (B := w.heap.size) (fun k e => Nat.le_of_eq e.symm) HB.size)
        have HG : Hid (nd' = 0 → tw' = 0 → pk' = 0 → kp' = 0 → an' = 0 → hd' = 0 → R = false) := fun h1 h2 h3 h4 h5 h6 => HF.out h1 h2 h3 h4 h5 h6 (.inl rfl)
        have HS : Hid (nd' ≠ 0 ∨ tw' ≠ 0 ∨ pk' ≠ 0 ∨ kp' ≠ 0 ∨ an' ≠ 0 ∨ hd' ≠ 0 → R = true) := fun h => HT.out (by omega)
        clear p1 p2 hr HF HT
        go_wp2_with fail
        all_goals
          first
            | (obtain rfl : R = true := HS.out (by omega); go_ret; exact ⟨rfl, HB'⟩)
            | (obtain rfl : R = false := HG.out (by omega) (by omega) (by omega) (by omega) (by omega) (by omega); go_ret; exact ⟨rfl, HB'⟩)
      · have hkz : (kd == 1) = false := by simpa using hk1
        by_cases hn : n = 0
        · subst hn
          have HG : Hid (nd' = 0 → tw' = 0 → pk' = 0 → kp' = 0 → an' = 0 → hd' = 0 → R = false) := fun h1 h2 h3 h4 h5 h6 => HF.out h1 h2 h3 h4 h5 h6 (.inr rfl)
          have HS : Hid (nd' ≠ 0 ∨ tw' ≠ 0 ∨ pk' ≠ 0 ∨ kp' ≠ 0 ∨ an' ≠ 0 ∨ hd' ≠ 0 → R = true) := fun h => HT.out (by omega)
          clear hr HF HT
          go_wp2_with fail
          all_goals
            first
              | (obtain rfl : R = true := HS.out (by omega); go_ret; exact ⟨rfl, HB⟩)
              | (obtain rfl : R = false := HG.out (by omega) (by omega) (by omega) (by omega) (by omega) (by omega); go_ret; exact ⟨rfl, HB⟩)
        · have hnz : (0 : Int) < (n : Int) := by omega
          obtain rfl : R = true := HT.out (by omega)
          clear hr HT HF
          go_wp2_with fail
          all_goals
            go_ret
            exact ⟨rfl, HB⟩
set_option maxRecDepth 100000 in
theorem upTo_any (most n : Int) (w : World) :
    Calls Tryd.prog 49 #[.int .i64 most, .int .i64 n] w fun r w' => r = .returned (.bool (decide (0 ≤ n ∧ n ≤ most))) ∧ w' = w := by
  by_cases h1 : 0 ≤ n
  · by_cases h2 : n ≤ most
    · rw [decide_eq_true (p := 0 ≤ n ∧ n ≤ most) ⟨h1, h2⟩]
      go_enter Tryd.func49, Tryd.ntmps49
      go_wp2_with fail
      go_ret
      exact ⟨by simp, rfl⟩
    · rw [decide_eq_false (p := 0 ≤ n ∧ n ≤ most) (by omega)]
      go_enter Tryd.func49, Tryd.ntmps49
      go_wp2_with fail
      go_ret
      exact ⟨by simp, rfl⟩
  · rw [decide_eq_false (p := 0 ≤ n ∧ n ≤ most) (by omega)]
    go_enter Tryd.func49, Tryd.ntmps49
    go_wp2_with fail
    go_ret
    exact ⟨rfl, rfl⟩
theorem upTo_known (most n : Int) (b : Bool) (w : World) (h : decide (0 ≤ n ∧ n ≤ most) = b) :
    Calls Tryd.prog 49 #[.int .i64 most, .int .i64 n] w fun r w' => r = .returned (.bool b) ∧ w' = w := h ▸ upTo_any most n w

set_option maxRecDepth 100000 in
set_option maxHeartbeats 1000000 in
theorem numsMay_any (len : Nat) (ta : Option Addr) (tc : Nat) (kd nd tw pk kp an hd : Int) (oa : Option Addr) (n oc : Nat) (w : World) (hl : len ≤ 7) :
    Calls Tryd.prog 29 #[.slice ta len tc, .agg #[.int .i64 kd, .int .i64 nd, .int .i64 tw, .int .i64 pk, .int .i64 kp, .slice oa n oc, .int .i64 an, .int .i64 hd]] w fun r w' => r = .returned (.bool (decide ((0 ≤ nd ∧ nd ≤ (len : Int) - 1) ∧ (0 ≤ tw ∧ tw ≤ (len : Int) - 1) ∧ (0 ≤ pk ∧ pk ≤ 1048576) ∧ (0 ≤ kp ∧ kp ≤ 8388608) ∧ (0 ≤ an ∧ an ≤ 4000) ∧ (0 ≤ hd ∧ hd ≤ 4000)))) ∧ Below w.heap.size w w' := by
  have hb0 := (Below.refl w.heap.size w).alloc (Nat.le_refl _) (.cells #[.int .i64 kd, .int .i64 nd, .int .i64 tw, .int .i64 pk, .int .i64 kp, .slice oa n oc, .int .i64 an, .int .i64 hd] 29)
  have hn := heap_alloc_new w (.cells #[.int .i64 kd, .int .i64 nd, .int .i64 tw, .int .i64 pk, .int .i64 kp, .slice oa n oc, .int .i64 an, .int .i64 hd] 29)
  have hlz : (len : Int) ≤ 7 := by omega
  have hlz0 : (0 : Int) ≤ (len : Int) := by omega
  obtain ⟨n0, nl, _⟩ := blk hn
  by_cases h0 : (0 ≤ nd ∧ nd ≤ (len : Int) - 1)
  · by_cases h1 : (0 ≤ tw ∧ tw ≤ (len : Int) - 1)
    · by_cases h2 : (0 ≤ pk ∧ pk ≤ 1048576)
      · by_cases h3 : (0 ≤ kp ∧ kp ≤ 8388608)
        · by_cases h4 : (0 ≤ an ∧ an ≤ 4000)
          · by_cases h5 : (0 ≤ hd ∧ hd ≤ 4000)
            · rw [decide_eq_true (p := (0 ≤ nd ∧ nd ≤ (len : Int) - 1) ∧ (0 ≤ tw ∧ tw ≤ (len : Int) - 1) ∧ (0 ≤ pk ∧ pk ≤ 1048576) ∧ (0 ≤ kp ∧ kp ≤ 8388608) ∧ (0 ≤ an ∧ an ≤ 4000) ∧ (0 ≤ hd ∧ hd ≤ 4000)) ⟨h0, h1, h2, h3, h4, h5⟩]
              have u0 := fun wx => upTo_known ((len : Int) - 1) nd true wx (by exact decide_eq_true h0)
              have u1 := fun wx => upTo_known ((len : Int) - 1) tw true wx (by exact decide_eq_true h1)
              have u2 := fun wx => upTo_known (1048576) pk true wx (by exact decide_eq_true h2)
              have u3 := fun wx => upTo_known (8388608) kp true wx (by exact decide_eq_true h3)
              have u4 := fun wx => upTo_known (4000) an true wx (by exact decide_eq_true h4)
              have u5 := fun wx => upTo_known (4000) hd true wx (by exact decide_eq_true h5)
              clear h0 h1 h2 h3 h4 h5
              go_enter Tryd.func29, Tryd.ntmps29
              go_wp2_with fail
              refine (u0 _).mono ?_
              rintro r w' ⟨rfl, hw⟩
              rw [hw]
              clear hw w' u0
              go_wp2_with fail
              refine (u1 _).mono ?_
              rintro r w' ⟨rfl, hw⟩
              rw [hw]
              clear hw w' u1
              go_wp2_with fail
              refine (u2 _).mono ?_
              rintro r w' ⟨rfl, hw⟩
              rw [hw]
              clear hw w' u2
              go_wp2_with fail
              refine (u3 _).mono ?_
              rintro r w' ⟨rfl, hw⟩
              rw [hw]
              clear hw w' u3
              go_wp2_with fail
              refine (u4 _).mono ?_
              rintro r w' ⟨rfl, hw⟩
              rw [hw]
              clear hw w' u4
              go_wp2_with fail
              refine (u5 _).mono ?_
              rintro r w' ⟨rfl, hw⟩
              rw [hw]
              clear hw w' u5
              go_wp2_with fail
              go_ret
              exact ⟨rfl, hb0⟩
            · rw [decide_eq_false (p := (0 ≤ nd ∧ nd ≤ (len : Int) - 1) ∧ (0 ≤ tw ∧ tw ≤ (len : Int) - 1) ∧ (0 ≤ pk ∧ pk ≤ 1048576) ∧ (0 ≤ kp ∧ kp ≤ 8388608) ∧ (0 ≤ an ∧ an ≤ 4000) ∧ (0 ≤ hd ∧ hd ≤ 4000)) (fun h => h5 h.2.2.2.2.2)]
              have u0 := fun wx => upTo_known ((len : Int) - 1) nd true wx (by exact decide_eq_true h0)
              have u1 := fun wx => upTo_known ((len : Int) - 1) tw true wx (by exact decide_eq_true h1)
              have u2 := fun wx => upTo_known (1048576) pk true wx (by exact decide_eq_true h2)
              have u3 := fun wx => upTo_known (8388608) kp true wx (by exact decide_eq_true h3)
              have u4 := fun wx => upTo_known (4000) an true wx (by exact decide_eq_true h4)
              have u5 := fun wx => upTo_known (4000) hd false wx (by exact decide_eq_false h5)
              clear h0 h1 h2 h3 h4 h5
              go_enter Tryd.func29, Tryd.ntmps29
              go_wp2_with fail
              refine (u0 _).mono ?_
              rintro r w' ⟨rfl, hw⟩
              rw [hw]
              clear hw w' u0
              go_wp2_with fail
              refine (u1 _).mono ?_
              rintro r w' ⟨rfl, hw⟩
              rw [hw]
              clear hw w' u1
              go_wp2_with fail
              refine (u2 _).mono ?_
              rintro r w' ⟨rfl, hw⟩
              rw [hw]
              clear hw w' u2
              go_wp2_with fail
              refine (u3 _).mono ?_
              rintro r w' ⟨rfl, hw⟩
              rw [hw]
              clear hw w' u3
              go_wp2_with fail
              refine (u4 _).mono ?_
              rintro r w' ⟨rfl, hw⟩
              rw [hw]
              clear hw w' u4
              go_wp2_with fail
              refine (u5 _).mono ?_
              rintro r w' ⟨rfl, hw⟩
              rw [hw]
              clear hw w' u5
              go_wp2_with fail
              go_ret
              exact ⟨rfl, hb0⟩
          · rw [decide_eq_false (p := (0 ≤ nd ∧ nd ≤ (len : Int) - 1) ∧ (0 ≤ tw ∧ tw ≤ (len : Int) - 1) ∧ (0 ≤ pk ∧ pk ≤ 1048576) ∧ (0 ≤ kp ∧ kp ≤ 8388608) ∧ (0 ≤ an ∧ an ≤ 4000) ∧ (0 ≤ hd ∧ hd ≤ 4000)) (fun h => h4 h.2.2.2.2.1)]
            have u0 := fun wx => upTo_known ((len : Int) - 1) nd true wx (by exact decide_eq_true h0)
            have u1 := fun wx => upTo_known ((len : Int) - 1) tw true wx (by exact decide_eq_true h1)
            have u2 := fun wx => upTo_known (1048576) pk true wx (by exact decide_eq_true h2)
            have u3 := fun wx => upTo_known (8388608) kp true wx (by exact decide_eq_true h3)
            have u4 := fun wx => upTo_known (4000) an false wx (by exact decide_eq_false h4)
            clear h0 h1 h2 h3 h4
            go_enter Tryd.func29, Tryd.ntmps29
            go_wp2_with fail
            refine (u0 _).mono ?_
            rintro r w' ⟨rfl, hw⟩
            rw [hw]
            clear hw w' u0
            go_wp2_with fail
            refine (u1 _).mono ?_
            rintro r w' ⟨rfl, hw⟩
            rw [hw]
            clear hw w' u1
            go_wp2_with fail
            refine (u2 _).mono ?_
            rintro r w' ⟨rfl, hw⟩
            rw [hw]
            clear hw w' u2
            go_wp2_with fail
            refine (u3 _).mono ?_
            rintro r w' ⟨rfl, hw⟩
            rw [hw]
            clear hw w' u3
            go_wp2_with fail
            refine (u4 _).mono ?_
            rintro r w' ⟨rfl, hw⟩
            rw [hw]
            clear hw w' u4
            go_wp2_with fail
            go_ret
            exact ⟨rfl, hb0⟩
        · rw [decide_eq_false (p := (0 ≤ nd ∧ nd ≤ (len : Int) - 1) ∧ (0 ≤ tw ∧ tw ≤ (len : Int) - 1) ∧ (0 ≤ pk ∧ pk ≤ 1048576) ∧ (0 ≤ kp ∧ kp ≤ 8388608) ∧ (0 ≤ an ∧ an ≤ 4000) ∧ (0 ≤ hd ∧ hd ≤ 4000)) (fun h => h3 h.2.2.2.1)]
          have u0 := fun wx => upTo_known ((len : Int) - 1) nd true wx (by exact decide_eq_true h0)
          have u1 := fun wx => upTo_known ((len : Int) - 1) tw true wx (by exact decide_eq_true h1)
          have u2 := fun wx => upTo_known (1048576) pk true wx (by exact decide_eq_true h2)
          have u3 := fun wx => upTo_known (8388608) kp false wx (by exact decide_eq_false h3)
          clear h0 h1 h2 h3
          go_enter Tryd.func29, Tryd.ntmps29
          go_wp2_with fail
          refine (u0 _).mono ?_
          rintro r w' ⟨rfl, hw⟩
          rw [hw]
          clear hw w' u0
          go_wp2_with fail
          refine (u1 _).mono ?_
          rintro r w' ⟨rfl, hw⟩
          rw [hw]
          clear hw w' u1
          go_wp2_with fail
          refine (u2 _).mono ?_
          rintro r w' ⟨rfl, hw⟩
          rw [hw]
          clear hw w' u2
          go_wp2_with fail
          refine (u3 _).mono ?_
          rintro r w' ⟨rfl, hw⟩
          rw [hw]
          clear hw w' u3
          go_wp2_with fail
          go_ret
          exact ⟨rfl, hb0⟩
      · rw [decide_eq_false (p := (0 ≤ nd ∧ nd ≤ (len : Int) - 1) ∧ (0 ≤ tw ∧ tw ≤ (len : Int) - 1) ∧ (0 ≤ pk ∧ pk ≤ 1048576) ∧ (0 ≤ kp ∧ kp ≤ 8388608) ∧ (0 ≤ an ∧ an ≤ 4000) ∧ (0 ≤ hd ∧ hd ≤ 4000)) (fun h => h2 h.2.2.1)]
        have u0 := fun wx => upTo_known ((len : Int) - 1) nd true wx (by exact decide_eq_true h0)
        have u1 := fun wx => upTo_known ((len : Int) - 1) tw true wx (by exact decide_eq_true h1)
        have u2 := fun wx => upTo_known (1048576) pk false wx (by exact decide_eq_false h2)
        clear h0 h1 h2
        go_enter Tryd.func29, Tryd.ntmps29
        go_wp2_with fail
        refine (u0 _).mono ?_
        rintro r w' ⟨rfl, hw⟩
        rw [hw]
        clear hw w' u0
        go_wp2_with fail
        refine (u1 _).mono ?_
        rintro r w' ⟨rfl, hw⟩
        rw [hw]
        clear hw w' u1
        go_wp2_with fail
        refine (u2 _).mono ?_
        rintro r w' ⟨rfl, hw⟩
        rw [hw]
        clear hw w' u2
        go_wp2_with fail
        go_ret
        exact ⟨rfl, hb0⟩
    · rw [decide_eq_false (p := (0 ≤ nd ∧ nd ≤ (len : Int) - 1) ∧ (0 ≤ tw ∧ tw ≤ (len : Int) - 1) ∧ (0 ≤ pk ∧ pk ≤ 1048576) ∧ (0 ≤ kp ∧ kp ≤ 8388608) ∧ (0 ≤ an ∧ an ≤ 4000) ∧ (0 ≤ hd ∧ hd ≤ 4000)) (fun h => h1 h.2.1)]
      have u0 := fun wx => upTo_known ((len : Int) - 1) nd true wx (by exact decide_eq_true h0)
      have u1 := fun wx => upTo_known ((len : Int) - 1) tw false wx (by exact decide_eq_false h1)
      clear h0 h1
      go_enter Tryd.func29, Tryd.ntmps29
      go_wp2_with fail
      refine (u0 _).mono ?_
      rintro r w' ⟨rfl, hw⟩
      rw [hw]
      clear hw w' u0
      go_wp2_with fail
      refine (u1 _).mono ?_
      rintro r w' ⟨rfl, hw⟩
      rw [hw]
      clear hw w' u1
      go_wp2_with fail
      go_ret
      exact ⟨rfl, hb0⟩
  · rw [decide_eq_false (p := (0 ≤ nd ∧ nd ≤ (len : Int) - 1) ∧ (0 ≤ tw ∧ tw ≤ (len : Int) - 1) ∧ (0 ≤ pk ∧ pk ≤ 1048576) ∧ (0 ≤ kp ∧ kp ≤ 8388608) ∧ (0 ≤ an ∧ an ≤ 4000) ∧ (0 ≤ hd ∧ hd ≤ 4000)) (fun h => h0 h.1)]
    have u0 := fun wx => upTo_known ((len : Int) - 1) nd false wx (by exact decide_eq_false h0)
    clear h0
    go_enter Tryd.func29, Tryd.ntmps29
    go_wp2_with fail
    refine (u0 _).mono ?_
    rintro r w' ⟨rfl, hw⟩
    rw [hw]
    clear hw w' u0
    go_wp2_with fail
    go_ret
    exact ⟨rfl, hb0⟩
end Go.Proofs.YtelindfmdakliaaDoor
