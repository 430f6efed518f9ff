/-
  Walks: the pieces of an operation: begin, step, take, takeAll.
-/
import Derived.Test.YtbobeecagcmclaaDoorSplitWalk
import Derived.Test.YtbobeecagcmclaaDoorPenMem
import Derived.Test.YtbobeecagcmclaaDoorPure
import Derived.Test.YtbobeecagcmclaaDoorLens
import Derived.Lib.Builder

/- Walks: the pieces of an operation: begin, step, take, takeAll. -/
namespace Go.Proofs.YtbobeecagcmclaaDoor
open Go.RowKit Go.Lib

/-- the piece at a walk's head -/
structure Head where
  kind : Int
  n : Nat
  rs : List Nat
def Head.steps (h : Head) : List Step := if h.kind = 2 then insS h.rs else List.replicate h.n (h.kind, 0)
/-- a head of this form: at the end, an insertion, a count -/
inductive HeadOk : Head → Prop where
  | fin : HeadOk ⟨0, 0, []⟩
  | ins (rs : List Nat) (h1 : 1 ≤ rs.length) (h2 : rs.length ≤ 4000) (hc : ∀ r ∈ rs, CP r) : HeadOk ⟨2, rs.length, rs⟩
  | cnt (k : Int) (n : Nat) (h1 : 1 ≤ n) (h2 : n ≤ 4000) (hk : k = 1 ∨ k = 3) : HeadOk ⟨k, n, []⟩
def headOf : List Part → Head
  | [] => ⟨0, 0, []⟩
  | p :: _ => ⟨p.kind, if p.kind = 2 then (runes p.text).length else p.n.toNat, if p.kind = 2 then runes p.text else []⟩

theorem headOf_ok {ps : List Part} (h : ∀ p ∈ ps, Good p) : HeadOk (headOf ps) := by
  cases ps with
  | nil => exact .fin
  | cons p ps =>
    have g := h p (by simp)
    by_cases hk : p.kind = 2
    · obtain ⟨_, hv, hl, hz⟩ := g.text hk
      simp only [headOf, hk, if_true]
      refine .ins _ ?_ hl hv.cp
      rcases Nat.eq_zero_or_pos (runes p.text).length with e | e
      · exfalso
        apply hz
        have : p.text = str (runes p.text) := hv.str.symm
        rw [List.length_eq_zero_iff.1 e] at this
        rw [this]; rfl
      · exact e
    · obtain ⟨h1, h2, _⟩ := g.count hk
      simp only [headOf, hk, if_false]
      exact .cnt _ _ (by omega) (by omega) (by rcases g.kind with h | h | h; exact .inl h; exact absurd h hk; exact .inr h)
theorem headOf_steps (ps : List Part) : steps ps = (headOf ps).steps ++ steps ps.tail := by
  cases ps with
  | nil => rfl
  | cons p ps =>
    rw [steps_cons, List.tail_cons]
    congr 1
    by_cases hk : p.kind = 2
    · simp [Head.steps, headOf, hk, stepsOf, insS]
    · simp [Head.steps, headOf, hk, stepsOf]

/-- A walk in block b, over an operation that lies in an older world. -/
structure WalkAt (w0 w : World) (b : Nat) (h : Head) (L : List Step) : Prop where
  base : w0.heap.size ≤ b
  bel : Below w0.heap.size w0 w
  ok : HeadOk h
  rest : ∃ a ps cap, w.heap[b]? = some (.cells #[.int .i64 h.kind, .int .i64 (h.n : Int), .string (str h.rs), .slice a ps.length cap] 127 (0, 0)) ∧ OpAt w0 a ps ∧ ps.length ≤ cap ∧ ps.length ≤ 1048576 ∧ (∀ p ∈ ps, Good p) ∧ (∀ p ∈ ps, p.text.size ≤ 1048576) ∧ L = h.steps ++ steps ps ∧ (h.n = 0 → ps = [])

theorem OpAt.tail {w : World} {b off : Nat} {p : Part} {ps : List Part} (h : OpAt w (some ⟨b, off, none⟩) (p :: ps)) : OpAt w (some ⟨b, off + 3, none⟩) ps := by
  rcases h with h | ⟨b', off', e, hb, hc⟩
  · cases h
  · simp only [Option.some.injEq, Addr.mk.injEq, and_true] at e
    obtain ⟨rfl, rfl⟩ := e
    refine .inr ⟨b, off + 3, rfl, hb, fun i hi => ?_⟩
    have := hc (i + 1) (by simp; omega)
    simp only [List.getElem_cons_succ] at this
    rw [show off + (i + 1) * 3 = off + 3 + i * 3 by omega] at this
    exact this
/-- what a walk holds in memory -/
theorem walk_cells {w : World} {b : Nat} {x0 x1 : Int} {x2 : ByteArray} {v : Value} (hblk : w.heap[b]? = some (.cells #[.int .i64 x0, .int .i64 x1, .string x2, v] 127 (0, 0))) :
    w.cell? ⟨b, 0, none⟩ = some (.int .i64 x0) ∧ w.cell? ⟨b, 1, none⟩ = some (.int .i64 x1) ∧ w.cell? ⟨b, 2, none⟩ = some (.string x2) ∧ w.cell? ⟨b, 3, none⟩ = some v ∧ (∀ j, w.frozen? ⟨b, j, none⟩ = false) ∧ b < w.heap.size := by
  refine ⟨by rw [Lib.cell_of_heap hblk]; rfl, by rw [Lib.cell_of_heap hblk]; rfl, by rw [Lib.cell_of_heap hblk]; rfl, by rw [Lib.cell_of_heap hblk]; rfl, fun j => Lib.frozen_of_heap hblk j, ?_⟩
  rcases Nat.lt_or_ge b w.heap.size with h' | h'
  · exact h'
  · rw [Array.getElem?_eq_none h'] at hblk; cases hblk
theorem set6 {w : World} {b : Nat} {x0 x1 x2 v : Value} (hblk : w.heap[b]? = some (.cells #[x0, x1, x2, v] 127 (0, 0))) (y0 y1 y2 z0 z1 z2 : Value) :
    ((((((w.setCell ⟨b, 0, none⟩ y0).setCell ⟨b, 1, none⟩ y1).setCell ⟨b, 2, none⟩ y2).setCell ⟨b, 0, none⟩ z0).setCell ⟨b, 1, none⟩ z1).setCell ⟨b, 2, none⟩ z2).heap[b]? = some (.cells #[z0, z1, z2, v] 127 (0, 0)) ∧
      Chg (fun k => k = b) w ((((((w.setCell ⟨b, 0, none⟩ y0).setCell ⟨b, 1, none⟩ y1).setCell ⟨b, 2, none⟩ y2).setCell ⟨b, 0, none⟩ z0).setCell ⟨b, 1, none⟩ z1).setCell ⟨b, 2, none⟩ z2) := by
  refine ⟨?_, ((((((Chg.refl (fun k => k = b) w).setCell (p := ⟨b, 0, none⟩) rfl _).setCell (p := ⟨b, 1, none⟩) rfl _).setCell (p := ⟨b, 2, none⟩) rfl _).setCell (p := ⟨b, 0, none⟩) rfl _).setCell (p := ⟨b, 1, none⟩) rfl _).setCell (p := ⟨b, 2, none⟩) rfl _⟩
  rw [Go.heap_setCell_same _ b 2 _ _ _ (Go.heap_setCell_same _ b 1 _ _ _ (Go.heap_setCell_same _ b 0 _ _ _ (Go.heap_setCell_same _ b 2 _ _ _ (Go.heap_setCell_same _ b 1 _ _ _ (Go.heap_setCell_same _ b 0 _ _ _ hblk)))))]
  rfl
theorem set_rest {w : World} {b : Nat} {x0 x1 x2 v : Value} (hblk : w.heap[b]? = some (.cells #[x0, x1, x2, v] 127 (0, 0))) (u : Value) : (w.setCell ⟨b, 3, none⟩ u).heap[b]? = some (.cells #[x0, x1, x2, u] 127 (0, 0)) := by
  rw [Go.heap_setCell_same _ b 3 _ _ _ hblk]
  rfl
theorem set_n {w : World} {b : Nat} {x0 x1 x2 v : Value} (hblk : w.heap[b]? = some (.cells #[x0, x1, x2, v] 127 (0, 0))) (u : Value) : (w.setCell ⟨b, 1, none⟩ u).heap[b]? = some (.cells #[x0, u, x2, v] 127 (0, 0)) := by
  rw [Go.heap_setCell_same _ b 1 _ _ _ hblk]
  rfl
theorem set_text {w : World} {b : Nat} {x0 x1 x2 v : Value} (hblk : w.heap[b]? = some (.cells #[x0, x1, x2, v] 127 (0, 0))) (u : Value) : (w.setCell ⟨b, 2, none⟩ u).heap[b]? = some (.cells #[x0, x1, u, v] 127 (0, 0)) := by
  rw [Go.heap_setCell_same _ b 2 _ _ _ hblk]
  rfl
theorem WalkAt.mk' {w0 w w' : World} {b : Nat} {a : Option Addr} {ps : List Part} {cap : Nat} {h : Head} {L : List Step} (hb : w0.heap.size ≤ b) (lb : b < w.heap.size) (hbel : Below w0.heap.size w0 w) (chg : Chg (fun k => k = b) w w') (ok : HeadOk h)
    (hblk : w'.heap[b]? = some (.cells #[.int .i64 h.kind, .int .i64 (h.n : Int), .string (str h.rs), .slice a ps.length cap] 127 (0, 0))) (hop : OpAt w0 a ps) (hc : ps.length ≤ cap) (hn : ps.length ≤ 1048576) (hg : ∀ p ∈ ps, Good p) (hs : ∀ p ∈ ps, p.text.size ≤ 1048576) (hL : L = h.steps ++ steps ps) (hz : h.n = 0 → ps = []) :
    WalkAt w0 w' b h L :=
  ⟨hb, hbel.trans (Chg.below chg (fun k e => by subst e; exact hb) (by omega)), ok, a, ps, cap, hblk, hop, hc, hn, hg, hs, hL, hz⟩
theorem HeadOk.pos {h : Head} (ok : HeadOk h) (hk : h.kind ≠ 0) : 1 ≤ h.n := by
  cases ok with
  | fin => exact absurd rfl hk
  | ins rs h1 => exact h1
  | cnt k n h1 => exact h1
theorem good_head {p : Part} {ps : List Part} (g : Good p) : (headOf (p :: ps)).n ≠ 0 := by
  have ok := headOf_ok (ps := [p]) (fun q hq => by simp at hq; subst hq; exact g)
  have := ok.pos (by rcases g.kind with h | h | h <;> simp [headOf, h])
  have e : headOf (p :: ps) = headOf [p] := rfl
  rw [e]; omega

set_option maxRecDepth 100000 in
set_option maxHeartbeats 1000000 in
theorem step_any (w0 w : World) (b : Nat) (x0 x1 : Int) (x2 : ByteArray) (a : Option Addr) (ps : List Part) (cap : Nat) (hb : w0.heap.size ≤ b) (hbel : Below w0.heap.size w0 w) (hblk : w.heap[b]? = some (.cells #[.int .i64 x0, .int .i64 x1, .string x2, .slice a ps.length cap] 127 (0, 0)))
    (hop : OpAt w0 a ps) (hc : ps.length ≤ cap) (hn : ps.length ≤ 1048576) (hg : ∀ p ∈ ps, Good p) (hs : ∀ p ∈ ps, p.text.size ≤ 1048576) :
    Calls Tryd.prog 78 #[.pointer (some ⟨b, 0, none⟩)] w fun e w' => e = .returned (.tuple #[]) ∧ WalkAt w0 w' b (headOf ps) (steps ps) ∧ Chg (fun k => k = b) w w' := by
  obtain ⟨c0, c1, c2, c3, hf, lb⟩ := walk_cells hblk
  have f0 := hf 0
  have f1 := hf 1
  have f2 := hf 2
  have f3 := hf 3
  clear hf
  cases ps with
  | nil =>
    go_enter Tryd.func78, Tryd.ntmps78
    go_wp2
    refine bodyPost_ret (v := .tuple #[]) (by simp [results, Tryd.results78, go_sem]) rfl ?_
    have chg := ((((Chg.refl (fun k => k = b) w).setCell (p := ⟨b, 0, none⟩) rfl (.int .i64 0)).setCell (p := ⟨b, 1, none⟩) rfl (.int .i64 0)).setCell (p := ⟨b, 2, none⟩) rfl (.string ByteArray.empty))
    refine ⟨rfl, WalkAt.mk' (h := ⟨0, 0, []⟩) (a := a) (ps := []) (cap := cap) hb lb hbel chg .fin ?_ (.inl rfl) hc hn hg hs rfl (fun _ => rfl), chg⟩
    rw [Go.heap_setCell_same _ b 2 _ _ _ (Go.heap_setCell_same _ b 1 _ _ _ (Go.heap_setCell_same _ b 0 _ _ _ hblk))]
    rfl
  | cons p ps =>
    have g := hg p (by simp)
    have hsz := hs p (by simp)
    have hnz : Hid ((headOf (p :: ps)).n ≠ 0) := good_head g
    have HOK : Hid (HeadOk (headOf (p :: ps))) := headOf_ok hg
    have HST : Hid (steps (p :: ps) = (headOf (p :: ps)).steps ++ steps ps) := headOf_steps (p :: ps)
    have hg' : ∀ q ∈ ps, Good q := fun q hq => hg q (List.mem_cons_of_mem _ hq)
    have hs' : ∀ q ∈ ps, q.text.size ≤ 1048576 := fun q hq => hs q (List.mem_cons_of_mem _ hq)
    clear hg hs
    rcases hop with h' | ⟨ob, off, rfl, hobs, hcell⟩
    · cases h'
    · have htl : OpAt w0 (some ⟨ob, off + 3, none⟩) ps := OpAt.tail (p := p) (.inr ⟨ob, off, rfl, hobs, hcell⟩)
      obtain ⟨d0, d1, d2⟩ := hcell 0 (by simp)
      clear hcell
      rw [← bcell hbel _ _ hobs] at d0 d1 d2
      simp only [List.getElem_cons_zero, Nat.zero_mul, Nat.add_zero] at d0 d1 d2
      simp only [List.length_cons] at c3 hc hn hblk
      have hne : ob ≠ b := by omega
      by_cases hk : p.kind = 2
      · obtain ⟨hn0, hv, _, _⟩ := g.text hk
        have HH : Hid (headOf (p :: ps) = ⟨2, (runes p.text).length, runes p.text⟩) := by show _ = _; simp [headOf, hk]
        have HT : Hid (str (runes p.text) = p.text) := hv.str
        clear g hv
        obtain ⟨kd, n, tx⟩ := p
        simp only at d0 d1 d2 hsz hk hn0 HH HT
        subst hk hn0
        obtain ⟨H, hH⟩ : ∃ H, H = headOf (⟨2, 0, tx⟩ :: ps) := ⟨_, rfl⟩
        obtain ⟨S, hS⟩ : ∃ S, S = steps (⟨2, 0, tx⟩ :: ps) := ⟨_, rfl⟩
        rw [← hH, ← hS] at HST
        rw [← hH] at hnz HOK HH
        rw [← hH, ← hS]
        clear hH hS
        have cC := fun w1 => count_any tx w1 (by omega)
        go_enter Tryd.func78, Tryd.ntmps78
        go_wp2_with fail
        refine (cC _).mono ?_
        rintro e w1 ⟨rfl, hb1⟩
        obtain ⟨k6, g6⟩ := set6 hblk (.int .i64 0) (.int .i64 0) (.string ByteArray.empty) (.int .i64 2) (.int .i64 0) (.string tx)
        have chg1 : Chg (fun k => k = b) w w1 := (g6.alloc (.cells #[.int .i64 2, .int .i64 0, .string tx] 75)).trans (Chg.of_below (F := fun k => k = b) hb1) (fun _ _ e => e)
        have blk1 := (hb1.block b (by have := g6.size; simp; omega)).trans (row_old k6 _)
        clear hb1 k6 g6 cC c0 c1 c2 c3 f0 f1 f2 f3 hblk d0 d1 d2
        obtain ⟨c0, c1, c2, c3, hf, _⟩ := walk_cells blk1
        have f1 := hf 1
        have f3 := hf 3
        have HB : Hid (w1.heap[b]? = some (.cells #[.int .i64 2, .int .i64 0, .string tx, .slice (some ⟨ob, off, none⟩) (ps.length + 1) cap] 127 (0, 0))) := blk1
        clear hf blk1
        go_wp2
        all_goals go_end0
        all_goals refine ⟨rfl, ?_⟩
        all_goals rw [HST.out]
        all_goals (have ok := HOK.out; have nz := hnz.out; rw [HH.out] at ok nz ⊢)
        · have chg := (chg1.setCell (p := ⟨b, 1, none⟩) rfl (.int .i64 (runes tx).length)).setCell (p := ⟨b, 3, none⟩) rfl (.slice (some ⟨ob, off, none⟩) ps.length 0)
          have hz : ps = [] := List.length_eq_zero_iff.1 (by omega)
          refine ⟨WalkAt.mk' (a := some ⟨ob, off, none⟩) (cap := 0) (ps := ps) hb lb hbel chg ok ?_ (.inl hz) (by omega) (by omega) hg' hs' rfl (fun e => absurd e nz), chg⟩
          simp only
          rw [HT.out]
          exact set_rest (set_n HB.out _) _
        · have chg := (chg1.setCell (p := ⟨b, 1, none⟩) rfl (.int .i64 (runes tx).length)).setCell (p := ⟨b, 3, none⟩) rfl (.slice (some ⟨ob, off + 3, none⟩) ps.length (cap - 1))
          refine ⟨WalkAt.mk' (cap := cap - 1) (ps := ps) hb lb hbel chg ok ?_ htl (by omega) (by omega) hg' hs' rfl (fun e => absurd e nz), chg⟩
          simp only
          rw [HT.out]
          exact set_rest (set_n HB.out _) _
      · have g2 : (p.kind == 2) = false := by simpa using hk
        obtain ⟨h1, h2, h3⟩ := g.count hk
        have HH : Hid (headOf (p :: ps) = ⟨p.kind, p.n.toNat, []⟩) := by show _ = _; simp [headOf, hk]
        clear g hk
        obtain ⟨kd, n, tx⟩ := p
        simp only at d0 d1 d2 hsz h1 h2 h3 g2 HH
        subst h3
        obtain ⟨q, rfl⟩ : ∃ q : Nat, n = q := ⟨n.toNat, by omega⟩
        obtain ⟨H, hH⟩ : ∃ H, H = headOf (⟨kd, (q : Int), ByteArray.empty⟩ :: ps) := ⟨_, rfl⟩
        obtain ⟨S, hS⟩ : ∃ S, S = steps (⟨kd, (q : Int), ByteArray.empty⟩ :: ps) := ⟨_, rfl⟩
        rw [← hH, ← hS] at HST
        rw [← hH] at hnz HOK HH
        rw [← hH, ← hS]
        clear hH hS
        go_enter Tryd.func78, Tryd.ntmps78
        go_wp2
        all_goals go_end0
        all_goals refine ⟨rfl, ?_⟩
        all_goals rw [HST.out]
        all_goals (have ok := HOK.out; have nz := hnz.out; rw [HH.out] at ok nz ⊢; simp only [Int.toNat_natCast] at ok nz ⊢)
        · obtain ⟨k6, g6⟩ := set6 hblk (.int .i64 0) (.int .i64 0) (.string ByteArray.empty) (.int .i64 kd) (.int .i64 (q : Int)) (.string ByteArray.empty)
          have chg := (g6.setCell (p := ⟨b, 3, none⟩) rfl (.slice (some ⟨ob, off, none⟩) ps.length 0)).alloc (.cells #[.int .i64 kd, .int .i64 (q : Int), .string ByteArray.empty] 75)
          have hz : ps = [] := List.length_eq_zero_iff.1 (by omega)
          exact ⟨WalkAt.mk' (a := some ⟨ob, off, none⟩) (cap := 0) (ps := ps) hb lb hbel chg ok (row_old (set_rest k6 _) _) (.inl hz) (by omega) (by omega) hg' hs' rfl (fun e => absurd e nz), chg⟩
        · obtain ⟨k6, g6⟩ := set6 hblk (.int .i64 0) (.int .i64 0) (.string ByteArray.empty) (.int .i64 kd) (.int .i64 (q : Int)) (.string ByteArray.empty)
          have chg := (g6.setCell (p := ⟨b, 3, none⟩) rfl (.slice (some ⟨ob, off + 3, none⟩) ps.length (cap - 1))).alloc (.cells #[.int .i64 kd, .int .i64 (q : Int), .string ByteArray.empty] 75)
          exact ⟨WalkAt.mk' (ps := ps) hb lb hbel chg ok (row_old (set_rest k6 _) _) htl (by omega) (by omega) hg' hs' rfl (fun e => absurd e nz), chg⟩

/-- the piece that is taken -/
def Head.cut (h : Head) (n : Nat) : Head := ⟨h.kind, n, h.rs.take n⟩
theorem Head.cut_steps {h : Head} (ok : HeadOk h) {n : Nat} (hn : n ≤ h.n) (S : List Step) : (h.steps ++ S).take n = (h.cut n).steps := by
  cases ok with
  | fin => simp only at hn; simp [Head.steps, Head.cut, show n = 0 by omega]
  | ins rs h1 h2 hc =>
    simp only at hn
    simp only [Head.steps, Head.cut, if_true]
    rw [List.take_append_of_le_length (by simp [insS]; exact hn)]
    simp [insS]
  | cnt k m h1 h2 hk =>
    simp only at hn
    have hk2 : k ≠ 2 := by omega
    have e1 : (⟨k, m, []⟩ : Head).steps = List.replicate m (k, 0) := by simp [Head.steps, hk2]
    have e2 : ((⟨k, m, []⟩ : Head).cut n).steps = List.replicate n (k, 0) := by simp [Head.cut, Head.steps, hk2]
    rw [e1, e2, List.take_append_of_le_length (by simpa using hn), List.take_replicate, Nat.min_eq_left hn]

theorem Head.drop_some {h : Head} (ok : HeadOk h) {n : Nat} (hn : n < h.n) (S : List Step) : (h.steps ++ S).drop n = (⟨h.kind, h.n - n, h.rs.drop n⟩ : Head).steps ++ S ∧ HeadOk ⟨h.kind, h.n - n, h.rs.drop n⟩ := by
  cases ok with
  | fin => simp only at hn; omega
  | ins rs h1 h2 hc =>
    simp only at hn ⊢
    refine ⟨?_, ?_⟩
    · simp only [Head.steps, if_true]
      rw [List.drop_append_of_le_length (by simp [insS]; omega)]
      simp [insS]
    · have e : rs.length - n = (rs.drop n).length := by simp
      rw [e]
      exact .ins _ (by rw [← e]; omega) (by rw [← e]; omega) (fun r hr => hc r (List.mem_of_mem_drop hr))
  | cnt k m h1 h2 hk =>
    simp only at hn ⊢
    have hk2 : k ≠ 2 := by omega
    refine ⟨?_, by rw [List.drop_nil]; exact .cnt _ _ (by omega) (by omega) hk⟩
    have e1 : (⟨k, m, []⟩ : Head).steps = List.replicate m (k, 0) := by simp [Head.steps, hk2]
    have e2 : (⟨k, m - n, List.drop n []⟩ : Head).steps = List.replicate (m - n) (k, 0) := by simp [Head.steps, hk2]
    rw [e1, e2, List.drop_append_of_le_length (by simp; omega), List.drop_replicate]
theorem set3 {w : World} {r : Nat} {x0 x1 x2 : Value} (h : w.heap[r]? = some (.cells #[x0, x1, x2] 125 (0, 0))) (y0 y1 y2 : Value) :
    (((w.setCell ⟨r, 0, none⟩ y0).setCell ⟨r, 1, none⟩ y1).setCell ⟨r, 2, none⟩ y2).heap[r]? = some (.cells #[y0, y1, y2] 125 (0, 0)) ∧ Chg (fun k => k = r) w (((w.setCell ⟨r, 0, none⟩ y0).setCell ⟨r, 1, none⟩ y1).setCell ⟨r, 2, none⟩ y2) := by
  refine ⟨?_, (((Chg.refl (fun k => k = r) w).setCell (p := ⟨r, 0, none⟩) rfl _).setCell (p := ⟨r, 1, none⟩) rfl _).setCell (p := ⟨r, 2, none⟩) rfl _⟩
  rw [Go.heap_setCell_same _ r 2 _ _ _ (Go.heap_setCell_same _ r 1 _ _ _ (Go.heap_setCell_same _ r 0 _ _ _ h))]
  rfl
theorem WalkAt.kept {F : Nat → Prop} {w0 w w' : World} {b : Nat} {h : Head} {L : List Step} (hw : WalkAt w0 w b h L) (c : Chg F w w') (hb : ¬ F b) (hF : ∀ k, F k → w0.heap.size ≤ k) : WalkAt w0 w' b h L := by
  obtain ⟨h1, h2, h3, a, ps, cap, hblk, hr⟩ := hw
  obtain ⟨_, _, _, _, _, lb⟩ := walk_cells hblk
  exact ⟨h1, h2.trans (Chg.below c hF h2.size), h3, a, ps, cap, by rw [c.block b lb hb]; exact hblk, hr⟩
theorem WalkAt.lt {w0 w : World} {b : Nat} {h : Head} {L : List Step} (hw : WalkAt w0 w b h L) : b < w.heap.size := by
  obtain ⟨h1, h2, h3, a, ps, cap, hblk, hr⟩ := hw
  exact (walk_cells hblk).2.2.2.2.2
theorem Head.drop_all {h : Head} (ok : HeadOk h) (S : List Step) : (h.steps ++ S).drop h.n = S := by
  cases ok with
  | fin => rfl
  | ins rs h1 h2 hc => simp [Head.steps, insS]
  | cnt k m h1 h2 hk =>
    have hk2 : k ≠ 2 := by omega
    simp [Head.steps, hk2]
set_option maxRecDepth 100000 in
set_option maxHeartbeats 1000000 in
theorem take_any (w0 w : World) (b : Nat) (h : Head) (L : List Step) (n : Nat) (hw : WalkAt w0 w b h L) (hn : n ≤ h.n) (hpos : 1 ≤ h.n) :
    Calls Tryd.prog 71 #[.pointer (some ⟨b, 0, none⟩), .int .i64 (n : Int)] w fun e w' => e = .returned (.agg #[.int .i64 h.kind, .int .i64 (n : Int), .string (str (h.rs.take n))]) ∧ (∃ h', WalkAt w0 w' b h' (L.drop n)) ∧ Chg (fun k => k = b) w w' := by
  obtain ⟨hb, hbel, ok, a, ps, cap, hblk, hop, hc, hl, hg, hs, hL, hz⟩ := hw
  have HL : Hid (L = h.steps ++ steps ps) := hL
  obtain ⟨c0, c1, c2, c3, hf, lb⟩ := walk_cells hblk
  obtain ⟨kd, m, rs⟩ := h
  simp only at c0 c1 c2 hn hpos hblk HL
  have hm : m ≤ 4000 := by cases ok <;> omega
  have f1 := hf 1
  have f2 := hf 2
  by_cases hnm : n = m
  · subst hnm
    have HT : Hid (rs.take n = rs) := by
      show _ = _
      cases ok <;> simp
    have HD : Hid (L.drop n = steps ps) := by
      show _ = _
      rw [HL.out]
      exact Head.drop_all ok _
    have cS := fun w1 hb1 hk1 => step_any w0 w1 b kd n (str rs) a ps cap hb hb1 hk1 hop hc hl hg hs
    obtain ⟨R, HR⟩ : ∃ R, Hid (R = str (rs.take n)) := ⟨_, rfl⟩
    rw [← HR.out]
    obtain ⟨M, HM⟩ : ∃ M, Hid (M = L.drop n) := ⟨_, rfl⟩
    rw [← HM.out]
    go_enter Tryd.func71, Tryd.ntmps71
    go_wp2_with fail
    refine (cS _ ((hbel.alloc hbel.size _).alloc (by have := hbel.size; simp; omega) _) (row_old (row_old hblk _) _)).mono ?_
    rintro e w1 ⟨rfl, hw1, chg1⟩
    have kr := (chg1.block w.heap.size (by simp; omega) (by omega)).trans (row_old (heap_alloc_new w _) _)
    have kp := (chg1.block (w.heap.size + 1) (by simp) (by omega)).trans (heap_two w _ _)
    have hsz := chg1.size
    have chg : Chg (fun k => k = b) w w1 := (((Chg.refl (fun k => k = b) w).alloc _).alloc _).trans chg1 (fun _ _ e => e)
    clear chg1 c0 c1 c2 c3 hf f1 f2 hblk cS
    have p0 : w1.cell? ⟨w.heap.size + 1, 0, none⟩ = some (.int .i64 kd) := by rw [Lib.cell_of_heap kp]; rfl
    have p1 : w1.cell? ⟨w.heap.size + 1, 1, none⟩ = some (.int .i64 (n : Int)) := by rw [Lib.cell_of_heap kp]; rfl
    have p2 : w1.cell? ⟨w.heap.size + 1, 2, none⟩ = some (.string (str rs)) := by rw [Lib.cell_of_heap kp]; rfl
    have r0 : w1.cell? ⟨w.heap.size, 0, none⟩ = some (.int .i64 0) := by rw [Lib.cell_of_heap kr]; rfl
    have r1 : w1.cell? ⟨w.heap.size, 1, none⟩ = some (.int .i64 0) := by rw [Lib.cell_of_heap kr]; rfl
    have r2 : w1.cell? ⟨w.heap.size, 2, none⟩ = some (.string ByteArray.empty) := by rw [Lib.cell_of_heap kr]; rfl
    have q0 : w1.frozen? ⟨w.heap.size, 0, none⟩ = false := Lib.frozen_of_heap kr 0
    have q1 : w1.frozen? ⟨w.heap.size, 1, none⟩ = false := Lib.frozen_of_heap kr 1
    have q2 : w1.frozen? ⟨w.heap.size, 2, none⟩ = false := Lib.frozen_of_heap kr 2
    go_wp2
    obtain ⟨k3, g3⟩ := set3 kr (.int .i64 kd) (.int .i64 (n : Int)) (.string (str rs))
    refine bodyPost_ret (results_cell_row rfl _ _ w.heap.size _ _ _ _ rfl k3 Tryd.underlying125 rfl (by kernel_rfl)) rfl ?_
    have hbw := hbel.size
    refine ⟨by rw [HR.out, HT.out], ⟨headOf ps, ?_⟩, chg.trans g3 (fun i h1 h2 => by subst h2; omega)⟩
    rw [HM.out, HD.out]
    exact hw1.kept g3 (by omega) (fun k e => by omega)
  · have hlt : n < m := by omega
    have hcp : ∀ r ∈ rs, CP r := by cases ok <;> simp_all
    have hrl : rs.length ≤ 4000 := by cases ok <;> simp_all
    have hsr := encs_le hcp
    rw [← str_size] at hsr
    have cS := fun w1 => split_any rs n w1 hcp (by omega) (by omega)
    go_enter Tryd.func71, Tryd.ntmps71
    go_wp2_with fail
    refine (cS _).mono ?_
    rintro e w1 ⟨rfl, hb1⟩
    have g1 := (Chg.refl (fun k => k = b) w).setCell (p := ⟨b, 1, none⟩) rfl (.int .i64 ((m : Int) - n))
    have hsz1 := hb1.size
    have hsz0 : (w.setCell ⟨b, 1, none⟩ (.int .i64 ((m : Int) - n))).heap.size = w.heap.size := by simp [World.setCell]
    have kb := (hb1.block b (by simp; omega)).trans (row_old (row_old (set_n hblk _) _) _)
    have kr : w1.heap[w.heap.size]? = some (.cells #[.int .i64 0, .int .i64 0, .string ByteArray.empty] 125 (0, 0)) := by
      rw [hb1.block w.heap.size (by simp; omega)]
      have := row_old (heap_alloc_new (w.setCell ⟨b, 1, none⟩ (.int .i64 ((m : Int) - n))) (.cells #[.int .i64 0, .int .i64 0, .string ByteArray.empty] 125 (0, 0))) (.cells #[.int .i64 kd, .int .i64 (n : Int), .string (str rs)] 125 (0, 0))
      rw [hsz0] at this
      exact this
    have kp : w1.heap[w.heap.size + 1]? = some (.cells #[.int .i64 kd, .int .i64 (n : Int), .string (str rs)] 125 (0, 0)) := by
      rw [hb1.block (w.heap.size + 1) (by simp)]
      have := heap_two (w.setCell ⟨b, 1, none⟩ (.int .i64 ((m : Int) - n))) (.cells #[.int .i64 0, .int .i64 0, .string ByteArray.empty] 125 (0, 0)) (.cells #[.int .i64 kd, .int .i64 (n : Int), .string (str rs)] 125 (0, 0))
      rw [hsz0] at this
      exact this
    have chg1 : Chg (fun k => k = b) w w1 := ((g1.alloc _).alloc _).trans (Chg.of_below (F := fun k => k = b) hb1) (fun _ _ e => e)
    clear c0 c1 c2 c3 hf f1 f2 hblk cS
    obtain ⟨c0, c1, c2, c3, hf, lb1⟩ := walk_cells kb
    have f2 := hf 2
    have p0 : w1.cell? ⟨w.heap.size + 1, 0, none⟩ = some (.int .i64 kd) := by rw [Lib.cell_of_heap kp]; rfl
    have p1 : w1.cell? ⟨w.heap.size + 1, 1, none⟩ = some (.int .i64 (n : Int)) := by rw [Lib.cell_of_heap kp]; rfl
    have p2 : w1.cell? ⟨w.heap.size + 1, 2, none⟩ = some (.string (str rs)) := by rw [Lib.cell_of_heap kp]; rfl
    have e2 : w1.frozen? ⟨w.heap.size + 1, 2, none⟩ = false := Lib.frozen_of_heap kp 2
    have r0 : w1.cell? ⟨w.heap.size, 0, none⟩ = some (.int .i64 0) := by rw [Lib.cell_of_heap kr]; rfl
    have r1 : w1.cell? ⟨w.heap.size, 1, none⟩ = some (.int .i64 0) := by rw [Lib.cell_of_heap kr]; rfl
    have r2 : w1.cell? ⟨w.heap.size, 2, none⟩ = some (.string ByteArray.empty) := by rw [Lib.cell_of_heap kr]; rfl
    have q0 : w1.frozen? ⟨w.heap.size, 0, none⟩ = false := Lib.frozen_of_heap kr 0
    have q1 : w1.frozen? ⟨w.heap.size, 1, none⟩ = false := Lib.frozen_of_heap kr 1
    have q2 : w1.frozen? ⟨w.heap.size, 2, none⟩ = false := Lib.frozen_of_heap kr 2
    have hbn : b ≠ w.heap.size := by omega
    have hbn1 : b ≠ w.heap.size + 1 := by omega
    clear hb1 hsz1
    go_wp2
    have kb2 := set_text (w := w1.setCell ⟨w.heap.size + 1, 2, none⟩ (.string (str (rs.take n)))) (by rw [Below.heap_setCell w1 ⟨w.heap.size + 1, 2, none⟩ _ b hbn1]; exact kb) (.string (str (rs.drop n)))
    have kr2 : ((w1.setCell ⟨w.heap.size + 1, 2, none⟩ (.string (str (rs.take n)))).setCell ⟨b, 2, none⟩ (.string (str (rs.drop n)))).heap[w.heap.size]? = some (.cells #[.int .i64 0, .int .i64 0, .string ByteArray.empty] 125 (0, 0)) := by
      rw [Below.heap_setCell _ ⟨b, 2, none⟩ _ w.heap.size (fun e => hbn e.symm), Below.heap_setCell _ ⟨w.heap.size + 1, 2, none⟩ _ w.heap.size (by simp)]
      exact kr
    obtain ⟨k3, g3⟩ := set3 kr2 (.int .i64 kd) (.int .i64 (n : Int)) (.string (str (rs.take n)))
    refine bodyPost_ret (results_cell_row rfl _ _ w.heap.size _ _ _ _ rfl k3 Tryd.underlying125 rfl (by kernel_rfl)) rfl ?_
    have g4 : Chg (fun k => k = b ∨ w.heap.size ≤ k) w1 _ := (((Chg.refl _ w1).setCell (p := ⟨w.heap.size + 1, 2, none⟩) (.inr (by simp)) (.string (str (rs.take n)))).setCell (p := ⟨b, 2, none⟩) (.inl rfl) (.string (str (rs.drop n)))).trans g3 (fun i _ e => .inr (by omega))
    have chg := chg1.trans g4 (fun i h1 h2 => by rcases h2 with h2 | h2; exact h2; omega)
    obtain ⟨hd, hok⟩ := Head.drop_some ok (n := n) (by simpa using hlt) (steps ps)
    have hbw := hbel.size
    refine ⟨rfl, ⟨⟨kd, m - n, rs.drop n⟩, WalkAt.mk' (a := a) (cap := cap) (ps := ps) hb lb hbel chg hok ?_ hop hc hl hg hs (by rw [HL.out, hd]) (fun e => by simp only at e; omega)⟩, chg⟩
    rw [g3.block b (by have := lb1; simp [World.setCell]; omega) (by omega)]
    have e : ((m - n : Nat) : Int) = (m : Int) - n := by omega
    simp only
    rw [e]
    exact kb2

end Go.Proofs.YtbobeecagcmclaaDoor

/- Walks: takeAll, begin. -/
namespace Go.Proofs.YtbobeecagcmclaaDoor
open Go.RowKit Go.Lib

theorem WalkAt.head {w0 w : World} {b : Nat} {h : Head} {L : List Step} (hw : WalkAt w0 w b h L) : w.cell? ⟨b, 0, none⟩ = some (.int .i64 h.kind) ∧ w.cell? ⟨b, 1, none⟩ = some (.int .i64 (h.n : Int)) ∧ w.cell? ⟨b, 2, none⟩ = some (.string (str h.rs)) := by
  obtain ⟨h1, h2, h3, a, ps, cap, hblk, hr⟩ := hw
  obtain ⟨c0, c1, c2, _⟩ := walk_cells hblk
  exact ⟨c0, c1, c2⟩
theorem Head.take_all {h : Head} (ok : HeadOk h) : h.rs.take h.n = h.rs := by cases ok <;> simp
theorem WalkAt.same {w0 w w' : World} {b : Nat} {h : Head} {L : List Step} (hw : WalkAt w0 w b h L) (hb : Below w.heap.size w w') : WalkAt w0 w' b h L :=
  hw.kept (F := fun _ => False) (Chg.of_below hb) (fun h => h) (fun _ h => h.elim)

set_option maxRecDepth 100000 in
set_option maxHeartbeats 1000000 in
theorem takeAll_any (w0 w : World) (b : Nat) (h : Head) (L : List Step) (hw : WalkAt w0 w b h L) (hpos : 1 ≤ h.n) :
    Calls Tryd.prog 67 #[.pointer (some ⟨b, 0, none⟩)] w fun e w' => e = .returned (.agg #[.int .i64 h.kind, .int .i64 (h.n : Int), .string (str h.rs)]) ∧ (∃ h', WalkAt w0 w' b h' (L.drop h.n)) ∧ Chg (fun k => k = b) w w' := by
  obtain ⟨c0, c1, c2⟩ := hw.head
  have lb := hw.lt
  have hbw := hw.bel.size
  have hbb := hw.base
  have cT := fun w1 hw1 => take_any w0 w1 b h L h.n hw1 (Nat.le_refl _) hpos
  rw [Head.take_all hw.ok] at cT
  obtain ⟨kd, n, rs⟩ := h
  simp only at c0 c1 c2 cT hpos
  go_enter Tryd.func67, Tryd.ntmps67
  go_wp2_with fail
  refine (cT _ (hw.same ((Below.refl _ _).alloc (Nat.le_refl _) _))).mono ?_
  rintro e w1 ⟨rfl, ⟨h', hw1⟩, chg1⟩
  have kr := (chg1.block w.heap.size (by simp) (by omega)).trans (heap_alloc_new w _)
  have chg : Chg (fun k => k = b) w w1 := ((Chg.refl (fun k => k = b) w).alloc _).trans chg1 (fun _ _ e => e)
  clear chg1 c0 c1 c2 cT
  have r0 : w1.cell? ⟨w.heap.size, 0, none⟩ = some (.int .i64 0) := by rw [Lib.cell_of_heap kr]; rfl
  have r1 : w1.cell? ⟨w.heap.size, 1, none⟩ = some (.int .i64 0) := by rw [Lib.cell_of_heap kr]; rfl
  have r2 : w1.cell? ⟨w.heap.size, 2, none⟩ = some (.string ByteArray.empty) := by rw [Lib.cell_of_heap kr]; rfl
  have q0 : w1.frozen? ⟨w.heap.size, 0, none⟩ = false := Lib.frozen_of_heap kr 0
  have q1 : w1.frozen? ⟨w.heap.size, 1, none⟩ = false := Lib.frozen_of_heap kr 1
  have q2 : w1.frozen? ⟨w.heap.size, 2, none⟩ = false := Lib.frozen_of_heap kr 2
  go_wp2
  obtain ⟨k3, g3⟩ := set3 kr (.int .i64 kd) (.int .i64 (n : Int)) (.string (str rs))
  refine bodyPost_ret (results_cell_row rfl _ _ w.heap.size _ _ _ _ rfl k3 Tryd.underlying125 rfl (by kernel_rfl)) rfl ?_
  exact ⟨rfl, ⟨h', hw1.kept g3 (by omega) (fun k e => by omega)⟩, chg.trans g3 (fun i h1 h2 => by subst h2; omega)⟩

/-- a walk as a value -/
def WalkVal (w0 : World) (h : Head) (L : List Step) (v : Value) : Prop :=
  HeadOk h ∧ ∃ a ps cap, v = .agg #[.int .i64 h.kind, .int .i64 (h.n : Int), .string (str h.rs), .slice a ps.length cap] ∧ OpAt w0 a ps ∧ ps.length ≤ cap ∧ ps.length ≤ 1048576 ∧ (∀ p ∈ ps, Good p) ∧ (∀ p ∈ ps, p.text.size ≤ 1048576) ∧ L = h.steps ++ steps ps ∧ (h.n = 0 → ps = [])

theorem set4 {w : World} {r : Nat} {x0 x1 x2 x3 : Value} (h : w.heap[r]? = some (.cells #[x0, x1, x2, x3] 127 (0, 0))) (y0 y1 y2 y3 : Value) :
    ((((w.setCell ⟨r, 0, none⟩ y0).setCell ⟨r, 1, none⟩ y1).setCell ⟨r, 2, none⟩ y2).setCell ⟨r, 3, none⟩ y3).heap[r]? = some (.cells #[y0, y1, y2, y3] 127 (0, 0)) ∧ Chg (fun k => k = r) w ((((w.setCell ⟨r, 0, none⟩ y0).setCell ⟨r, 1, none⟩ y1).setCell ⟨r, 2, none⟩ y2).setCell ⟨r, 3, none⟩ y3) := by
  refine ⟨?_, ((((Chg.refl (fun k => k = r) w).setCell (p := ⟨r, 0, none⟩) rfl _).setCell (p := ⟨r, 1, none⟩) rfl _).setCell (p := ⟨r, 2, none⟩) rfl _).setCell (p := ⟨r, 3, none⟩) rfl _⟩
  rw [Go.heap_setCell_same _ r 3 _ _ _ (Go.heap_setCell_same _ r 2 _ _ _ (Go.heap_setCell_same _ r 1 _ _ _ (Go.heap_setCell_same _ r 0 _ _ _ h)))]
  rfl

set_option maxRecDepth 100000 in
set_option maxHeartbeats 1000000 in
theorem begin_any (w0 w : World) (a : Option Addr) (ps : List Part) (cap : Nat) (hbel : Below w0.heap.size w0 w) (hop : OpAt w0 a ps) (hc : ps.length ≤ cap) (hn : ps.length ≤ 1048576) (hg : ∀ p ∈ ps, Good p) (hs : ∀ p ∈ ps, p.text.size ≤ 1048576) :
    Calls Tryd.prog 66 #[.slice a ps.length cap] w fun e w' => ∃ v, e = .returned v ∧ WalkVal w0 (headOf ps) (steps ps) v ∧ Below w.heap.size w w' := by
  have hbw := hbel.size
  have cT := fun w1 b hb hbl hblk => step_any w0 w1 b 0 0 ByteArray.empty a ps cap hb hbl hblk hop hc hn hg hs
  generalize headOf ps = H at cT ⊢
  obtain ⟨kd, n, rs⟩ := H
  go_enter Tryd.func66, Tryd.ntmps66
  go_wp2_with fail
  have b2 : ∀ A B : Obj, Below w0.heap.size w0 ((w.alloc A).alloc B) := fun A B => (hbel.alloc hbel.size _).alloc (by simp; omega) _
  refine (cT _ _ (by omega) (b2 _ _) (heap_two w _ _)).mono ?_
  rintro e w1 ⟨rfl, hw1, chg1⟩
  have kr := (chg1.block w.heap.size (by simp; omega) (by omega)).trans (row_old (heap_alloc_new w _) _)
  have chg : Below w.heap.size w w1 := (((Below.refl _ _).alloc (Nat.le_refl _) _).alloc (by simp) _).trans (Chg.below chg1 (fun k e => by omega) (by simp; omega))
  clear chg1 cT b2
  obtain ⟨h1, h2, h3, a', ps', cap', kp, hr⟩ := hw1
  have HV : Hid (WalkVal w0 ⟨kd, n, rs⟩ (steps ps) (.agg #[.int .i64 kd, .int .i64 (n : Int), .string (str rs), .slice a' ps'.length cap'])) := ⟨h3, a', ps', cap', rfl, hr⟩
  clear hr
  obtain ⟨p0, p1, p2, p3, _, _⟩ := walk_cells kp
  have r0 : w1.cell? ⟨w.heap.size, 0, none⟩ = some (.int .i64 0) := by rw [Lib.cell_of_heap kr]; rfl
  have r1 : w1.cell? ⟨w.heap.size, 1, none⟩ = some (.int .i64 0) := by rw [Lib.cell_of_heap kr]; rfl
  have r2 : w1.cell? ⟨w.heap.size, 2, none⟩ = some (.string ByteArray.empty) := by rw [Lib.cell_of_heap kr]; rfl
  have r3 : w1.cell? ⟨w.heap.size, 3, none⟩ = some (.slice none 0 0) := by rw [Lib.cell_of_heap kr]; rfl
  have q0 : w1.frozen? ⟨w.heap.size, 0, none⟩ = false := Lib.frozen_of_heap kr 0
  have q1 : w1.frozen? ⟨w.heap.size, 1, none⟩ = false := Lib.frozen_of_heap kr 1
  have q2 : w1.frozen? ⟨w.heap.size, 2, none⟩ = false := Lib.frozen_of_heap kr 2
  have q3 : w1.frozen? ⟨w.heap.size, 3, none⟩ = false := Lib.frozen_of_heap kr 3
  simp only at p0 p1 p2
  go_wp2
  obtain ⟨k3, g3⟩ := set4 kr (.int .i64 kd) (.int .i64 (n : Int)) (.string (str rs)) (.slice a' ps'.length cap')
  refine bodyPost_ret (results_cell_row rfl _ _ w.heap.size _ _ _ _ rfl k3 Tryd.underlying127 rfl (by kernel_rfl)) rfl ?_
  exact ⟨_, rfl, HV.out, chg.trans (Chg.below g3 (fun k e => by omega) chg.size)⟩

theorem WalkVal.at {w0 w : World} {b : Nat} {h : Head} {L : List Step} {v : Value} (hv : WalkVal w0 h L v) (hb : w0.heap.size ≤ b) (hbel : Below w0.heap.size w0 w) {cs : Array Value} (hvc : v = .agg cs) (hblk : w.heap[b]? = some (.cells cs 127 (0, 0))) : WalkAt w0 w b h L := by
  obtain ⟨ok, a, ps, cap, rfl, hr⟩ := hv
  simp only [Value.agg.injEq] at hvc
  subst hvc
  exact ⟨hb, hbel, ok, a, ps, cap, hblk, hr⟩

end Go.Proofs.YtbobeecagcmclaaDoor
