/-
  Walks: wire.reader: refuse, take, number.
-/
import Derived.Test.YtknjnfknalfbdaaDoorPenMem
import Derived.Deep.QuietTactic
import Derived.BigQuiet
namespace Go.Proofs.YtknjnfknalfbdaaDoor
open Go.RowKit Go.Lib

/-- bytes of a row that is not the reader's own block -/
def Oct (w : World) (B b : Nat) (a : Option Addr) (l : List Nat) : Prop := l = [] ∨ ∃ g off, a = some ⟨g, off, none⟩ ∧ g ≠ b ∧ g < B ∧ ∀ i (h : i < l.length), w.cell? ⟨g, off + i, none⟩ = some (.int .u8 (l[i] : Int))
/-- a reader: what is left, what was wrong -/
structure RdAt (w : World) (B b : Nat) (l : List Nat) (er : Int) : Prop where
  form : ∃ a c, w.heap[b]? = some (.cells #[.slice a l.length c, .int .i64 er] 195 (0, 0)) ∧ l.length ≤ c ∧ Oct w B b a l
  base : b < B ∧ B ≤ w.heap.size
  bytes : ∀ x ∈ l, x < 256
  many : l.length ≤ 1000000

theorem Oct.chg {F : Nat → Prop} {w w' : World} {B b : Nat} {a : Option Addr} {l : List Nat} (h : Oct w B b a l) (hc : Chg F w w') (hB : B ≤ w.heap.size) (hF : ∀ k, F k → k = b ∨ B ≤ k) : Oct w' B b a l := by
  rcases h with rfl | ⟨g, off, rfl, hg, hl, hx⟩
  · exact .inl rfl
  · refine .inr ⟨g, off, rfl, hg, hl, fun i hi => ?_⟩
    rw [World.cell?_of_block (a := ⟨g, off + i, none⟩) (hc.block g (by omega) (fun h => by have := hF g h; omega))]
    exact hx i hi
theorem RdAt.chg {F : Nat → Prop} {w w' : World} {B b : Nat} {l : List Nat} {er : Int} (h : RdAt w B b l er) (hc : Chg F w w') (hF : ∀ k, F k → B ≤ k) : RdAt w' B b l er := by
  obtain ⟨a, c, hb, hlc, ho⟩ := h.form
  have h1 := h.base
  refine ⟨⟨a, c, (hc.block b (by omega) (fun h => by have := hF b h; omega)).trans hb, hlc, ho.chg hc h1.2 (fun k hk => .inr (hF k hk))⟩, ⟨h1.1, Nat.le_trans h1.2 hc.size⟩, h.bytes, h.many⟩
theorem rd_cells {w : World} {b : Nat} {x0 x1 : Value} (h : w.heap[b]? = some (.cells #[x0, x1] 195 (0, 0))) : (w.cell? ⟨b, 0, none⟩ = some x0 ∧ w.cell? ⟨b, 1, none⟩ = some x1) ∧ b < w.heap.size ∧ w.frozen? ⟨b, 0, none⟩ = false ∧ w.frozen? ⟨b, 1, none⟩ = false :=
  ⟨⟨by rw [cell_of_row _ _ _ _ _ _ h]; rfl, by rw [cell_of_row _ _ _ _ _ _ h]; rfl⟩, (Array.getElem?_eq_some_iff.1 h).1, by simp [World.frozen?, h], by simp [World.frozen?, h]⟩
theorem RdAt.wrong {w : World} {B b : Nat} {l : List Nat} {er : Int} (h : RdAt w B b l er) (e : Int) : RdAt (w.setCell ⟨b, 1, none⟩ (.int .i64 e)) B b l e ∧ Chg (fun k => k = b) w (w.setCell ⟨b, 1, none⟩ (.int .i64 e)) := by
  obtain ⟨a, c, hb, hc, ho⟩ := h.form
  have hch : Chg (fun k => k = b) w (w.setCell ⟨b, 1, none⟩ (.int .i64 e)) := (Chg.refl (fun k => k = b) w).setCell (p := ⟨b, 1, none⟩) rfl _
  exact ⟨⟨⟨a, c, by rw [heap_setCell_same w b 1 _ _ _ hb]; rfl, hc, ho.chg hch h.base.2 (fun _ h => .inl h)⟩, ⟨h.base.1, Nat.le_trans h.base.2 hch.size⟩, h.bytes, h.many⟩, hch⟩

set_option maxHeartbeats 400000 in
theorem refuse_any (w : World) (B b : Nat) (l : List Nat) (er e : Int) (h : RdAt w B b l er) :
    Calls Tryd.prog 138 #[.pointer (some ⟨b, 0, none⟩), .int .i64 e] w fun r w' => r = .returned (.tuple #[]) ∧ RdAt w' B b l (if er = 0 then e else er) ∧ Chg (fun k => k = b) w w' := by
  obtain ⟨a, c, hb, hc, ho⟩ := h.form
  obtain ⟨⟨k0, k1⟩, hl, f0, f1⟩ := rd_cells hb
  by_cases h0 : er = 0
  · subst h0
    rw [if_pos rfl]
    obtain ⟨m1, m2⟩ := h.wrong e
    go_enter Tryd.func138, Tryd.ntmps138
    go_wp2_with fail
    go_end0
    exact ⟨rfl, m1, m2⟩
  · have g : (er == 0) = false := by simpa using h0
    rw [if_neg h0]
    go_enter Tryd.func138, Tryd.ntmps138
    go_wp2_with fail
    go_end0
    exact ⟨rfl, h, Chg.refl _ _⟩

/-- 'r.rest[:n]' and 'r.rest[n:]' -/
theorem cut_bytes (a : Option Addr) (L c n : Nat) (hn : n ≤ L) (hc : L ≤ c) (z : Int) (hz : z = (n : Int)) :
    (∀ wx : World, (Instr.slice 75 (.slice a L c) none (some (.int .i64 z)) none).run Tryd.prog wx = .ok (.slice a n c) wx) ∧
    (∀ wx : World, (Instr.slice 75 (.slice a L c) (some (.int .i64 z)) none none).run Tryd.prog wx = .ok (.slice (if c = n then a else a.map (·.add n)) (L - n) (c - n)) wx) := by
  subst hz
  have e : Tryd.prog.underlying 75 = some (.slice (Tryd.prog.elem 75)) := by kernel_rfl
  have hs : ∀ wx, (sizeOf (Tryd.prog.elem 75)).run Tryd.prog wx = .ok 1 wx := fun wx => by kernel_rfl
  refine ⟨fun wx => ?_, fun wx => ?_⟩
  · rw [run_slice_h wx 75 a L c e .i64 (n : Int) (by omega) (by omega), hs]
    simp [Result.andThen, sliced, Addr.add]
  · rw [run_slice_l wx 75 a L c e .i64 (n : Int) (by omega) (by omega), hs]
    simp [Result.andThen, sliced]

theorem oct_drop {w : World} {B b : Nat} {a : Option Addr} {l : List Nat} {c : Nat} (h : Oct w B b a l) (hc : l.length ≤ c) (n : Nat) : Oct w B b (if c = n then a else a.map (·.add n)) (l.drop n) := by
  by_cases h0 : l.drop n = []
  · exact .inl h0
  · have hl : n < l.length := by
      apply Nat.lt_of_not_le
      intro h
      exact h0 (List.drop_of_length_le h)
    rcases h with rfl | ⟨g, off, rfl, hg, hgl, hx⟩
    · simp at hl
    · refine .inr ⟨g, off + n, by rw [if_neg (by omega)]; simp [Addr.add], hg, hgl, fun i hi => ?_⟩
      rw [List.length_drop] at hi
      have := hx (n + i) (by omega)
      rw [List.getElem_drop, ← this, Nat.add_assoc]
theorem oct_take {w : World} {B b : Nat} {a : Option Addr} {l : List Nat} (h : Oct w B b a l) (n : Nat) : Oct w B b a (l.take n) := by
  rcases h with rfl | ⟨g, off, rfl, hg, hgl, hx⟩
  · exact .inl (by simp)
  · refine .inr ⟨g, off, rfl, hg, hgl, fun i hi => ?_⟩
    rw [List.length_take] at hi
    rw [List.getElem_take]
    exact hx i (by omega)

set_option maxRecDepth 100000 in
set_option maxHeartbeats 1000000 in
theorem take_some (w : World) (B b : Nat) (l : List Nat) (n : Nat) (hn : n ≤ l.length) (h : RdAt w B b l 0) :
    Calls Tryd.prog 139 #[.pointer (some ⟨b, 0, none⟩), .int .i64 (n : Int)] w fun r w' => ∃ a c, r = .returned (.slice a n c) ∧ n ≤ c ∧ Oct w' B b a (l.take n) ∧ RdAt w' B b (l.drop n) 0 ∧ Chg (fun k => k = b) w w' := by
  obtain ⟨a, c, hb, hc, ho⟩ := h.form
  obtain ⟨⟨k0, k1⟩, hl, f0, f1⟩ := rd_cells hb
  obtain ⟨s1, s2⟩ := cut_bytes a l.length c n hn hc (n : Int) rfl
  have hm := h.many
  have g1 : ¬ (l.length : Int) < (n : Int) := by omega
  have hd := oct_drop ho hc n
  have ht := oct_take ho n
  have hdl : l.length - n = (l.drop n).length := by rw [List.length_drop]
  generalize (if c = n then a else a.map (·.add n)) = a2 at *
  have hch : Chg (fun k => k = b) w (w.setCell ⟨b, 0, none⟩ (.slice a2 (l.length - n) (c - n))) := (Chg.refl (fun k => k = b) w).setCell (p := ⟨b, 0, none⟩) rfl _
  have hBs := h.base
  have hR : RdAt (w.setCell ⟨b, 0, none⟩ (.slice a2 (l.length - n) (c - n))) B b (l.drop n) 0 :=
    ⟨⟨a2, c - n, by rw [heap_setCell_same w b 0 _ _ _ hb, ← hdl]; rfl, by rw [List.length_drop]; omega, hd.chg hch hBs.2 (fun _ h => .inl h)⟩, ⟨hBs.1, Nat.le_trans hBs.2 hch.size⟩, fun x hx => h.bytes x (List.mem_of_mem_drop hx), by rw [List.length_drop]; omega⟩
  have ht' := ht.chg hch hBs.2 (fun _ h => .inl h)
  have hnc : n ≤ c := by omega
  clear hdl hd ht ho h hb
  generalize l.length = L at *
  go_enter Tryd.func139, Tryd.ntmps139
  go_wp2_with fail
  go_ret
  exact ⟨a, c, rfl, hnc, ht', hR, hch⟩

set_option maxRecDepth 100000 in
set_option maxHeartbeats 1000000 in
theorem take_none (w : World) (B b : Nat) (l : List Nat) (er n : Int) (hn : er ≠ 0 ∨ (l.length : Int) < n) (h : RdAt w B b l er) :
    Calls Tryd.prog 139 #[.pointer (some ⟨b, 0, none⟩), .int .i64 n] w fun r w' => r = .returned (.slice none 0 0) ∧ RdAt w' B b l (if er = 0 then 5 else er) ∧ Chg (fun k => k = b) w w' := by
  obtain ⟨a, c, hb, hc, ho⟩ := h.form
  obtain ⟨⟨k0, k1⟩, hl, f0, f1⟩ := rd_cells hb
  have cR := refuse_any w B b l er 5 h
  by_cases h1 : (l.length : Int) < n
  · have h3 : (if er = 0 then (5 : Int) else er) ≠ 0 := by split <;> omega
    generalize (if er = 0 then (5 : Int) else er) = e2 at *
    have g2 : (e2 != 0) = true := by simpa using h3
    clear hn h ho hb h3
    go_enter Tryd.func139, Tryd.ntmps139
    go_wp2_with fail
    refine cR.mono ?_
    rintro r w1 ⟨rfl, hR, hch⟩
    obtain ⟨a', c', hb', _, _⟩ := hR.form
    obtain ⟨⟨q0, q1⟩, _, _, _⟩ := rd_cells hb'
    clear k0 k1 cR hb'
    go_wp2_with fail
    go_ret
    exact ⟨rfl, hR, hch⟩
  · have h2 : er ≠ 0 := by omega
    rw [if_neg h2]
    have g2 : (er != 0) = true := by simpa using h2
    clear cR
    go_enter Tryd.func139, Tryd.ntmps139
    go_wp2_with fail
    go_ret
    exact ⟨rfl, h, Chg.refl _ _⟩

end Go.Proofs.YtknjnfknalfbdaaDoor
