/-
  Walk: wherrykeep.records.
-/
import Derived.Test.YtbobeecagcmclaaDoorTapeRow
import Derived.Test.YtbobeecagcmclaaDoorBlk
import Derived.Test.YtbobeecagcmclaaDoorKRecord
import Derived.Deep.LoopGhost
import Derived.Deep.RegionHeld3
namespace Go.Proofs.YtbobeecagcmclaaDoor
open Go.RowKit Go.Lib

/-- records that may be -/
def RecsOk (K : List RecC) : Prop := ∀ x ∈ K, RecOk x.1.1 x.1.2
/-- 'l[i:j]' of raw things -/
theorem cut_raws (a : Option Addr) (L c i j : Nat) (hi : i ≤ j) (hj : j ≤ L) (hc : L ≤ c) (y z : Int) (hy : y = (i : Int)) (hz : z = (j : Int)) :
    ∀ wx : World, (Instr.slice 39 (.slice a L c) (some (.int .i64 y)) (some (.int .i64 z)) none).run Tryd.prog wx = .ok (.slice (if c = i then a else a.map (·.add (i * 5))) (j - i) (c - i)) wx := by
  have e : Tryd.prog.underlying 39 = some (.slice (Tryd.prog.elem 39)) := by kernel_rfl
  have hs : ∀ wx, (sizeOf (Tryd.prog.elem 39)).run Tryd.prog wx = .ok 5 wx := fun wx => by kernel_rfl
  subst hy hz
  intro wx
  rw [run_slice_lh wx 39 a L c e .i64 .i64 (i : Int) (j : Int) (by omega) (by omega) (by omega), hs]
  simp [Result.andThen, sliced]
theorem RawsAt.cut {w : World} {a : Option Addr} {rs : List RawV} (h : RawsAt w a rs) (c i m : Nat) (hc : rs.length ≤ c) : RawsAt w (if c = i then a else a.map (·.add (i * 5))) ((rs.drop i).take m) := by
  by_cases h0 : (rs.drop i).take m = []
  · exact .inl h0
  · have hl : i < rs.length := by
      apply Nat.lt_of_not_le
      intro hh
      exact h0 (by rw [List.drop_of_length_le hh]; simp)
    rcases h with rfl | ⟨b, off, rfl, hb, hx⟩
    · simp at hl
    · refine .inr ⟨b, off + i * 5, by rw [if_neg (by omega)]; simp [Addr.add], hb, fun k hk => ?_⟩
      rw [List.length_take, List.length_drop] at hk
      have := hx (i + k) (by omega)
      simp only [List.getElem_take, List.getElem_drop]
      rw [show off + i * 5 + k * 5 = off + (i + k) * 5 by omega]
      exact this

theorem kr_keep {r : RawV} {b q : Nat} {w0 w' w'' : World} (h : (fun w' : World => w'.cell? ⟨b, q, none⟩ = some (.int .i64 r.kind) ∧ w'.cell? ⟨b, q + 1, none⟩ = some (.int .i64 r.a) ∧ w'.cell? ⟨b, q + 2, none⟩ = some (.int .i64 r.b) ∧ w'.cell? ⟨b, q + 3, none⟩ = some (.int .i64 r.c) ∧ w'.cell? ⟨b, q + 4, none⟩ = some (.string r.text) ∧ Below w0.heap.size w0 w') w') (hl : b < w0.heap.size) (hb : Below w0.heap.size w' w'') : (fun w' : World => w'.cell? ⟨b, q, none⟩ = some (.int .i64 r.kind) ∧ w'.cell? ⟨b, q + 1, none⟩ = some (.int .i64 r.a) ∧ w'.cell? ⟨b, q + 2, none⟩ = some (.int .i64 r.b) ∧ w'.cell? ⟨b, q + 3, none⟩ = some (.int .i64 r.c) ∧ w'.cell? ⟨b, q + 4, none⟩ = some (.string r.text) ∧ Below w0.heap.size w0 w') w'' :=
  ⟨(hb.cell (p := ⟨b, q, none⟩) hl).trans h.1, (hb.cell (p := ⟨b, q + 1, none⟩) hl).trans h.2.1, (hb.cell (p := ⟨b, q + 2, none⟩) hl).trans h.2.2.1, (hb.cell (p := ⟨b, q + 3, none⟩) hl).trans h.2.2.2.1, (hb.cell (p := ⟨b, q + 4, none⟩) hl).trans h.2.2.2.2.1, h.2.2.2.2.2.trans hb⟩
theorem kr_call {r : RawV} {b q : Nat} {w0 w' w'' : World} (h : (fun w' : World => w'.cell? ⟨b, q, none⟩ = some (.int .i64 r.kind) ∧ w'.cell? ⟨b, q + 1, none⟩ = some (.int .i64 r.a) ∧ w'.cell? ⟨b, q + 2, none⟩ = some (.int .i64 r.b) ∧ w'.cell? ⟨b, q + 3, none⟩ = some (.int .i64 r.c) ∧ w'.cell? ⟨b, q + 4, none⟩ = some (.string r.text) ∧ Below w0.heap.size w0 w') w') (hl : b < w0.heap.size) (hb : Below w'.heap.size w' w'') : (fun w' : World => w'.cell? ⟨b, q, none⟩ = some (.int .i64 r.kind) ∧ w'.cell? ⟨b, q + 1, none⟩ = some (.int .i64 r.a) ∧ w'.cell? ⟨b, q + 2, none⟩ = some (.int .i64 r.b) ∧ w'.cell? ⟨b, q + 3, none⟩ = some (.int .i64 r.c) ∧ w'.cell? ⟨b, q + 4, none⟩ = some (.string r.text) ∧ Below w0.heap.size w0 w') w'' := kr_keep h hl (hb.mono h.2.2.2.2.2.size)
theorem kr_alloc {r : RawV} {b q : Nat} {w0 w' : World} (h : (fun w' : World => w'.cell? ⟨b, q, none⟩ = some (.int .i64 r.kind) ∧ w'.cell? ⟨b, q + 1, none⟩ = some (.int .i64 r.a) ∧ w'.cell? ⟨b, q + 2, none⟩ = some (.int .i64 r.b) ∧ w'.cell? ⟨b, q + 3, none⟩ = some (.int .i64 r.c) ∧ w'.cell? ⟨b, q + 4, none⟩ = some (.string r.text) ∧ Below w0.heap.size w0 w') w') (hl : b < w0.heap.size) (o : Obj) : (fun w' : World => w'.cell? ⟨b, q, none⟩ = some (.int .i64 r.kind) ∧ w'.cell? ⟨b, q + 1, none⟩ = some (.int .i64 r.a) ∧ w'.cell? ⟨b, q + 2, none⟩ = some (.int .i64 r.b) ∧ w'.cell? ⟨b, q + 3, none⟩ = some (.int .i64 r.c) ∧ w'.cell? ⟨b, q + 4, none⟩ = some (.string r.text) ∧ Below w0.heap.size w0 w') (w'.alloc o) := kr_call h hl ((Below.refl _ _).alloc (Nat.le_refl _) o)
theorem kr_alloc_drew {r : RawV} {b q : Nat} {w0 w' : World} (h : (fun w' : World => w'.cell? ⟨b, q, none⟩ = some (.int .i64 r.kind) ∧ w'.cell? ⟨b, q + 1, none⟩ = some (.int .i64 r.a) ∧ w'.cell? ⟨b, q + 2, none⟩ = some (.int .i64 r.b) ∧ w'.cell? ⟨b, q + 3, none⟩ = some (.int .i64 r.c) ∧ w'.cell? ⟨b, q + 4, none⟩ = some (.string r.text) ∧ Below w0.heap.size w0 w') w'.drew) (hl : b < w0.heap.size) (o : Obj) : (fun w' : World => w'.cell? ⟨b, q, none⟩ = some (.int .i64 r.kind) ∧ w'.cell? ⟨b, q + 1, none⟩ = some (.int .i64 r.a) ∧ w'.cell? ⟨b, q + 2, none⟩ = some (.int .i64 r.b) ∧ w'.cell? ⟨b, q + 3, none⟩ = some (.int .i64 r.c) ∧ w'.cell? ⟨b, q + 4, none⟩ = some (.string r.text) ∧ Below w0.heap.size w0 w') (w'.alloc o).drew := by
  have hb := ((Below.refl w'.heap.size w').alloc (Nat.le_refl _) o).mono (B' := w0.heap.size) h.2.2.2.2.2.size
  exact kr_keep h hl ⟨hb.os, hb.tape, hb.output, hb.size, hb.block⟩
theorem kr_set {r : RawV} {b q : Nat} {w0 w' : World} (h : (fun w' : World => w'.cell? ⟨b, q, none⟩ = some (.int .i64 r.kind) ∧ w'.cell? ⟨b, q + 1, none⟩ = some (.int .i64 r.a) ∧ w'.cell? ⟨b, q + 2, none⟩ = some (.int .i64 r.b) ∧ w'.cell? ⟨b, q + 3, none⟩ = some (.int .i64 r.c) ∧ w'.cell? ⟨b, q + 4, none⟩ = some (.string r.text) ∧ Below w0.heap.size w0 w') w') (hl : b < w0.heap.size) (x y : Value) : (fun w' : World => w'.cell? ⟨b, q, none⟩ = some (.int .i64 r.kind) ∧ w'.cell? ⟨b, q + 1, none⟩ = some (.int .i64 r.a) ∧ w'.cell? ⟨b, q + 2, none⟩ = some (.int .i64 r.b) ∧ w'.cell? ⟨b, q + 3, none⟩ = some (.int .i64 r.c) ∧ w'.cell? ⟨b, q + 4, none⟩ = some (.string r.text) ∧ Below w0.heap.size w0 w') ((w'.setCell ⟨w0.heap.size, 0, none⟩ x).setCell ⟨w0.heap.size, 1, none⟩ y) :=
  kr_keep h hl (((Below.refl w0.heap.size w').setCell (p := ⟨w0.heap.size, 0, none⟩) (Nat.le_refl _) x).setCell (p := ⟨w0.heap.size, 1, none⟩) (Nat.le_refl _) y)
theorem kr_to {r : RawV} {b q : Nat} {w0 w' : World} (h : (fun w' : World => w'.cell? ⟨b, q, none⟩ = some (.int .i64 r.kind) ∧ w'.cell? ⟨b, q + 1, none⟩ = some (.int .i64 r.a) ∧ w'.cell? ⟨b, q + 2, none⟩ = some (.int .i64 r.b) ∧ w'.cell? ⟨b, q + 3, none⟩ = some (.int .i64 r.c) ∧ w'.cell? ⟨b, q + 4, none⟩ = some (.string r.text) ∧ Below w0.heap.size w0 w') w') : Below w0.heap.size w0 w' := h.2.2.2.2.2
theorem kr_new {w w' : World} {o : Obj} (hb : Below (w.alloc o).drew.heap.size (w.alloc o).drew w') : w'.heap[w.heap.size]? = some o :=
  (hb.block w.heap.size (by show w.heap.size < (w.alloc o).heap.size; simp)).trans (heap_alloc_new w o)

end Go.Proofs.YtbobeecagcmclaaDoor
