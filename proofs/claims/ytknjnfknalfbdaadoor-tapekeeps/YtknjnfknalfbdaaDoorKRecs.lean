/-
  Walk: wherrykeep.records.
-/
import Derived.Test.YtknjnfknalfbdaaDoorTapeRow
import Derived.Test.YtknjnfknalfbdaaDoorBlk
import Derived.Test.YtknjnfknalfbdaaDoorKRecord
import Derived.Deep.LoopGhost
import Derived.Deep.RegionHeld3
namespace Go.Proofs.YtknjnfknalfbdaaDoor
open Go.RowKit Go.Lib

/-- records that may be -/
def RecsOk (K : List RecC) : Prop := ∀ x ∈ K, RecOk x.1.1 x.1.2
/-- 'l[i:j]' of raw things -/
theorem cut_raws (a : Option Addr) (L c i j : Nat) (hi : i ≤ j) (hj : j ≤ L) (hc : L ≤ c) (y z : Int) (hy : y = (i : Int)) (hz : z = (j : Int)) :
    ∀ wx : World, (Instr.slice 22 (.slice a L c) (some (.int .i64 y)) (some (.int .i64 z)) none).run Tryd.prog wx = .ok (.slice (if c = i then a else a.map (·.add (i * 5))) (j - i) (c - i)) wx := by
  have e : Tryd.prog.underlying 22 = some (.slice (Tryd.prog.elem 22)) := by kernel_rfl
  have hs : ∀ wx, (sizeOf (Tryd.prog.elem 22)).run Tryd.prog wx = .ok 5 wx := fun wx => by kernel_rfl
  subst hy hz
  intro wx
  rw [run_slice_lh wx 22 a L c e .i64 .i64 (i : Int) (j : Int) (by omega) (by omega) (by omega), hs]
  simp [Result.andThen, sliced]
theorem RawsAt.cut {w : World} {a : Option Addr} {rs : List RawV} (h : RawsAt w a rs) (c i m : Nat) (hc : rs.length ≤ c) : RawsAt w (if c = i then a else a.map (·.add (i * 5))) ((rs.drop i).take m) := by
  by_cases h0 : (rs.drop i).take m = []
  · exact .inl h0
  · have hl : i < rs.length := by
      apply Nat.lt_of_not_le
      intro hh
      exact h0 (by rw [List.drop_of_length_le hh]; simp)
    rcases h with rfl | ⟨b, off, rfl, hb, hx⟩
    · simp at hl
    · refine .inr ⟨b, off + i * 5, by rw [if_neg (by omega)]; simp [Addr.add], hb, fun k hk => ?_⟩
      rw [List.length_take, List.length_drop] at hk
      have := hx (i + k) (by omega)
      simp only [List.getElem_take, List.getElem_drop]
      rw [show off + i * 5 + k * 5 = off + (i + k) * 5 by omega]
      exact this

theorem kr_keep {r : RawV} {b q : Nat} {w0 w' w'' : World} (h : (fun w' : World => w'.cell? ⟨b, q, none⟩ = some (.int .i64 r.kind) ∧ w'.cell? ⟨b, q + 1, none⟩ = some (.int .i64 r.a) ∧ w'.cell? ⟨b, q + 2, none⟩ = some (.int .i64 r.b) ∧ w'.cell? ⟨b, q + 3, none⟩ = some (.int .i64 r.c) ∧ w'.cell? ⟨b, q + 4, none⟩ = some (.string r.text) ∧ Below w0.heap.size w0 w') w') (hl : b < w0.heap.size) (hb : Below w0.heap.size w' w'') : (fun w' : World => w'.cell? ⟨b, q, none⟩ = some (.int .i64 r.kind) ∧ w'.cell? ⟨b, q + 1, none⟩ = some (.int .i64 r.a) ∧ w'.cell? ⟨b, q + 2, none⟩ = some (.int .i64 r.b) ∧ w'.cell? ⟨b, q + 3, none⟩ = some (.int .i64 r.c) ∧ w'.cell? ⟨b, q + 4, none⟩ = some (.string r.text) ∧ Below w0.heap.size w0 w') w'' :=
  ⟨(hb.cell (p := ⟨b, q, none⟩) hl).trans h.1, (hb.cell (p := ⟨b, q + 1, none⟩) hl).trans h.2.1, (hb.cell (p := ⟨b, q + 2, none⟩) hl).trans h.2.2.1, (hb.cell (p := ⟨b, q + 3, none⟩) hl).trans h.2.2.2.1, (hb.cell (p := ⟨b, q + 4, none⟩) hl).trans h.2.2.2.2.1, h.2.2.2.2.2.trans hb⟩
theorem kr_call {r : RawV} {b q : Nat} {w0 w' w'' : World} (h : (fun w' : World => w'.cell? ⟨b, q, none⟩ = some (.int .i64 r.kind) ∧ w'.cell? ⟨b, q + 1, none⟩ = some (.int .i64 r.a) ∧ w'.cell? ⟨b, q + 2, none⟩ = some (.int .i64 r.b) ∧ w'.cell? ⟨b, q + 3, none⟩ = some (.int .i64 r.c) ∧ w'.cell? ⟨b, q + 4, none⟩ = some (.string r.text) ∧ Below w0.heap.size w0 w') w') (hl : b < w0.heap.size) (hb : Below w'.heap.size w' w'') : (fun w' : World => w'.cell? ⟨b, q, none⟩ = some (.int .i64 r.kind) ∧ w'.cell? ⟨b, q + 1, none⟩ = some (.int .i64 r.a) ∧ w'.cell? ⟨b, q + 2, none⟩ = some (.int .i64 r.b) ∧ w'.cell? ⟨b, q + 3, none⟩ = some (.int .i64 r.c) ∧ w'.cell? ⟨b, q + 4, none⟩ = some (.string r.text) ∧ Below w0.heap.size w0 w') w'' := kr_keep h hl (hb.mono h.2.2.2.2.2.size)
theorem kr_alloc {r : RawV} {b q : Nat} {w0 w' : World} (h : (fun w' : World => w'.cell? ⟨b, q, none⟩ = some (.int .i64 r.kind) ∧ w'.cell? ⟨b, q + 1, none⟩ = some (.int .i64 r.a) ∧ w'.cell? ⟨b, q + 2, none⟩ = some (.int .i64 r.b) ∧ w'.cell? ⟨b, q + 3, none⟩ = some (.int .i64 r.c) ∧ w'.cell? ⟨b, q + 4, none⟩ = some (.string r.text) ∧ Below w0.heap.size w0 w') w') (hl : b < w0.heap.size) (o : Obj) : (fun w' : World => w'.cell? ⟨b, q, none⟩ = some (.int .i64 r.kind) ∧ w'.cell? ⟨b, q + 1, none⟩ = some (.int .i64 r.a) ∧ w'.cell? ⟨b, q + 2, none⟩ = some (.int .i64 r.b) ∧ w'.cell? ⟨b, q + 3, none⟩ = some (.int .i64 r.c) ∧ w'.cell? ⟨b, q + 4, none⟩ = some (.string r.text) ∧ Below w0.heap.size w0 w') (w'.alloc o) := kr_call h hl ((Below.refl _ _).alloc (Nat.le_refl _) o)
theorem kr_alloc_drew {r : RawV} {b q : Nat} {w0 w' : World} (h : (fun w' : World => w'.cell? ⟨b, q, none⟩ = some (.int .i64 r.kind) ∧ w'.cell? ⟨b, q + 1, none⟩ = some (.int .i64 r.a) ∧ w'.cell? ⟨b, q + 2, none⟩ = some (.int .i64 r.b) ∧ w'.cell? ⟨b, q + 3, none⟩ = some (.int .i64 r.c) ∧ w'.cell? ⟨b, q + 4, none⟩ = some (.string r.text) ∧ Below w0.heap.size w0 w') w'.drew) (hl : b < w0.heap.size) (o : Obj) : (fun w' : World => w'.cell? ⟨b, q, none⟩ = some (.int .i64 r.kind) ∧ w'.cell? ⟨b, q + 1, none⟩ = some (.int .i64 r.a) ∧ w'.cell? ⟨b, q + 2, none⟩ = some (.int .i64 r.b) ∧ w'.cell? ⟨b, q + 3, none⟩ = some (.int .i64 r.c) ∧ w'.cell? ⟨b, q + 4, none⟩ = some (.string r.text) ∧ Below w0.heap.size w0 w') (w'.alloc o).drew := by
  have hb := ((Below.refl w'.heap.size w').alloc (Nat.le_refl _) o).mono (B' := w0.heap.size) h.2.2.2.2.2.size
  exact kr_keep h hl ⟨hb.os, hb.tape, hb.output, hb.size, hb.block⟩
theorem kr_set {r : RawV} {b q : Nat} {w0 w' : World} (h : (fun w' : World => w'.cell? ⟨b, q, none⟩ = some (.int .i64 r.kind) ∧ w'.cell? ⟨b, q + 1, none⟩ = some (.int .i64 r.a) ∧ w'.cell? ⟨b, q + 2, none⟩ = some (.int .i64 r.b) ∧ w'.cell? ⟨b, q + 3, none⟩ = some (.int .i64 r.c) ∧ w'.cell? ⟨b, q + 4, none⟩ = some (.string r.text) ∧ Below w0.heap.size w0 w') w') (hl : b < w0.heap.size) (x y : Value) : (fun w' : World => w'.cell? ⟨b, q, none⟩ = some (.int .i64 r.kind) ∧ w'.cell? ⟨b, q + 1, none⟩ = some (.int .i64 r.a) ∧ w'.cell? ⟨b, q + 2, none⟩ = some (.int .i64 r.b) ∧ w'.cell? ⟨b, q + 3, none⟩ = some (.int .i64 r.c) ∧ w'.cell? ⟨b, q + 4, none⟩ = some (.string r.text) ∧ Below w0.heap.size w0 w') ((w'.setCell ⟨w0.heap.size, 0, none⟩ x).setCell ⟨w0.heap.size, 1, none⟩ y) :=
  kr_keep h hl (((Below.refl w0.heap.size w').setCell (p := ⟨w0.heap.size, 0, none⟩) (Nat.le_refl _) x).setCell (p := ⟨w0.heap.size, 1, none⟩) (Nat.le_refl _) y)
theorem kr_to {r : RawV} {b q : Nat} {w0 w' : World} (h : (fun w' : World => w'.cell? ⟨b, q, none⟩ = some (.int .i64 r.kind) ∧ w'.cell? ⟨b, q + 1, none⟩ = some (.int .i64 r.a) ∧ w'.cell? ⟨b, q + 2, none⟩ = some (.int .i64 r.b) ∧ w'.cell? ⟨b, q + 3, none⟩ = some (.int .i64 r.c) ∧ w'.cell? ⟨b, q + 4, none⟩ = some (.string r.text) ∧ Below w0.heap.size w0 w') w') : Below w0.heap.size w0 w' := h.2.2.2.2.2
theorem kr_new {w w' : World} {o : Obj} (hb : Below (w.alloc o).drew.heap.size (w.alloc o).drew w') : w'.heap[w.heap.size]? = some o :=
  (hb.block w.heap.size (by show w.heap.size < (w.alloc o).heap.size; simp)).trans (heap_alloc_new w o)

set_option maxRecDepth 100000 in
set_option maxHeartbeats 2000000 in
theorem records_any (rs : List RawV) (a : Option Addr) (cap : Nat) (most : Nat) (w : World) (hr : RawsAt w a rs) (hok : ∀ r ∈ rs, RawOk r) (hlen : rs.length ≤ 9223372036854775807) (hcap : rs.length ≤ cap) (hmost : most ≤ 100) :
    Calls Tryd.prog 50 #[.slice a rs.length cap, .int .i64 (most : Int)] w fun e w' => ∃ v, e = .returned v ∧ ∃ K : List RecC, RowRecs w' w.heap.size v K ∧ RecsOk K ∧ K.length ≤ most ∧ Below w.heap.size w w' := by
  obtain ⟨i0, hi0, hz0, hz1, hz2⟩ := info_parts info_rec
  go_enter Tryd.func50, Tryd.ntmps50
  go_wp2_with fail
  go_loopg [5, 6] most (fun g ov iv wr => ∃ (i : Nat) (K : List RecC), i + g = most ∧ iv = .int .i64 (i : Int) ∧ RowRecs wr w.heap.size ov K ∧ RecsOk K ∧ Hid (K.length = i) ∧ Below w.heap.size w wr)
  case atStart => exact ⟨0, [], by omega, rfl, rowRecs_nil _ _, fun x h => by simp at h, rfl, Below.refl _ _⟩
  case round =>
    obtain ⟨i, K, hi, rfl, hK, hKok, HKl, hb⟩ := hrel
    obtain ⟨oa, oc, rfl⟩ := own_form hK.row
    have hKm : K.length ≤ most := by have := HKl.out; omega
    have hgl : i ≤ most := by omega
    by_cases h1 : i < rs.length
    · have h1z : (i : Int) < (rs.length : Int) := by omega
      by_cases h2 : i < most
      · have h2z : (i : Int) < (most : Int) := by omega
        have hi0z : (0 : Int) ≤ (i : Int) := by omega
        have hcutR := hr.cut cap i (min (i + 2) rs.length - i) hcap
        have hcut := cut_raws a rs.length cap i (min (i + 2) rs.length) (by omega) (by omega) hcap (i : Int) (min (IntKind.i64.wrap ((i : Int) + 2)) (rs.length : Int)) rfl (by rw [IntKind.wrap_i64]; omega)
        have hlen2 : ((rs.drop i).take (min (i + 2) rs.length - i)).length = min (i + 2) rs.length - i := by rw [List.length_take, List.length_drop]; omega
        have hok2 : ∀ r ∈ (rs.drop i).take (min (i + 2) rs.length - i), RawOk r := fun r hr => hok r (List.mem_of_mem_drop (List.mem_of_mem_take hr))
        have hrk := hok rs[i] (List.getElem_mem h1)
        rcases hr with h0 | ⟨b, off, rfl, hbl, hc⟩
        · subst h0; simp at h1
        · obtain ⟨c0, c1, c2, c3, c4⟩ := hc i h1
          have cR := fun (wx : World) (hx : Below w.heap.size w wx) => krecord_any rs[i] _ _ (cap - i) wx hrk (hcutR.below hx (Nat.le_refl _)) hok2 (by omega)
          rw [hlen2] at cR
          generalize (if cap = i then some (⟨b, off, none⟩ : Addr) else (some (⟨b, off, none⟩ : Addr)).map (·.add (i * 5))) = ca at *
          generalize min (i + 2) rs.length - i = mm at *
          clear hlen2 hok2 hcutR hok
          generalize rs[i] = r at *
          have hk0 : ∀ {v : Value} {p : Nat}, w.cell? ⟨b, p, none⟩ = some v → wr.cell? ⟨b, p, none⟩ = some v := fun {v p} h => (hb.cell (p := ⟨b, p, none⟩) hbl).trans h
          have hblr : b < wr.heap.size := Nat.lt_of_lt_of_le hbl hb.size
          have hS0 : (fun w' : World => w'.cell? ⟨b, off + i * 5, none⟩ = some (.int .i64 r.kind) ∧ w'.cell? ⟨b, off + i * 5 + 1, none⟩ = some (.int .i64 r.a) ∧ w'.cell? ⟨b, off + i * 5 + 2, none⟩ = some (.int .i64 r.b) ∧ w'.cell? ⟨b, off + i * 5 + 3, none⟩ = some (.int .i64 r.c) ∧ w'.cell? ⟨b, off + i * 5 + 4, none⟩ = some (.string r.text) ∧ Below wr.heap.size wr w') wr.drew := ⟨hk0 c0, hk0 c1, hk0 c2, hk0 c3, hk0 c4, ⟨rfl, rfl, rfl, Nat.le_refl _, fun _ _ => rfl⟩⟩
          clear hc c0 c1 c2 c3 c4 hk0
          go_wp2_with fail
          go_region_held3 (fun w' : World => w'.cell? ⟨b, off + i * 5, none⟩ = some (.int .i64 r.kind) ∧ w'.cell? ⟨b, off + i * 5 + 1, none⟩ = some (.int .i64 r.a) ∧ w'.cell? ⟨b, off + i * 5 + 2, none⟩ = some (.int .i64 r.b) ∧ w'.cell? ⟨b, off + i * 5 + 3, none⟩ = some (.int .i64 r.c) ∧ w'.cell? ⟨b, off + i * 5 + 4, none⟩ = some (.string r.text) ∧ Below wr.heap.size wr w') (with_reducible first | exact hS0 | assumption | exact kr_call (by assumption) hblr hbz | exact kr_alloc_drew hS0 hblr _ | exact kr_alloc (by assumption) hblr _ | exact kr_alloc hSz hblr _ | exact kr_set (by assumption) hblr _ _) (first | (go_at_call 55; with_reducible refine Calls.mono (cR _ (below_two hb (kr_to (by assumption)) (Nat.le_refl _))) ?_; rintro e wz ⟨n, v, ps, rfl, hov, hrok, hbz⟩; have hSz := kr_call (by assumption) hblr hbz; have hof := own_form hov; obtain ⟨ua, uc, rfl⟩ := hof; (first | (have hbq : Below wr.drew.heap.size wr.drew wz := hbz) | (have hxz := kr_new hbz; have hbk := blk hxz; obtain ⟨xz, xlz, xfz⟩ := hbk))))
          · have hrb := heap_alloc_new wz (.cells #[.int .i64 (n : Int), .slice ua ps.length uc] 74)
            have ho5 := own_below (own_base hov hb.size) ((Below.refl wz.heap.size wz).alloc (Nat.le_refl _) (.cells #[.int .i64 (n : Int), .slice ua ps.length uc] 74))
            generalize (wz.alloc (.cells #[.int .i64 (n : Int), .slice ua ps.length uc] 74)) = w5 at *
            generalize wz.heap.size = bx at *
            have hS5 := kr_to (r := r) (b := b) (q := off + i * 5) (w0 := wr) (w' := w5) (by assumption)
            have hb5 := below_two hb hS5 (Nat.le_refl _)
            have hK5 := hK.below hS5
            clear hov hbz hSz hS0 cR hS5
            obtain ⟨y0, yl0, _⟩ := blk hrb
            have hown5 := hK5.row
            go_wp2_with (at_builtin; refine wpList_append_lies _ rfl _ _ 86 rfl w.heap.size 74 i0 (.agg #[.int .i64 0, .slice none 0 0]) 2 32 Tryd.underlying86 hi0 hz0 hz1 hz2 rfl (by decide) _ _ _ rfl (hown5.alloc _) ⟨w5.heap.size, 0, none⟩ 1 1 [.int .i64 (n : Int), .slice ua ps.length uc] rfl rfl (cell_two_new _ _ _ _) (by intro u hu; simp at hu; rcases hu with rfl | rfl <;> rfl) (by decide) (by unfold maxLen; omega) (by omega) (by have := hb5.size; simp; omega) _ rfl ?_; intro g1 cap1 w6 hown6 hgr6 hat6 hlt6)
            have hK6 := hK5.app ho5 hown6 hgr6
            have hb6 : Below w.heap.size w w6 := (hb5.alloc hb5.size _).grown hgr6 (by have := hb5.size; simp; omega) (fun k e => (hown5.lt k e).1)
            go_roundg (most - i - 1)
            case measure => omega
            case rel =>
              refine ⟨i + 1, K ++ [((n, ps), .slice ua ps.length uc)], by omega, by go_num, hK6, ?_, ?_, hb6⟩
              · intro x hx
                rcases List.mem_append.1 hx with hx | hx
                · exact hKok x hx
                · simp only [List.mem_singleton] at hx
                  subst hx
                  exact hrok
              · show _ = _
                rw [List.length_append, HKl.out]
                rfl
          · obtain ⟨hrb, hch⟩ := rec_store hxz (x := .int .i64 (n : Int)) (y := .slice ua ps.length uc)
            have ho5 := own_chg (own_base hov (Nat.le_trans hb.size (by simp [World.drew]))) hch (fun k hk e => row_ne hov hxz (by decide) (by rw [← e]; exact hk.symm))
            generalize ((wz.setCell ⟨wr.heap.size, 0, none⟩ (.int .i64 (n : Int))).setCell ⟨wr.heap.size, 1, none⟩ (.slice ua ps.length uc)) = w5 at *
            clear xz xlz xfz hxz hch
            have hS5 := kr_to (r := r) (b := b) (q := off + i * 5) (w0 := wr) (w' := w5) (by assumption)
            have hb5 := below_two hb hS5 (Nat.le_refl _)
            have hK5 := hK.below hS5
            clear hov hbz hSz hS0 cR hS5
            obtain ⟨y0, yl0, _⟩ := blk hrb
            have hown5 := hK5.row
            go_wp2_with (at_builtin; refine wpList_append_lies _ rfl _ _ 86 rfl w.heap.size 74 i0 (.agg #[.int .i64 0, .slice none 0 0]) 2 32 Tryd.underlying86 hi0 hz0 hz1 hz2 rfl (by decide) _ _ _ rfl (hown5.alloc _) ⟨w5.heap.size, 0, none⟩ 1 1 [.int .i64 (n : Int), .slice ua ps.length uc] rfl rfl (cell_two_new _ _ _ _) (by intro u hu; simp at hu; rcases hu with rfl | rfl <;> rfl) (by decide) (by unfold maxLen; omega) (by omega) (by have := hb5.size; simp; omega) _ rfl ?_; intro g1 cap1 w6 hown6 hgr6 hat6 hlt6)
            have hK6 := hK5.app ho5 hown6 hgr6
            have hb6 : Below w.heap.size w w6 := (hb5.alloc hb5.size _).grown hgr6 (by have := hb5.size; simp; omega) (fun k e => (hown5.lt k e).1)
            go_roundg (most - i - 1)
            case measure => omega
            case rel =>
              refine ⟨i + 1, K ++ [((n, ps), .slice ua ps.length uc)], by omega, by go_num, hK6, ?_, ?_, hb6⟩
              · intro x hx
                rcases List.mem_append.1 hx with hx | hx
                · exact hKok x hx
                · simp only [List.mem_singleton] at hx
                  subst hx
                  exact hrok
              · show _ = _
                rw [List.length_append, HKl.out]
                rfl
          · obtain ⟨hrb, hch⟩ := rec_store hxz (x := .int .i64 (n : Int)) (y := .slice ua ps.length uc)
            have ho5 := own_chg (own_base hov (Nat.le_trans hb.size (by simp [World.drew]))) hch (fun k hk e => row_ne hov hxz (by decide) (by rw [← e]; exact hk.symm))
            generalize ((wz.setCell ⟨wr.heap.size, 0, none⟩ (.int .i64 (n : Int))).setCell ⟨wr.heap.size, 1, none⟩ (.slice ua ps.length uc)) = w5 at *
            clear xz xlz xfz hxz hch
            have hS5 := kr_to (r := r) (b := b) (q := off + i * 5) (w0 := wr) (w' := w5) (by assumption)
            have hb5 := below_two hb hS5 (Nat.le_refl _)
            have hK5 := hK.below hS5
            clear hov hbz hSz hS0 cR hS5
            obtain ⟨y0, yl0, _⟩ := blk hrb
            have hown5 := hK5.row
            go_wp2_with (at_builtin; refine wpList_append_lies _ rfl _ _ 86 rfl w.heap.size 74 i0 (.agg #[.int .i64 0, .slice none 0 0]) 2 32 Tryd.underlying86 hi0 hz0 hz1 hz2 rfl (by decide) _ _ _ rfl (hown5.alloc _) ⟨w5.heap.size, 0, none⟩ 1 1 [.int .i64 (n : Int), .slice ua ps.length uc] rfl rfl (cell_two_new _ _ _ _) (by intro u hu; simp at hu; rcases hu with rfl | rfl <;> rfl) (by decide) (by unfold maxLen; omega) (by omega) (by have := hb5.size; simp; omega) _ rfl ?_; intro g1 cap1 w6 hown6 hgr6 hat6 hlt6)
            have hK6 := hK5.app ho5 hown6 hgr6
            have hb6 : Below w.heap.size w w6 := (hb5.alloc hb5.size _).grown hgr6 (by have := hb5.size; simp; omega) (fun k e => (hown5.lt k e).1)
            go_roundg (most - i - 1)
            case measure => omega
            case rel =>
              refine ⟨i + 1, K ++ [((n, ps), .slice ua ps.length uc)], by omega, by go_num, hK6, ?_, ?_, hb6⟩
              · intro x hx
                rcases List.mem_append.1 hx with hx | hx
                · exact hKok x hx
                · simp only [List.mem_singleton] at hx
                  subst hx
                  exact hrok
              · show _ = _
                rw [List.length_append, HKl.out]
                rfl
      · have h2z : ¬ (i : Int) < (most : Int) := by omega
        go_wp2_with fail
        go_ret
        exact ⟨_, rfl, K, hK, hKok, hKm, hb⟩
    · have h1z : ¬ (i : Int) < (rs.length : Int) := by omega
      go_wp2_with fail
      go_ret
      exact ⟨_, rfl, K, hK, hKok, hKm, hb⟩

end Go.Proofs.YtknjnfknalfbdaaDoor
