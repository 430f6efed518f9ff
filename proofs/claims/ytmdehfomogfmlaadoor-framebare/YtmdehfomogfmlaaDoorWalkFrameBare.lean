/-
  Walk: wherrykeep.FrameBare.
-/
import Derived.Test.YtmdehfomogfmlaaDoorKFrame
namespace Go.Proofs.YtmdehfomogfmlaaDoor
open Go.RowKit Go.Lib

theorem opAt_keep {w : World} {b : Nat} {k n : Int} {s : ByteArray} {T : TypeId} (h : w.heap[b]? = some (.cells #[.int .i64 k, .int .i64 n, .string s] T (0, 0))) : OpAt w (some ⟨b, 0, none⟩) [⟨k, n, s⟩] := by
  refine .inr ⟨b, 0, rfl, lt_of_heap h, fun i hi => ?_⟩
  have h0 : i = 0 := by simp at hi; omega
  subst h0
  refine ⟨?_, ?_, ?_⟩
  all_goals rw [cell_of_row _ _ _ _ _ _ h]; rfl

set_option maxRecDepth 100000 in
set_option maxHeartbeats 4000000 in
theorem frameBare_walk (r : RawV) (rs : List RawV) (a : Option Addr) (cap : Nat) (which : Int) (w : World) (hk : RawOk r) (hr : RawsAt w a rs) (hok : ∀ r ∈ rs, RawOk r) (hlen : rs.length ≤ 9223372036854775807) (hwh : I64 which) (hT : Tabs w) :
    Calls Tryd.prog 9 #[.agg #[.int .i64 r.kind, .int .i64 r.a, .int .i64 r.b, .int .i64 r.c, .string r.text], .slice a rs.length cap, .int .i64 which] w fun e w' => e = .returned (.bool true) ∧ Below w.heap.size w w' := by
  have HB : Below w.heap.size w (w.alloc (.cells #[.int .i64 r.kind, .int .i64 r.a, .int .i64 r.b, .int .i64 r.c, .string r.text] 52)) := (Below.refl w.heap.size w).alloc (Nat.le_refl _) (.cells #[.int .i64 r.kind, .int .i64 r.a, .int .i64 r.b, .int .i64 r.c, .string r.text] 52)
  have hraw := heap_alloc_new w (.cells #[.int .i64 r.kind, .int .i64 r.a, .int .i64 r.b, .int .i64 r.c, .string r.text] 52)
  have cR := kframe_any r rs a cap (w.alloc (.cells #[.int .i64 r.kind, .int .i64 r.a, .int .i64 r.b, .int .i64 r.c, .string r.text] 52)) hk (hr.below HB (Nat.le_refl _)) hok hlen
  obtain ⟨k0, _, _⟩ := blk hraw
  clear hraw hk hr hok
  go_enter Tryd.func9, Tryd.ntmps9
  go_wp2_with fail
  refine cR.mono ?_
  generalize (w.alloc (.cells #[.int .i64 r.kind, .int .i64 r.a, .int .i64 r.b, .int .i64 r.c, .string r.text] 52)) = w0 at *
  rintro e w1 ⟨f, v, rfl, hown, hfo, hb1⟩
  obtain ⟨va, vc, rfl⟩ := own_form hown
  replace HB := below_two HB hb1 (Nat.le_refl _)
  have h1 := hfo.err
  have h2 := hfo.parts
  have h3 := hfo.text
  have h4 := hfo.ops
  clear cR hb1 k0 hfo
  obtain ⟨fk, fh, fe, ps, tx⟩ := f
  simp only at hown h1 h2 h3 h4 ⊢
  have hbx := (Below.refl w1.heap.size w1).alloc (Nat.le_refl _) (.cells #[.int .i64 (fk : Int), .int .i64 (fh : Int), .int .i64 (fe : Int), .slice va ps.length vc, .string tx] 74)
  have hx := heap_alloc_new w1 (.cells #[.int .i64 (fk : Int), .int .i64 (fh : Int), .int .i64 (fe : Int), .slice va ps.length vc, .string tx] 74)
  replace HB := below_two HB hbx (Nat.le_refl _)
  replace hown := own_below hown hbx
  obtain ⟨_, _, e3, hop⟩ := own_opAt hown
  simp only [Value.slice.injEq, true_and] at e3
  obtain ⟨rfl, rfl⟩ := e3
  clear hbx hown
  have hbp := (Below.refl _ (w1.alloc (.cells #[.int .i64 (fk : Int), .int .i64 (fh : Int), .int .i64 (fe : Int), .slice va ps.length vc, .string tx] 74))).alloc (Nat.le_refl _) (.cells #[.int .i64 1, .int .i64 1, .string ⟨#[]⟩] 68)
  have hpp := row_old (heap_alloc_new (w1.alloc (.cells #[.int .i64 (fk : Int), .int .i64 (fh : Int), .int .i64 (fe : Int), .slice va ps.length vc, .string tx] 74)) (.cells #[.int .i64 1, .int .i64 1, .string ⟨#[]⟩] 68)) (.cells #[.int .i64 1, .int .i64 0, .int .i64 1, .slice none 0 0, .string ⟨#[]⟩, .int .i64 1, .int .i64 0, .int .i64 0, .slice none 0 0, .string ⟨#[120]⟩, .int .i64 2, .int .i64 0, .int .i64 0, .slice none 0 0, .string ⟨#[]⟩, .int .i64 2, .int .i64 0, .int .i64 1, .slice none 0 0, .string ⟨#[120]⟩, .int .i64 3, .int .i64 1, .int .i64 1, .slice none 0 0, .string ⟨#[]⟩, .int .i64 3, .int .i64 0, .int .i64 1, .slice (some ⟨w1.heap.size + 1, 0, none⟩) 1 1, .string ⟨#[]⟩] 74)
  rw [show (w1.alloc (.cells #[.int .i64 (fk : Int), .int .i64 (fh : Int), .int .i64 (fe : Int), .slice va ps.length vc, .string tx] 74)).heap.size = w1.heap.size + 1 by simp] at hpp
  have hbd := below_two hbp ((Below.refl _ ((w1.alloc (.cells #[.int .i64 (fk : Int), .int .i64 (fh : Int), .int .i64 (fe : Int), .slice va ps.length vc, .string tx] 74)).alloc (.cells #[.int .i64 1, .int .i64 1, .string ⟨#[]⟩] 68))).alloc (Nat.le_refl _) (.cells #[.int .i64 1, .int .i64 0, .int .i64 1, .slice none 0 0, .string ⟨#[]⟩, .int .i64 1, .int .i64 0, .int .i64 0, .slice none 0 0, .string ⟨#[120]⟩, .int .i64 2, .int .i64 0, .int .i64 0, .slice none 0 0, .string ⟨#[]⟩, .int .i64 2, .int .i64 0, .int .i64 1, .slice none 0 0, .string ⟨#[120]⟩, .int .i64 3, .int .i64 1, .int .i64 1, .slice none 0 0, .string ⟨#[]⟩, .int .i64 3, .int .i64 0, .int .i64 1, .slice (some ⟨w1.heap.size + 1, 0, none⟩) 1 1, .string ⟨#[]⟩] 74)) (Nat.le_refl _)
  have hod := heap_alloc_new ((w1.alloc (.cells #[.int .i64 (fk : Int), .int .i64 (fh : Int), .int .i64 (fe : Int), .slice va ps.length vc, .string tx] 74)).alloc (.cells #[.int .i64 1, .int .i64 1, .string ⟨#[]⟩] 68)) (.cells #[.int .i64 1, .int .i64 0, .int .i64 1, .slice none 0 0, .string ⟨#[]⟩, .int .i64 1, .int .i64 0, .int .i64 0, .slice none 0 0, .string ⟨#[120]⟩, .int .i64 2, .int .i64 0, .int .i64 0, .slice none 0 0, .string ⟨#[]⟩, .int .i64 2, .int .i64 0, .int .i64 1, .slice none 0 0, .string ⟨#[120]⟩, .int .i64 3, .int .i64 1, .int .i64 1, .slice none 0 0, .string ⟨#[]⟩, .int .i64 3, .int .i64 0, .int .i64 1, .slice (some ⟨w1.heap.size + 1, 0, none⟩) 1 1, .string ⟨#[]⟩] 74)
  rw [show ((w1.alloc (.cells #[.int .i64 (fk : Int), .int .i64 (fh : Int), .int .i64 (fe : Int), .slice va ps.length vc, .string tx] 74)).alloc (.cells #[.int .i64 1, .int .i64 1, .string ⟨#[]⟩] 68)).heap.size = w1.heap.size + 1 + 1 by simp] at hod
  replace HB := below_two HB hbd (Nat.le_refl _)
  replace hop := hop.below hbd
  have cC := checkFrame_any fk fh fe ps va vc tx _ hop (by omega) (fun q hq => by have := h2 q hq; omega) (by omega) (hT.below HB)
  rw [h1] at cC
  clear hbp hbd hx h1 h2 h3 hop
  go_wp2_with fail
  refine cC.mono ?_
  generalize (((w1.alloc (.cells #[.int .i64 (fk : Int), .int .i64 (fh : Int), .int .i64 (fe : Int), .slice va ps.length vc, .string tx] 74)).alloc (.cells #[.int .i64 1, .int .i64 1, .string ⟨#[]⟩] 68)).alloc (.cells #[.int .i64 1, .int .i64 0, .int .i64 1, .slice none 0 0, .string ⟨#[]⟩, .int .i64 1, .int .i64 0, .int .i64 0, .slice none 0 0, .string ⟨#[120]⟩, .int .i64 2, .int .i64 0, .int .i64 0, .slice none 0 0, .string ⟨#[]⟩, .int .i64 2, .int .i64 0, .int .i64 1, .slice none 0 0, .string ⟨#[120]⟩, .int .i64 3, .int .i64 1, .int .i64 1, .slice none 0 0, .string ⟨#[]⟩, .int .i64 3, .int .i64 0, .int .i64 1, .slice (some ⟨w1.heap.size + 1, 0, none⟩) 1 1, .string ⟨#[]⟩] 74)) = w2 at *
  rintro e w3 ⟨rfl, hb3⟩
  replace HB := below_two HB hb3 (Nat.le_refl _)
  replace hpp := (hb3.block _ (Array.getElem?_eq_some_iff.1 hpp).1).trans hpp
  replace hod := (hb3.block _ (Array.getElem?_eq_some_iff.1 hod).1).trans hod
  clear cC hb3
  have hT3 := hT.below HB
  obtain ⟨d3, dl3, _⟩ := blk hod
  have cP := picked_same which 6 w3 hwh (by omega) (by omega)
  have hp6 := pick_lt which 6 (by omega)
  generalize pick which 6 = i at *
  have hcase : i = 0 ∨ i = 1 ∨ i = 2 ∨ i = 3 ∨ i = 4 ∨ i = 5 := by omega
  go_wp2_with fail
  refine cP.mono ?_
  rintro e w4 ⟨rfl, rfl⟩
  clear cP
  have cZ := fun (wx : World) (h : Below w.heap.size w wx) => checkFrame_any 0 0 0 [] none 0 ⟨#[]⟩ wx (.inl rfl) (by simp) (by simp) (by decide) (hT.below h)
  rw [show frameErr 0 0 0 [] ⟨#[]⟩ = 3 by decide +kernel] at cZ
  rcases hcase with rfl | rfl | rfl | rfl | rfl | rfl
  · have cF := checkFrame_any 1 0 1 [] none 0 ⟨#[]⟩ w4 (.inl rfl) (by simp) (by simp) (by decide) hT3
    rw [show frameErr 1 0 1 [] ⟨#[]⟩ = 4 by decide +kernel] at cF
    clear hpp hod
    go_wp2_with fail
    refine cF.mono ?_
    rintro e w5 ⟨rfl, hb5⟩
    have HB5 := below_two HB hb5 (Nat.le_refl _)
    have cZ5 := cZ w5 HB5
    clear cF d3 cZ
    go_wp2_with fail
    refine cZ5.mono ?_
    rintro e w6 ⟨rfl, hb6⟩
    go_wp2_with fail
    go_ret
    exact ⟨by simp, below_two HB5 hb6 (Nat.le_refl _)⟩
  · have cF := checkFrame_any 1 0 0 [] none 0 ⟨#[120]⟩ w4 (.inl rfl) (by simp) (by simp) (by decide) hT3
    rw [show frameErr 1 0 0 [] ⟨#[120]⟩ = 4 by decide +kernel] at cF
    clear hpp hod
    go_wp2_with fail
    refine cF.mono ?_
    rintro e w5 ⟨rfl, hb5⟩
    have HB5 := below_two HB hb5 (Nat.le_refl _)
    have cZ5 := cZ w5 HB5
    clear cF d3 cZ
    go_wp2_with fail
    refine cZ5.mono ?_
    rintro e w6 ⟨rfl, hb6⟩
    go_wp2_with fail
    go_ret
    exact ⟨by simp, below_two HB5 hb6 (Nat.le_refl _)⟩
  · have cF := checkFrame_any 2 0 0 [] none 0 ⟨#[]⟩ w4 (.inl rfl) (by simp) (by simp) (by decide) hT3
    rw [show frameErr 2 0 0 [] ⟨#[]⟩ = 4 by decide +kernel] at cF
    clear hpp hod
    go_wp2_with fail
    refine cF.mono ?_
    rintro e w5 ⟨rfl, hb5⟩
    have HB5 := below_two HB hb5 (Nat.le_refl _)
    have cZ5 := cZ w5 HB5
    clear cF d3 cZ
    go_wp2_with fail
    refine cZ5.mono ?_
    rintro e w6 ⟨rfl, hb6⟩
    go_wp2_with fail
    go_ret
    exact ⟨by simp, below_two HB5 hb6 (Nat.le_refl _)⟩
  · have cF := checkFrame_any 2 0 1 [] none 0 ⟨#[120]⟩ w4 (.inl rfl) (by simp) (by simp) (by decide) hT3
    rw [show frameErr 2 0 1 [] ⟨#[120]⟩ = 4 by decide +kernel] at cF
    clear hpp hod
    go_wp2_with fail
    refine cF.mono ?_
    rintro e w5 ⟨rfl, hb5⟩
    have HB5 := below_two HB hb5 (Nat.le_refl _)
    have cZ5 := cZ w5 HB5
    clear cF d3 cZ
    go_wp2_with fail
    refine cZ5.mono ?_
    rintro e w6 ⟨rfl, hb6⟩
    go_wp2_with fail
    go_ret
    exact ⟨by simp, below_two HB5 hb6 (Nat.le_refl _)⟩
  · have cF := checkFrame_any 3 1 1 [] none 0 ⟨#[]⟩ w4 (.inl rfl) (by simp) (by simp) (by decide) hT3
    rw [show frameErr 3 1 1 [] ⟨#[]⟩ = 4 by decide +kernel] at cF
    clear hpp hod
    go_wp2_with fail
    refine cF.mono ?_
    rintro e w5 ⟨rfl, hb5⟩
    have HB5 := below_two HB hb5 (Nat.le_refl _)
    have cZ5 := cZ w5 HB5
    clear cF d3 cZ
    go_wp2_with fail
    refine cZ5.mono ?_
    rintro e w6 ⟨rfl, hb6⟩
    go_wp2_with fail
    go_ret
    exact ⟨by simp, below_two HB5 hb6 (Nat.le_refl _)⟩
  · have cF := checkFrame_any 3 0 1 [⟨1, 1, ⟨#[]⟩⟩] (some ⟨w1.heap.size + 1, 0, none⟩) 1 ⟨#[]⟩ w4 (opAt_keep hpp) (by simp) (fun p hp => by rw [List.mem_singleton.1 hp]; decide) (by decide) hT3
    rw [show frameErr 3 0 1 [⟨1, 1, ⟨#[]⟩⟩] ⟨#[]⟩ = 4 by decide +kernel] at cF
    clear hpp hod
    go_wp2_with fail
    refine cF.mono ?_
    rintro e w5 ⟨rfl, hb5⟩
    have HB5 := below_two HB hb5 (Nat.le_refl _)
    have cZ5 := cZ w5 HB5
    clear cF d3 cZ
    go_wp2_with fail
    refine cZ5.mono ?_
    rintro e w6 ⟨rfl, hb6⟩
    go_wp2_with fail
    go_ret
    exact ⟨by simp, below_two HB5 hb6 (Nat.le_refl _)⟩

end Go.Proofs.YtmdehfomogfmlaaDoor
