/-
  Opening an argument: a raw thing that came in.
-/
import Derived.Test.YtekgennapogcgaaDoorKOpen
namespace Go.Proofs.YtekgennapogcgaaDoor
open Go.ChangeShapes Go.WideShapes Go.ChangeAt Go.RowKit Go.Deep

set_option maxRecDepth 100000 in
theorem open_raw {H : Type} {enc : TypeId × Value → H} {W : World} {spare : Nat → Bool} {held : Bool} {fuel : Nat} {cs : List Value} {x : DataW H × List MemPlace}
    (h : DataW.trod enc Tryd.prog W 0 spare held fuel 53 cs = some x) :
    ∃ r : RawV, cs = [.int .i64 r.kind, .int .i64 r.a, .int .i64 r.b, .int .i64 r.c, .string r.text] ∧ RawOk r := by
  obtain ⟨y0, y1, y2, y3, y4, k, hlen, g0, g1, g2, g3, g4⟩ := trod_struct5 Tryd.underlying53 h
  rw [cells_raw] at hlen
  match cs, hlen with
  | [v0, v1, v2, v3, v4], _ =>
    simp only [kcells_int, kcells_string, List.drop_zero, List.take_succ_cons, List.take_zero, List.drop_succ_cons] at g0 g1 g2 g3 g4
    obtain ⟨n0, e0, rfl, w0⟩ := DataW.trod_int Tryd.underlying3 g0
    obtain ⟨n1, e1, rfl, w1⟩ := DataW.trod_int Tryd.underlying3 g1
    obtain ⟨n2, e2, rfl, w2⟩ := DataW.trod_int Tryd.underlying3 g2
    obtain ⟨n3, e3, rfl, w3⟩ := DataW.trod_int Tryd.underlying3 g3
    obtain ⟨s, e4, rfl, hsz⟩ := DataW.trod_string Tryd.underlying9 g4
    simp only [List.cons.injEq, and_true] at e0 e1 e2 e3 e4
    subst e0 e1 e2 e3 e4
    refine ⟨⟨n0, n1, n2, n3, s⟩, rfl, ⟨bounds_i64 w0, bounds_i64 w1, bounds_i64 w2, bounds_i64 w3, ?_⟩⟩
    simp only [maxLen] at hsz
    simp only
    omega

end Go.Proofs.YtekgennapogcgaaDoor
