/-
  Opening the arguments: raw things that came in, of any size.
-/
import Derived.Test.YtodnocplljkjnaaDoorRows
import Derived.Test.YtodnocplljkjnaaDoorKRaws
import Derived.ProofKit
import Derived.OpenShut
import Derived.ChangeOld
import Derived.Deep.Slices
import Derived.Deep.Strs
namespace Go.Proofs.YtodnocplljkjnaaDoor
open Go.ChangeShapes Go.WideShapes Go.ChangeAt Go.RowKit Go.Deep

theorem cells_raw : Tryd.prog.cellsOf 53 = 5 := by kernel_rfl
theorem kcells_int : Tryd.prog.cellsOf 3 = 1 := by kernel_rfl
theorem kcells_string : Tryd.prog.cellsOf 9 = 1 := by kernel_rfl

theorem trod_struct5 {P : Program} {w : World} {base : Nat} {spare : Nat → Bool} {held : Bool} {H : Type} {enc : TypeId × Value → H} {t : TypeId} {f0 f1 f2 f3 f4 : Field} {fuel : Nat} {cs : List Value} {x : DataW H × List MemPlace} (ht : P.underlying t = some (.struct #[f0, f1, f2, f3, f4])) (h : DataW.trod enc P w base spare held fuel t cs = some x) :
    ∃ y0 y1 y2 y3 y4 n, cs.length = P.cellsOf t ∧ DataW.trod enc P w base spare held n f0.type ((cs.drop f0.offset).take (P.cellsOf f0.type)) = some y0 ∧
      DataW.trod enc P w base spare held n f1.type ((cs.drop f1.offset).take (P.cellsOf f1.type)) = some y1 ∧ DataW.trod enc P w base spare held n f2.type ((cs.drop f2.offset).take (P.cellsOf f2.type)) = some y2 ∧
      DataW.trod enc P w base spare held n f3.type ((cs.drop f3.offset).take (P.cellsOf f3.type)) = some y3 ∧ DataW.trod enc P w base spare held n f4.type ((cs.drop f4.offset).take (P.cellsOf f4.type)) = some y4 := by
  obtain ⟨xs, n, _, rfl, hl, hlen, hf⟩ := DataW.trod_struct ht h
  match xs, hlen with
  | [y0, y1, y2, y3, y4], _ => exact ⟨y0, y1, y2, y3, y4, n, hl, by simpa using hf 0 f0 rfl, by simpa using hf 1 f1 rfl, by simpa using hf 2 f2 rfl, by simpa using hf 3 f3 rfl, by simpa using hf 4 f4 rfl⟩

set_option maxRecDepth 100000 in
theorem open_raws {H : Type} {enc : TypeId × Value → H} {W : World} {spare : Nat → Bool} {held : Bool} {fuel : Nat} {a : Option Addr} {len cap : Nat} {x : DataW H × List MemPlace}
    (h : DataW.trod enc Tryd.prog W 0 spare held fuel 22 [.slice a len cap] = some x) :
    ∃ rs : List RawV, rs.length = len ∧ RawsAt W a rs ∧ (∀ r ∈ rs, RawOk r) ∧ len ≤ 9223372036854775807 := by
  rcases open_slice Tryd.underlying22 h with ⟨hc, rfl⟩ | ⟨a', len', cap', m, n, D, Pl, hc, hb, hl, hm, hmm, rfl, hx⟩
  · simp at hc
    obtain ⟨rfl, rfl, rfl⟩ := hc
    exact ⟨[], rfl, .inl rfl, by simp, by simp⟩
  · simp only [List.cons.injEq, Value.slice.injEq, and_true] at hc
    obtain ⟨rfl, rfl, rfl⟩ := hc
    have hlm : len ≤ m := by rw [hmm]; split <;> omega
    have each : ∀ i, i < len → ∃ r : RawV, W.cell? (a'.add (i * 5)) = some (.int .i64 r.kind) ∧ W.cell? (a'.add (i * 5 + 1)) = some (.int .i64 r.a) ∧ W.cell? (a'.add (i * 5 + 2)) = some (.int .i64 r.b) ∧ W.cell? (a'.add (i * 5 + 3)) = some (.int .i64 r.c) ∧ W.cell? (a'.add (i * 5 + 4)) = some (.string r.text) ∧ RawOk r := by
      intro i hi
      obtain ⟨cs', h1, h2⟩ := hx i (by omega)
      rw [cells_raw] at h1
      obtain ⟨_, hlen, hcell⟩ := World.cells?_some h1
      obtain ⟨y0, y1, y2, y3, y4, k, _, g0, g1, g2, g3, g4⟩ := trod_struct5 Tryd.underlying53 h2
      match cs', hlen with
      | [v0, v1, v2, v3, v4], _ =>
        simp only [kcells_int, kcells_string, List.drop_zero, List.take_succ_cons, List.take_zero, List.drop_succ_cons] at g0 g1 g2 g3 g4
        obtain ⟨n0, e0, rfl, w0⟩ := DataW.trod_int Tryd.underlying3 g0
        obtain ⟨n1, e1, rfl, w1⟩ := DataW.trod_int Tryd.underlying3 g1
        obtain ⟨n2, e2, rfl, w2⟩ := DataW.trod_int Tryd.underlying3 g2
        obtain ⟨n3, e3, rfl, w3⟩ := DataW.trod_int Tryd.underlying3 g3
        obtain ⟨s, e4, rfl, hsz⟩ := DataW.trod_string Tryd.underlying9 g4
        simp only [List.cons.injEq, and_true] at e0 e1 e2 e3 e4
        subst e0 e1 e2 e3 e4
        have q0 := hcell 0 (by omega)
        have q1 := hcell 1 (by omega)
        have q2 := hcell 2 (by omega)
        have q3 := hcell 3 (by omega)
        have q4 := hcell 4 (by omega)
        rw [add_add] at q0 q1 q2 q3 q4
        refine ⟨⟨n0, n1, n2, n3, s⟩, by simpa using q0, by simpa using q1, by simpa using q2, by simpa using q3, by simpa using q4, ⟨bounds_i64 w0, bounds_i64 w1, bounds_i64 w2, bounds_i64 w3, ?_⟩⟩
        simp only [maxLen] at hsz
        simp only
        omega
    have : ∃ rs : List RawV, rs.length = len ∧ ∀ i (hi : i < rs.length), W.cell? (a'.add (i * 5)) = some (.int .i64 rs[i].kind) ∧ W.cell? (a'.add (i * 5 + 1)) = some (.int .i64 rs[i].a) ∧ W.cell? (a'.add (i * 5 + 2)) = some (.int .i64 rs[i].b) ∧ W.cell? (a'.add (i * 5 + 3)) = some (.int .i64 rs[i].c) ∧ W.cell? (a'.add (i * 5 + 4)) = some (.string rs[i].text) ∧ RawOk rs[i] := by
      have : Inhabited RawV := ⟨⟨0, 0, 0, 0, ByteArray.empty⟩⟩
      obtain ⟨q, hq⟩ := choose_lt each
      refine ⟨(List.range len).map q, by simp, fun i hi => ?_⟩
      have hi' : i < len := by simpa using hi
      simp only [List.getElem_map, List.getElem_range]
      exact hq i hi'
    obtain ⟨rs, hpl, hps⟩ := this
    refine ⟨rs, hpl, ?_, ?_, ?_⟩
    · by_cases h0 : rs = []
      · exact .inl h0
      · have hpos : 0 < rs.length := List.length_pos_iff.2 h0
        obtain ⟨b, off, spot⟩ := a'
        have hc := (hps 0 hpos).1
        have hspot : spot = none := by simpa [Addr.add] using World.cell?_spot hc
        subst hspot
        refine .inr ⟨b, off, rfl, World.block_lt_of_cell? W _ hc, fun i hi => ?_⟩
        obtain ⟨a1, a2, a3, a4, a5, _⟩ := hps i hi
        simp only [add_plain] at a1 a2 a3 a4 a5
        exact ⟨a1, by simpa [Nat.add_assoc] using a2, by simpa [Nat.add_assoc] using a3, by simpa [Nat.add_assoc] using a4, by simpa [Nat.add_assoc] using a5⟩
    · intro r hr
      obtain ⟨i, hi, rfl⟩ := List.getElem_of_mem hr
      obtain ⟨_, _, _, _, _, k⟩ := hps i hi
      exact k
    · simp only [maxLen] at hm
      omega

end Go.Proofs.YtodnocplljkjnaaDoor
