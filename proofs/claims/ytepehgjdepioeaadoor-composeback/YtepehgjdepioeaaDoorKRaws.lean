/-
  Raw things in memory.
-/
import Derived.Test.YtepehgjdepioeaaDoorKMasonPen
import Derived.Test.YtepehgjdepioeaaDoorKPick
import Derived.Test.YtepehgjdepioeaaDoorKLetters
namespace Go.Proofs.YtepehgjdepioeaaDoor
open Go.RowKit Go.Lib

/-- some numbers, and a text -/
structure RawV where
  kind : Int
  a : Int
  b : Int
  c : Int
  text : ByteArray
def I64 (n : Int) : Prop := -9223372036854775808 ≤ n ∧ n ≤ 9223372036854775807
structure RawOk (r : RawV) : Prop where
  kind : I64 r.kind
  a : I64 r.a
  b : I64 r.b
  c : I64 r.c
  text : r.text.size ≤ 9223372036854775807
/-- a slice of raw things in memory: its cells, five each -/
def RawsAt (w : World) (a : Option Addr) (rs : List RawV) : Prop :=
  rs = [] ∨ ∃ b off, a = some ⟨b, off, none⟩ ∧ b < w.heap.size ∧ ∀ i (h : i < rs.length),
    w.cell? ⟨b, off + i * 5, none⟩ = some (.int .i64 rs[i].kind) ∧ w.cell? ⟨b, off + i * 5 + 1, none⟩ = some (.int .i64 rs[i].a) ∧ w.cell? ⟨b, off + i * 5 + 2, none⟩ = some (.int .i64 rs[i].b) ∧ w.cell? ⟨b, off + i * 5 + 3, none⟩ = some (.int .i64 rs[i].c) ∧ w.cell? ⟨b, off + i * 5 + 4, none⟩ = some (.string rs[i].text)
theorem RawsAt.below {w w' : World} {B : Nat} {a : Option Addr} {rs : List RawV} (h : RawsAt w a rs) (hb : Below B w w') (hB : w.heap.size ≤ B) : RawsAt w' a rs := by
  rcases h with rfl | ⟨b, off, rfl, hl, hc⟩
  · exact .inl rfl
  · refine .inr ⟨b, off, rfl, Nat.lt_of_lt_of_le hl hb.size, fun i hi => ?_⟩
    obtain ⟨c0, c1, c2, c3, c4⟩ := hc i hi
    have e : ∀ j, w'.cell? ⟨b, j, none⟩ = w.cell? ⟨b, j, none⟩ := fun j => World.cell?_of_block (a := ⟨b, j, none⟩) (hb.block b (by omega))
    rw [e, e, e, e, e]
    exact ⟨c0, c1, c2, c3, c4⟩

theorem below_two' {w0 w w' : World} {B b : Nat} {ov ov' : Value} {D : List Part} {left : Int} (h : Below B w0 w) (hst : MasonStep w w' b ov ov') (hm : MasonAt w B b ov D left) : Below B w0 w' :=
  ⟨hst.chg.os.trans h.os, hst.chg.tape.trans h.tape, hst.chg.output.trans h.output, Nat.le_trans h.size hst.chg.size, fun k hk => by
    by_cases hl : k < w.heap.size
    · rw [hst.chg.block k hl (fun hF => by have := (hm.lt k hF).1; omega)]
      exact h.block k hk
    · exfalso
      have h1 := (hm.lt b (.inl rfl)).1
      have h2 := (hm.lt b (.inl rfl)).2
      omega⟩

set_option maxHeartbeats 400000 in
/-- the literal within Op -/
theorem opLit_any (r : RawV) (w : World) (h : RawOk r) :
    Calls Tryd.prog 33 #[.agg #[.int .i64 r.kind, .int .i64 r.a, .int .i64 r.b, .int .i64 r.c, .string r.text]] w fun e w' => ∃ rs : List Nat, (∀ r ∈ rs, CP r) ∧ rs.length ≤ 4 ∧ e = .returned (.string (str rs)) ∧ Below w.heap.size w w' := by
  have c1 := fun w1 => letters_any r.text 4 w1 h.text (by omega)
  go_enter Tryd.func33, Tryd.ntmps33
  go_wp2_with fail
  refine (c1 _).mono ?_
  rintro e w1 ⟨rs, h1, h2, rfl, hb⟩
  go_wp2
  go_ret
  exact ⟨rs, h1, h2, rfl, below_two ((Below.refl _ _).alloc (Nat.le_refl _) _) hb (Nat.le_refl _)⟩

end Go.Proofs.YtepehgjdepioeaaDoor
