/-
  The pen's methods, told by the steps that it has written.
-/
import Derived.Test.YtepehgjdepioeaaDoorPenKeep
import Derived.Test.YtepehgjdepioeaaDoorOwnOp
namespace Go.Proofs.YtepehgjdepioeaaDoor
open Go.RowKit Go.Lib

/-- A pen in block b that has written these steps. -/
def PenL (w : World) (B b : Nat) (dv iv : Value) (l : List Step) : Prop := PenAt w B b dv iv (penOf l)

theorem keepL (w : World) (B b : Nat) (dv iv : Value) (l : List Step) (n : Nat) (h : PenL w B b dv iv l) (hB : B ≤ w.heap.size) (hl : l.length ≤ 100000) (h1 : 1 ≤ n) (hk : n ≤ 100000) :
    Calls Tryd.prog 41 #[.pointer (some ⟨b, 0, none⟩), .int .i64 (n : Int)] w fun e w' => e = .returned (.tuple #[]) ∧ ∃ dv' iv', PenL w' B b dv' iv' (l ++ List.replicate n ((1 : Int), (0 : Int))) ∧ PenStep w w' b dv iv dv' iv' := by
  have ok := penOf_ok l
  unfold PenL
  rw [penOf_keeps l n h1]
  exact keep_any w B b dv iv (penOf l) n h hB (by have := ok.done; omega) (by have := ok.ins; omega) (by have := ok.del; omega) (by omega) (fun p hp hk1 => by have := ok.all.2 p hp hk1; omega)
theorem removeL (w : World) (B b : Nat) (dv iv : Value) (l : List Step) (n : Nat) (h : PenL w B b dv iv l) (hl : l.length ≤ 100000) (hk : n ≤ 100000) :
    Calls Tryd.prog 43 #[.pointer (some ⟨b, 0, none⟩), .int .i64 (n : Int)] w fun e w' => e = .returned (.tuple #[]) ∧ PenL w' B b dv iv (l ++ List.replicate n ((3 : Int), (0 : Int))) ∧ PenStep w w' b dv iv dv iv := by
  have ok := penOf_ok l
  unfold PenL
  rw [penOf_removes l n]
  exact remove_any w B b dv iv (penOf l) n h (by have := ok.del; omega)
theorem insertL (w : World) (B b : Nat) (dv iv : Value) (l : List Step) (rs : List Nat) (h : PenL w B b dv iv l) (hB : B ≤ w.heap.size) (hl : l.length ≤ 100000) (hs : (str rs).size ≤ 10000000) :
    Calls Tryd.prog 42 #[.pointer (some ⟨b, 0, none⟩), .string (str rs)] w fun e w' => e = .returned (.tuple #[]) ∧ ∃ iv', PenL w' B b dv iv' (l ++ rs.map (fun r : Nat => ((2 : Int), (r : Int)))) ∧ PenStep w w' b dv iv dv iv' := by
  have ok := penOf_ok l
  unfold PenL
  rw [penOf_inserts l rs]
  exact insert_any w B b dv iv (penOf l) (str rs) h hB (by have := ok.ins; omega)
theorem opL (w : World) (B b : Nat) (dv iv : Value) (l : List Step) (h : PenL w B b dv iv l) (hB : B ≤ w.heap.size) (hl : l.length ≤ 100000) :
    Calls Tryd.prog 44 #[.pointer (some ⟨b, 0, none⟩)] w fun e w' => ∃ dv' iv', e = .returned dv' ∧ PenAt w' B b dv' iv' ⟨group l, ByteArray.empty, 0⟩ ∧ PenStep w w' b dv iv dv' iv' := by
  have ok := penOf_ok l
  exact op_any w B b dv iv (penOf l) h hB (by have := ok.done; omega) (by have := ok.ins; omega) (by have := ok.del; omega)
theorem penL_below {w w' : World} {B b : Nat} {dv iv : Value} {l : List Step} (h : PenL w B b dv iv l) (hb : Below w.heap.size w w') : PenL w' B b dv iv l :=
  PenAt.kept (F := fun _ => False) h (Chg.of_below hb) (fun _ _ h => h)

end Go.Proofs.YtepehgjdepioeaaDoor
