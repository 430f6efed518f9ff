/-
  What changes by type of block.
-/
import Derived.Test.YtelindfmdakliaaDoorWirePart
namespace Go.Proofs.YtelindfmdakliaaDoor
open Go.RowKit Go.Lib

/-- only blocks of these types may have changed -/
structure Typ (Ts : List TypeId) (w w' : World) : Prop where
  size : w.heap.size ≤ w'.heap.size
  block : ∀ (k : Nat) (cs : Array Value) (T : TypeId), T ∉ Ts → w.heap[k]? = some (.cells cs T (0, 0)) → w'.heap[k]? = some (.cells cs T (0, 0))
theorem heap_lt {w : World} {k : Nat} {o : Obj} (h : w.heap[k]? = some o) : k < w.heap.size := (Array.getElem?_eq_some_iff.1 h).1
theorem Typ.refl (Ts : List TypeId) (w : World) : Typ Ts w w := ⟨Nat.le_refl _, fun _ _ _ _ h => h⟩
theorem Typ.trans {Ts : List TypeId} {a b c : World} (h : Typ Ts a b) (k : Typ Ts b c) : Typ Ts a c := ⟨Nat.le_trans h.size k.size, fun i cs T hT e => k.block i cs T hT (h.block i cs T hT e)⟩
theorem Typ.more {Ts Us : List TypeId} {w w' : World} (h : Typ Ts w w') (hs : ∀ T ∈ Ts, T ∈ Us) : Typ Us w w' := ⟨h.size, fun i cs T hT e => h.block i cs T (fun hm => hT (hs T hm)) e⟩
theorem Typ.of_below {Ts : List TypeId} {w w' : World} (hb : Below w.heap.size w w') : Typ Ts w w' := ⟨hb.size, fun k _ _ _ e => (hb.block k (heap_lt e)).trans e⟩
theorem Typ.stored {Ts : List TypeId} {w w' : World} {b : Nat} {cs : Array Value} {T : TypeId} (hb : w.heap[b]? = some (.cells cs T (0, 0))) (hT : T ∈ Ts) (hc : Chg (fun k => k = b) w w') : Typ Ts w w' :=
  ⟨hc.size, fun k cs' T' hn e => (hc.block k (heap_lt e) (fun hk => by subst hk; rw [hb] at e; cases e; exact hn hT)).trans e⟩
theorem Typ.grown {Ts : List TypeId} {w w' : World} {B e size : Nat} {v : Value} {n : Nat} {xs : List Value} (hown : w.ownsRow B e size v n xs) (hT : e ∈ Ts) (hg : w.grownBy w' v.ownBlock) : Typ Ts w w' :=
  ⟨hg.size, fun k _ _ hn e' => (hg.block k (heap_lt e') (row_ne hown e' (fun h => hn (h ▸ hT)))).trans e'⟩
theorem own_typ {Ts : List TypeId} {w w' : World} {B e size : Nat} {v : Value} {n : Nat} {xs : List Value} (h : w.ownsRow B e size v n xs) (ht : Typ Ts w w') (hT : e ∉ Ts) : w'.ownsRow B e size v n xs := by
  refine ⟨h.1, ?_⟩
  rcases h.2 with h2 | ⟨g, cap, cur, rfl, hb, hg, h3⟩
  · exact .inl h2
  · exact .inr ⟨g, cap, cur, rfl, hb, ht.block g cur e hT hg, h3⟩

end Go.Proofs.YtelindfmdakliaaDoor
