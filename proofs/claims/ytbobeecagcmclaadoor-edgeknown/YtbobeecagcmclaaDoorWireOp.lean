/-
  Walk: wire.reader.op.
-/
import Derived.Test.YtbobeecagcmclaaDoorWirePart
namespace Go.Proofs.YtbobeecagcmclaaDoor
open Go.RowKit Go.Lib

/-- so many parts, read -/
def partsP : Nat → List Nat → Except Int (List Part × List Nat)
  | 0, l => .ok ([], l)
  | m + 1, l => match partP l with
    | .ok x => mapR (partsP m x.2) (fun D => x.1 :: D)
    | .error e => .error e
/-- P3.4: an operation, read -/
def opP (l : List Nat) : Except Int (List Part × List Nat) := match numP l with
  | .ok x => partsP x.1 x.2
  | .error e => .error e
theorem mapR_map {α β γ : Type} (r : Except Int (α × List Nat)) (f : α → β) (g : β → γ) : mapR (mapR r f) g = mapR r (fun x => g (f x)) := by cases r <;> rfl
theorem mapR_id {α : Type} (r : Except Int (α × List Nat)) : mapR r (fun x => x) = r := by cases r <;> rfl
theorem parts_step (m : Nat) (st : Except Int (List Nat)) (D : List Part) (p : Part) (hp : ∀ x, andR st partP = .ok x → x.1 = p) :
    mapR (andR st (partsP (m + 1))) (fun X => D ++ X) = mapR (andR (rest (andR st partP)) (partsP m)) (fun X => (D ++ [p]) ++ X) := by
  cases st with
  | error e => rfl
  | ok l =>
    have h : ∀ x, partP l = .ok x → x.1 = p := hp
    show mapR (match partP l with | .ok x => mapR (partsP m x.2) (fun D => x.1 :: D) | .error e => .error e) _ = mapR (andR (rest (partP l)) (partsP m)) _
    cases hq : partP l with
    | error e => rfl
    | ok x =>
      show mapR (mapR (partsP m x.2) (fun D => x.1 :: D)) _ = mapR (partsP m x.2) _
      rw [mapR_map, h x hq]
      congr 1
      funext X
      simp

theorem parts_end (m : Nat) (st : Except Int (List Nat)) (D : List Part) (h : m = 0 ∨ ∃ e, st = .error e) :
    rest (mapR (andR st (partsP m)) (fun X => D ++ X)) = st ∧ ∀ x, mapR (andR st (partsP m)) (fun X => D ++ X) = .ok x → x.1 = D := by
  cases st with
  | error e => exact ⟨rfl, fun x hx => by cases hx⟩
  | ok l =>
    rcases h with rfl | ⟨e, he⟩
    · exact ⟨rfl, fun x hx => by cases hx; simp⟩
    · cases he

end Go.Proofs.YtbobeecagcmclaaDoor
