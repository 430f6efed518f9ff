/-
  Raw things that came in: there are not more of them than there is room for.
-/
import Derived.Test.YtbobeecagcmclaaDoorKOpen
namespace Go.Proofs.YtbobeecagcmclaaDoor
open Go.ChangeShapes Go.WideShapes Go.ChangeAt Go.RowKit Go.Deep

theorem raws_cap {H : Type} {enc : TypeId × Value → H} {W : World} {spare : Nat → Bool} {held : Bool} {fuel : Nat} {a : Option Addr} {len cap : Nat} {x : DataW H × List MemPlace}
    (h : DataW.trod enc Tryd.prog W 0 spare held fuel 39 [.slice a len cap] = some x) : len ≤ cap := by
  rcases open_slice Tryd.underlying39 h with ⟨hc, rfl⟩ | ⟨a', len', cap', m, n, D, Pl, hc, hb, hl, hm, hmm, rfl, hx⟩
  · simp at hc
    obtain ⟨rfl, rfl, rfl⟩ := hc
    exact Nat.le_refl _
  · simp only [List.cons.injEq, Value.slice.injEq, and_true] at hc
    obtain ⟨rfl, rfl, rfl⟩ := hc
    exact hl

end Go.Proofs.YtbobeecagcmclaaDoor
