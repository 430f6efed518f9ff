/-
  text.Whole on texts of runes.
-/
import Derived.Test.YtepehgjdepioeaaDoorKCalls
import Derived.Test.YtepehgjdepioeaaDoorWholeWalk
namespace Go.Proofs.YtepehgjdepioeaaDoor
open Go.RowKit Go.Lib

theorem whole_group {a b : List Nat} (ha : ∀ r ∈ a, CP r) : wholeOp (str a) (str b) = group (insS b ++ List.replicate a.length (3, 0)) := by
  unfold group
  rw [penOf_removes]
  have e : penOf (insS b) = PenS.new.insert (str b) := by
    have := penOf_inserts [] b
    rw [List.nil_append] at this
    exact this
  rw [e]
  unfold PenS.all waitIns waitDel wholeOp
  simp only [PenS.remove, PenS.insert, PenS.new, ByteArray.empty_append, Nat.zero_add, List.nil_append]
  rw [runes_str ha]
  have hz := runes_zero (str a)
  rw [runes_str ha] at hz
  by_cases h0 : a.length = 0
  · rw [if_pos (hz.1 h0), if_pos h0]
  · rw [if_neg (fun h => h0 (hz.2 h)), if_neg h0]
theorem wholeCall (a b : List Nat) (w : World) (ha : ∀ r ∈ a, CP r) (hb : ∀ r ∈ b, CP r) (hal : a.length ≤ 2000) (hbl : b.length ≤ 2000) (hT : Tabs w) :
    Calls Tryd.prog 31 #[.string (str a), .string (str b)] w fun e w' => ∃ v P, e = .returned (.tuple #[v, .int .i64 0]) ∧ OpS w' w.heap.size v P ∧ Sim P (insS b ++ List.replicate a.length (3, 0)) ∧ Below w.heap.size w w' := by
  have h := whole_any (str a) (str b) w (str_fits ha (by omega)) (str_fits hb (by omega)) hT
  have hE : wholeErr (str a) (str b) = 0 := by
    unfold wholeErr
    rw [textErr_ok (valid_str ha) (by rw [runes_str ha]; omega), textErr_ok (valid_str hb) (by rw [runes_str hb]; omega)]
    simp
  have hR : wholeRes (str a) (str b) = group (insS b ++ List.replicate a.length (3, 0)) := by
    unfold wholeRes
    rw [hE, if_neg (by simp), whole_group ha]
  rw [hE, hR] at h
  refine h.mono ?_
  rintro e w' ⟨v, rfl, hown, hbb⟩
  have hl : (insS b ++ List.replicate a.length ((3 : Int), (0 : Int))).length ≤ 4000 := by simp [insS]; omega
  obtain ⟨k1, k2⟩ := opS_of hown ((StepsOk.ins hb).append (.dels _)) hl
  exact ⟨v, _, rfl, k1, k2, hbb⟩
theorem wholeBad (b : List Nat) (w : World) (hb : ∀ r ∈ b, CP r) (hbl : b.length ≤ 2000) (hT : Tabs w) :
    Calls Tryd.prog 31 #[.string ⟨#[255]⟩, .string (str b)] w fun e w' => ∃ v, e = .returned (.tuple #[v, .int .i64 4]) ∧ Below w.heap.size w w' := by
  have h := whole_any ⟨#[255]⟩ (str b) w (by decide) (str_fits hb (by omega)) hT
  have hv : Lib.validD (⟨#[255]⟩ : ByteArray).data.toList = false := by decide +kernel
  have hE : wholeErr ⟨#[255]⟩ (str b) = 4 := by
    unfold wholeErr textErr
    rw [hv]
    simp
  rw [hE] at h
  refine h.mono ?_
  rintro e w' ⟨v, rfl, _, hbb⟩
  exact ⟨v, rfl, hbb⟩

end Go.Proofs.YtepehgjdepioeaaDoor
