/-
  Walk: wherrykeep.textTells.
-/
import Derived.Test.YtepehgjdepioeabDoorKCalls
namespace Go.Proofs.YtepehgjdepioeabDoor
open Go.RowKit Go.Lib

theorem group_insA : group (insS [97]) = [⟨2, 0, str [97]⟩] := by
  unfold group
  have := penOf_inserts [] [97]
  rw [List.nil_append] at this
  show (penOf ((([97] : List Nat).map fun r : Nat => ((2 : Int), (r : Int))))).all = _
  rw [this]
  rfl

set_option maxRecDepth 100000 in
set_option maxHeartbeats 1000000 in
theorem tells_any (w : World) (hT : Tabs w) :
    Calls Tryd.prog 24 #[] w fun e w' => e = .returned (.bool true) ∧ Below w.heap.size w w' := by
  have hA : StepsOk (insS [97]) := StepsOk.ins (fun r hr => by rw [List.mem_singleton] at hr; rw [hr]; unfold CP; omega)
  have ha := applies_of (rs := []) (A := insS [97]) (fun r hr => by cases hr) hA (by decide) rfl
  have e0 : str ([] : List Nat) = ⟨#[]⟩ := rfl
  have e1 : str [97] = ⟨#[97]⟩ := rfl
  have hE := ha.err
  have hR : applyRes (str []) (group (insS [97])) = str [97] := by
    unfold applyRes
    rw [hE, if_neg (by simp), runes_str (fun r hr => by cases hr), (group_sim hA (by decide)).apply]
    have := applyS_ins [] [97] []
    rw [List.append_nil] at this
    show str (applyS [] (([97] : List Nat).map fun r : Nat => ((2 : Int), (r : Int)))) = _
    rw [this]
    rfl
  rw [e0, group_insA, e1] at hE hR
  go_enter Tryd.func24, Tryd.ntmps24
  go_wp2_with fail
  have hb0 := (Below.refl w.heap.size w).alloc (Nat.le_refl _) (Obj.cells #[.int .i64 2, .int .i64 0, .string ⟨#[97]⟩] 24)
  have c := apply_any ⟨#[]⟩ [⟨2, 0, ⟨#[97]⟩⟩] (some ⟨w.heap.size, 0, none⟩) 1 (w.alloc (Obj.cells #[.int .i64 2, .int .i64 0, .string ⟨#[97]⟩] 24)) (by decide) (.inr ⟨w.heap.size, 0, rfl, by simp, fun i hi => ?_⟩) (by decide) (fun p hp => by rw [List.mem_singleton] at hp; rw [hp]; decide) (hT.below hb0)
  rw [hE, hR] at c
  refine c.mono ?_
  rintro e w1 ⟨rfl, hb⟩
  clear c
  go_wp2_with fail
  go_ret
  exact ⟨rfl, below_two hb0 hb (Nat.le_refl _)⟩
  · have hi0 : i = 0 := by simp at hi; omega
    subst hi0
    have hk := heap_alloc_new w (Obj.cells #[.int .i64 2, .int .i64 0, .string ⟨#[97]⟩] 24)
    refine ⟨?_, ?_, ?_⟩
    all_goals rw [cell_of_row _ _ _ _ _ _ hk]; rfl

end Go.Proofs.YtepehgjdepioeabDoor
