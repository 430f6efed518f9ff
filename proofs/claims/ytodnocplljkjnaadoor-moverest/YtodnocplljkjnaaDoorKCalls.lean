/-
  What the calls of package text answer on operations that were made of raw things.
-/
import Derived.Test.YtodnocplljkjnaaDoorKOps
import Derived.Test.YtodnocplljkjnaaDoorApplyWalk
namespace Go.Proofs.YtodnocplljkjnaaDoor
open Go.RowKit Go.Lib

theorem applyCall (rs : List Nat) (A : List Step) (v : Value) (B : Nat) (w : World) (hr : ∀ r ∈ rs, CP r) (ho : OpS w B v A) (hl : A.length ≤ 4000) (he : oldN A = rs.length) (hT : Tabs w) :
    Calls Tryd.prog 10 #[.string (str rs), v] w fun e w' => e = .returned (.tuple #[.string (str (applyS rs A)), .int .i64 0]) ∧ Below w.heap.size w w' := by
  obtain ⟨a, cap, rfl, hop, _⟩ := own_opAt' ho.own
  have ha := applies_of hr ho.ok hl he
  have := apply_any (str rs) (group A) a cap w (str_fits hr (by have := oldN_le A; omega)) hop (group_many hl) (group_text hl) hT
  rw [ha.err] at this
  have e : applyRes (str rs) (group A) = str (applyS rs A) := by
    unfold applyRes
    rw [ha.err, if_neg (by simp), runes_str hr, ho.canon]
  rw [e] at this
  exact this
theorem applyMiss (rs : List Nat) (A : List Step) (v : Value) (B : Nat) (w : World) (hr : ∀ r ∈ rs, CP r) (hrl : rs.length ≤ 4000) (ho : OpS w B v A) (hl : A.length ≤ 4000) (he : oldN A ≠ rs.length) (hT : Tabs w) :
    Calls Tryd.prog 10 #[.string (str rs), v] w fun e w' => e = .returned (.tuple #[.string ByteArray.empty, .int .i64 10]) ∧ Below w.heap.size w w' := by
  obtain ⟨a, cap, rfl, hop, _⟩ := own_opAt' ho.own
  have := apply_any (str rs) (group A) a cap w (str_fits hr hrl) hop (group_many hl) (group_text hl) hT
  have e : applyErr (str rs) (group A) = 10 := by
    unfold applyErr
    rw [textErr_ok (valid_str hr) (by rw [runes_str hr]; exact hrl), (group_ok ho.ok hl).err, group_lens ho.ok hl, runes_str hr]
    simp
    omega
  have e2 : applyRes (str rs) (group A) = ByteArray.empty := by
    unfold applyRes
    rw [e, if_pos (by decide)]
  rw [e, e2] at this
  exact this
theorem lengthsCall (A : List Step) (v : Value) (B : Nat) (w : World) (ho : OpS w B v A) (hl : A.length ≤ 4000) :
    Calls Tryd.prog 22 #[v] w fun e w' => e = .returned (.tuple #[.int .i64 (oldN A : Int), .int .i64 (newN A : Int)]) ∧ Below w.heap.size w w' := by
  obtain ⟨a, cap, rfl, hop, _⟩ := own_opAt' ho.own
  have := lengths_any (group A) a cap w hop (by have := group_many hl; omega) (fun p hp => by have := group_text hl p hp; omega)
  rw [group_lens ho.ok hl] at this
  exact this
theorem checkCall (A : List Step) (v : Value) (B : Nat) (w : World) (ho : OpS w B v A) (hl : A.length ≤ 4000) (hT : Tabs w) :
    Calls Tryd.prog 21 #[v] w fun e w' => e = .returned (.int .i64 0) ∧ Below w.heap.size w w' := by
  obtain ⟨a, cap, rfl, hop, _⟩ := own_opAt' ho.own
  have := check_any (group A) a cap w hop (by have := group_many hl; omega) (fun p hp => by have := group_text hl p hp; omega) hT
  rw [(group_ok ho.ok hl).err] at this
  exact this
theorem checkTextCall (rs : List Nat) (w : World) (hr : ∀ r ∈ rs, CP r) (hl : rs.length ≤ 4000) (hT : Tabs w) :
    Calls Tryd.prog 28 #[.string (str rs)] w fun e w' => e = .returned (.int .i64 0) ∧ Below w.heap.size w w' := by
  have := checkText_any (str rs) w (by have := str_fits hr hl; omega) hT
  rw [textErr_ok (valid_str hr) (by rw [runes_str hr]; exact hl)] at this
  exact this
theorem runesCall (rs : List Nat) (w : World) (hr : ∀ r ∈ rs, CP r) (hl : rs.length ≤ 4000) :
    Calls Tryd.prog 6 #[.string (str rs)] w fun e w' => e = .returned (.int .i64 (rs.length : Int)) ∧ Below w.heap.size w w' := by
  have := krunes_any (str rs) w (by have := str_fits hr hl; omega)
  rw [runes_str hr] at this
  exact this
end Go.Proofs.YtodnocplljkjnaaDoor
