/-
  Walk: sameOp.
-/
import Derived.Test.YtodnocplljkjnaaDoorCheck
import Derived.Deep.QuietTactic
import Derived.BigQuiet
import Derived.Laws.StructEq
import Derived.Test.YtodnocplljkjnaaDoorKOp
import Derived.Test.YtodnocplljkjnaaDoorPenMem

/- Walk: sameOp. -/
namespace Go.Proofs.YtodnocplljkjnaaDoor
open Go.RowKit

theorem keq_part (kd n : Int) (tx : ByteArray) (w : World) : (Op.equalIn 10000 33 (.agg #[.int .i64 kd, .int .i64 n, .string tx]) (.agg #[.int .i64 kd, .int .i64 n, .string tx])).run Tryd.prog w = .ok true w := by
  have u3 := Tryd.underlying3
  have a3 := Tryd.isAgg3
  have z3 := Tryd.sizeOf3
  have u9 := Tryd.underlying9
  have a9 := Tryd.isAgg9
  have z9 := Tryd.sizeOf9
  have hS : Tryd.prog.underlying 33 = some (.struct (Tryd.prog.fieldsOf 33)) := by kernel_rfl
  rw [show (10000 : Nat) = 9999 + 1 from rfl, run_equalIn_agg w 9999 33 _ _ hS (by kernel_rfl)]
  simp only [Program.fieldsOf, Tryd.underlying33]
  go_simp
theorem kneq_part (kd n : Int) (tx : ByteArray) (w : World) : (binOp .neq 33 (.agg #[.int .i64 kd, .int .i64 n, .string tx]) (.agg #[.int .i64 kd, .int .i64 n, .string tx])).run Tryd.prog w = .ok (.bool false) w := by
  rw [run_neq_struct, keq_part]
  rfl

end Go.Proofs.YtodnocplljkjnaaDoor

/- The calls of package text on operations that were made of steps, and the helpers of wherrykeep. -/
namespace Go.Proofs.YtodnocplljkjnaaDoor
open Go.RowKit Go.Lib

/-- an operation of one's own, made of steps in their one form -/
structure OpS (w : World) (B : Nat) (v : Value) (A : List Step) : Prop where
  own : w.ownsRow B 33 3 v (group A).length (partCells (group A))
  ok : StepsOk A
  canon : steps (group A) = A
theorem OpS.below {w w' : World} {B : Nat} {v : Value} {A : List Step} (h : OpS w B v A) (hb : Below w.heap.size w w') : OpS w' B v A := ⟨own_below h.own hb, h.ok, h.canon⟩
theorem OpS.base {w : World} {B B' : Nat} {v : Value} {A : List Step} (h : OpS w B v A) (hB : B' ≤ B) : OpS w B' v A := ⟨own_base h.own hB, h.ok, h.canon⟩
/-- any steps, in their one form -/
theorem opS_of {w : World} {B : Nat} {v : Value} {S : List Step} (h : w.ownsRow B 33 3 v (group S).length (partCells (group S))) (hok : StepsOk S) (hl : S.length ≤ 4000) :
    OpS w B v (steps (group S)) ∧ Sim (steps (group S)) S :=
  ⟨⟨by rw [group_again hok hl]; exact h, group_stepsOk hok hl, by rw [group_again hok hl]⟩, group_sim hok hl⟩

theorem group_text {S : List Step} (h : S.length ≤ 4000) : ∀ p ∈ group S, p.text.size ≤ 1048576 := fun p hp => by have := group_txt S p hp; omega
theorem group_many {S : List Step} (h : S.length ≤ 4000) : (group S).length ≤ 1048576 := by have := group_len S; omega
theorem str_fits {rs : List Nat} (h : ∀ r ∈ rs, CP r) (hl : rs.length ≤ 4000) : (str rs).size ≤ 1048576 := by
  have e1 : (str rs).size = (encs rs).length := by rw [← str_bytes, bytes_len]
  have := encs_le h
  omega
theorem applies_of {rs : List Nat} {A : List Step} (hr : ∀ r ∈ rs, CP r) (hok : StepsOk A) (hl : A.length ≤ 4000) (he : oldN A = rs.length) : Applies (str rs) (group A) :=
  ⟨group_ok hok hl, valid_str hr, by rw [runes_str hr]; have := oldN_le A; omega, by rw [group_from hok hl, runes_str hr]; exact he⟩

theorem opCall (n : Nat) (rs : List RawV) (a : Option Addr) (cap : Nat) (w : World) (hr : RawsAt w a rs) (hok : ∀ r ∈ rs, RawOk r) (hlen : rs.length ≤ 9223372036854775807) (hn : n ≤ 3000) :
    Calls Tryd.prog 8 #[.int .i64 (n : Int), .slice a rs.length cap] w fun e w' => ∃ v A, e = .returned v ∧ OpS w' w.heap.size v A ∧ oldN A = n ∧ A.length ≤ n + 24 ∧ Below w.heap.size w w' ∧ (rs = [] → A = List.replicate n (1, 0)) :=
  (op_made n rs a cap w hr hok hlen hn).mono fun e w' ⟨v, S, he, hown, h1, h2, h3, hb, h4⟩ => by
    obtain ⟨ho, hs⟩ := opS_of hown h1 (by omega)
    refine ⟨v, _, he, ho, by rw [hs.olds]; exact h2, by rw [hs.len]; exact h3, hb, fun e => ?_⟩
    have hS := h4 e
    subst hS
    by_cases hz : n = 0
    · subst hz; rfl
    · have e1 : group (List.replicate n ((1 : Int), (0 : Int))) = [⟨1, (n : Int), ByteArray.empty⟩] := by
        unfold group
        have := penOf_keeps [] n (by omega)
        rw [List.nil_append] at this
        rw [this]
        exact all_keep _
      rw [e1]
      simp [steps, stepsOf]

end Go.Proofs.YtodnocplljkjnaaDoor
