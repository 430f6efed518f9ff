/-
  Walk: text.split.
-/
import Derived.Test.YtodnocplljkjnaaDoorCheck
import Derived.Test.YtodnocplljkjnaaDoorPure
import Derived.Deep.QuietTactic
import Derived.BigQuiet
namespace Go.Proofs.YtodnocplljkjnaaDoor
open Go.RowKit Go.Lib

theorem str_size (rs : List Nat) : (str rs).size = (encs rs).length := by
  rw [← bytes_len, str_bytes]
theorem encs_take_drop (rs : List Nat) (j : Nat) : encs rs = encs (rs.take j) ++ encs (rs.drop j) := by
  rw [← encs_append, List.take_append_drop]
/-- the runes of a text, one by one -/
theorem decode_str (rs : List Nat) (h : ∀ r ∈ rs, CP r) (j : Nat) (hj : j < rs.length) : Utf8.decode (str rs) (encs (rs.take j)).length = (rs[j], (enc rs[j]).length) := by
  rw [← decodeL_drop, str_bytes, encs_take_drop rs j, List.drop_left, List.drop_eq_getElem_cons hj, encs_cons]
  exact decode_enc (h _ (List.getElem_mem hj)) _
theorem encs_take_succ (rs : List Nat) (j : Nat) (hj : j < rs.length) : (encs (rs.take (j + 1))).length = (encs (rs.take j)).length + (enc rs[j]).length := by
  rw [List.take_succ_eq_append_getElem hj, encs_append, List.length_append, encs_cons]
  simp [encs]
theorem encs_take_lt (rs : List Nat) (h : ∀ r ∈ rs, CP r) (j : Nat) (hj : j < rs.length) : (encs (rs.take j)).length < (str rs).size := by
  rw [str_size, encs_take_drop rs j, List.length_append, List.drop_eq_getElem_cons hj, encs_cons, List.length_append]
  have := enc_pos (h _ (List.getElem_mem hj))
  omega
theorem extract_head (rs : List Nat) (j : Nat) : (str rs).extract 0 (encs (rs.take j)).length = str (rs.take j) := by
  apply ByteArray.ext
  apply Array.ext'
  rw [extract_data, str_bytes, str_bytes]
  conv => lhs; rw [encs_take_drop rs j]
  simp
theorem extract_tail (rs : List Nat) (j : Nat) : (str rs).extract (encs (rs.take j)).length (str rs).size = str (rs.drop j) := by
  apply ByteArray.ext
  apply Array.ext'
  rw [extract_data, str_size, str_bytes, str_bytes]
  conv => lhs; rw [encs_take_drop rs j]
  simp

theorem below_drewN' {B : Nat} {a w : World} (h : Below B a w) (n : Nat) : Below B a (w.drewN n) := h.trans ⟨rfl, rfl, rfl, Nat.le_refl _, fun _ _ => rfl⟩

set_option maxHeartbeats 1000000 in
theorem split_any (rs : List Nat) (n : Nat) (w : World) (h : ∀ r ∈ rs, CP r) (_hs : (str rs).size < 9223372036854775807) (hn : n ≤ 9223372036854775807) :
    Calls Tryd.prog 18 #[.string (str rs), .int .i64 (n : Int)] w fun e w' => e = .returned (.tuple #[.string (str (rs.take n)), .string (str (rs.drop n))]) ∧ Below w.heap.size w w' := by
  go_enter Tryd.func18, Tryd.ntmps18
  go_wp2
  go_loopw [1] (fun nv w' => ∃ (j : Nat), j ≤ rs.length ∧ j ≤ n ∧ nv = .int .i64 ((n : Int) - j) ∧ w' = w.iter (str rs) (encs (rs.take j)).length) (fun _ w' => (str rs).size - w'.iterPos w.heap.size)
  case atStart => exact ⟨0, Nat.zero_le _, Nat.zero_le _, by simp, by simp [encs]⟩
  case round =>
    obtain ⟨j, hj, hjn, rfl, rfl⟩ := hrel
    by_cases hp : j < rs.length
    · have hd := decode_str rs h j hp
      have hlt := encs_take_lt rs h j hp
      have hnx : ∀ ty, (Instr.next (.pointer (some ⟨w.heap.size, 0, none⟩)) true ty).run Tryd.prog (w.iter (str rs) (encs (rs.take j)).length) = _ := fun ty => run_next_any w (str rs) (encs (rs.take j)).length ty hlt
      rw [hd] at hnx
      simp only at hnx
      by_cases hz : n = j
      · subst hz
        have e1 := extract_head rs n
        have e2 := extract_tail rs n
        clear hd
        generalize hpos : (encs (rs.take n)).length = pos at *
        have HP : Hid ((encs (rs.take n)).length = pos) := hpos
        clear hpos
        have E1 : Hid ((str rs).extract 0 pos = str (rs.take n)) := e1
        have E2 : Hid ((str rs).extract pos (str rs).size = str (rs.drop n)) := e2
        clear e1 e2
        have p1 : (pos : Int) ≤ ((str rs).size : Int) := by omega
        have p0 : (0 : Int) ≤ (pos : Int) := by omega
        go_wp2
        go_quiet (fail)
        go_wp2
        go_ret2
        refine ⟨?_, below_drewN' ((Below.refl _ _).alloc (Nat.le_refl _) _) _⟩
        rw [← E1.out, ← E2.out]
        rfl
      · have hz1 : ((n : Int) - (j : Int) == 0) = false := by simp; omega
        have hst := encs_take_succ rs j hp
        have hpos := enc_pos (h _ (List.getElem_mem hp))
        go_wp2
        go_roundw
        case rel =>
          refine ⟨j + 1, hp, by omega, by go_num, ?_⟩
          rw [hst]
        case measure =>
          simp
          omega
    · obtain rfl : j = rs.length := by omega
      have hend : ¬ (encs (rs.take rs.length)).length < (str rs).size := by rw [List.take_length, str_size]; omega
      generalize (encs (rs.take rs.length)).length = pos at *
      have hnx : ∀ ty, (Instr.next (.pointer (some ⟨w.heap.size, 0, none⟩)) true ty).run Tryd.prog (w.iter (str rs) pos) = _ := fun ty => run_next_end w (str rs) pos ty hend
      go_wp2
      go_ret2
      refine ⟨?_, (Below.refl _ _).alloc (Nat.le_refl _) _⟩
      rw [List.take_of_length_le hjn, List.drop_of_length_le hjn]
      rfl

end Go.Proofs.YtodnocplljkjnaaDoor
