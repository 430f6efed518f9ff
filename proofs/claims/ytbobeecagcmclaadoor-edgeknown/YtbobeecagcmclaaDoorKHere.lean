/-
  Walk: wherrykeep.here; parts of a text's runes as texts.
-/
import Derived.Test.YtbobeecagcmclaaDoorKCalls
import Derived.Test.YtbobeecagcmclaaDoorPureLaws
namespace Go.Proofs.YtbobeecagcmclaaDoor
open Go.RowKit Go.Lib

theorem mason_new (w : World) (left : Int) : MasonAt (w.alloc (.cells #[.slice none 0 0, .int .i64 left] 72)) w.heap.size w.heap.size (.slice none 0 0) (group []) left :=
  ⟨Nat.le_refl _, heap_alloc_new w _, World.ownsRow_nil _ _ _ _⟩
theorem str_le {rs : List Nat} (h : ∀ r ∈ rs, CP r) : (str rs).size ≤ 4 * rs.length := by
  have e1 : (str rs).size = (encs rs).length := by rw [← str_bytes, bytes_len]
  have := encs_le h
  omega
theorem noDel_canon {S : List Step} (h : StepsOk S) (hl : S.length ≤ 4000) (hd : ∀ s ∈ S, s.1 ≠ 3) : steps (group S) = S := ((group_sim h hl).symm.eq_noDel hd).symm

set_option maxRecDepth 100000 in
set_option maxHeartbeats 1000000 in
theorem hereCall (n k : Nat) (rs : List Nat) (w : World) (hk : k ≤ n) (hn : n ≤ 2000) (hr : ∀ r ∈ rs, CP r) (hrl : rs.length ≤ 1000) :
    Calls Tryd.prog 9 #[.int .i64 (n : Int), .int .i64 (k : Int), .string (str rs)] w fun e w' => ∃ v, e = .returned v ∧ OpS w' w.heap.size v (List.replicate k (1, 0) ++ insS rs ++ List.replicate (n - k) (1, 0)) ∧ Below w.heap.size w w' := by
  have hnk : ((n : Int) - (k : Int)) = ((n - k : Nat) : Int) := by omega
  have hb0 := (Below.refl w.heap.size w).alloc (Nat.le_refl _) (.cells #[.slice none 0 0, .int .i64 0] 72)
  have hm0 := mason_new w 0
  have hz0 := hb0.size
  have hs := str_le hr
  have il : (insS rs).length = rs.length := by simp [insS]
  have k1 : StepsOk (List.replicate k (1, 0)) := .keeps k
  have k2 := k1.append (StepsOk.ins hr)
  have k3 := k2.append (StepsOk.keeps (n - k))
  have hl2 : (List.replicate k ((1 : Int), (0 : Int)) ++ insS rs).length ≤ 4000 := by rw [List.length_append, List.length_replicate, il]; omega
  have hl3 : (List.replicate k ((1 : Int), (0 : Int)) ++ insS rs ++ List.replicate (n - k) ((1 : Int), (0 : Int))).length ≤ 4000 := by rw [List.length_append, List.length_append, List.length_replicate, List.length_replicate, il]; omega
  have hnd : ∀ s ∈ List.replicate k ((1 : Int), (0 : Int)) ++ insS rs ++ List.replicate (n - k) ((1 : Int), (0 : Int)), s.1 ≠ 3 := by
    intro s hs
    rcases List.mem_append.1 hs with hs | hs
    · rcases List.mem_append.1 hs with hs | hs
      · rw [List.eq_of_mem_replicate hs]; decide
      · obtain ⟨r, _, rfl⟩ := List.mem_map.1 hs; simp
    · rw [List.eq_of_mem_replicate hs]; decide
  have hcan : Hid (steps (group (List.replicate k (1, 0) ++ insS rs ++ List.replicate (n - k) (1, 0))) = List.replicate k (1, 0) ++ insS rs ++ List.replicate (n - k) (1, 0)) := noDel_canon k3 hl3 hnd
  clear hnd
  obtain ⟨S3, hS3⟩ : ∃ S3, S3 = List.replicate k ((1 : Int), (0 : Int)) ++ insS rs ++ List.replicate (n - k) ((1 : Int), (0 : Int)) := ⟨_, rfl⟩
  rw [← hS3] at hcan k3 hl3 ⊢
  have HS : Hid (S3 = List.replicate k ((1 : Int), (0 : Int)) ++ insS rs ++ List.replicate (n - k) ((1 : Int), (0 : Int))) := hS3
  clear hS3
  go_enter Tryd.func9, Tryd.ntmps9
  go_wp2_with fail
  refine (addK _ w.heap.size w.heap.size _ [] 0 k hm0 (by omega) .nil (by simp) (by omega)).mono ?_
  rintro e w1 ⟨rfl, ov1, hm1, hst1⟩
  have hb1 := below_two' hb0 hst1 hm0
  rw [List.nil_append] at hm1
  have hz1 := hb1.size
  clear hm0 hst1 hb0
  go_wp2_with fail
  refine (addI w1 w.heap.size w.heap.size ov1 (List.replicate k (1, 0)) 0 rs hm1 (by omega) k1 (by rw [List.length_replicate]; omega) (by omega)).mono ?_
  rintro e w2 ⟨rfl, ov2, hm2, hst2⟩
  have hb2 := below_two' hb1 hst2 hm1
  have hz2 := hb2.size
  clear hm1 hst2 hb1
  go_wp2_with fail
  refine (addK w2 w.heap.size w.heap.size ov2 _ 0 (n - k) hm2 (by omega) k2 hl2 (by omega)).mono ?_
  rintro e w3 ⟨rfl, ov3, hm3, hst3⟩
  rw [← HS.out] at hm3
  have hb3 := below_two' hb2 hst3 hm2
  obtain ⟨c0, _⟩ := hm3.cells
  obtain ⟨oa, oc, rfl⟩ := own_form hm3.own
  clear hm2 hst3 hb2
  go_wp2_with fail
  go_ret
  exact ⟨_, rfl, ⟨hm3.own, k3, hcan.out⟩, hb3⟩

/-- 'string(r[i:j])' of the runes of a text -/
theorem conv_part (w : World) (s : ByteArray) (c G i n cap : Nat) (hG : w.heap[G]? = some (.cells (runeRow s c) 21 (0, 0))) (h : i + n ≤ (runes s).length) :
    (convert 67 9 (.slice (some ⟨G, i, none⟩) n cap)).run Tryd.prog w = .ok (.string (str (((runes s).drop i).take n))) w := by
  have hr := run_convert_runes (P := Tryd.prog) w 67 9 21 ⟨G, i, none⟩ n cap ((((runes s).drop i).take n).map fun r : Nat => (r : Int)) (by simp; omega) Tryd.underlying67 Tryd.underlying21 Tryd.underlying9 (fun j hj => by
    have hj' : j < n := by simp at hj; omega
    rw [WideShapes.add_plain]
    rw [cell_of_row _ _ _ _ _ _ hG, runeRow_get s c (i + j) (by omega)]
    congr 2
    rw [List.getD_eq_getElem?_getD, List.getElem?_map, List.getElem?_take, if_pos hj', List.getElem?_drop, List.getElem?_eq_getElem (by omega)]
    rfl)
  have e : ((((runes s).drop i).take n).map fun r : Nat => (r : Int)).take n = (((runes s).drop i).take n).map fun r : Nat => (r : Int) := by
    rw [List.take_of_length_le (by simp; omega)]
  rw [e, runesBytes_str] at hr
  exact hr

/-- 'string(r[x:])' of the runes of a text, as the walk writes it -/
theorem conv_tail (w : World) (s : ByteArray) (c G x n m : Nat) (hG : w.heap[G]? = some (.cells (runeRow s c) 21 (0, 0))) (hn : n = (runes s).length) (hx : x ≤ n) (hm : n ≤ m) :
    (convert 67 9 (.slice (if m = x then some ⟨G, 0, none⟩ else some ⟨G, x, none⟩) (n - x) (m - x))).run Tryd.prog w = .ok (.string (str ((runes s).drop x))) w := by
  by_cases h : m = x
  · rw [if_pos h]
    have h0 : n - x = 0 := by omega
    have := conv_part w s c G 0 (n - x) (m - x) hG (by omega)
    rw [this, List.drop_zero, h0, List.take_zero, List.drop_of_length_le (by omega)]
  · rw [if_neg h]
    have := conv_part w s c G x (n - x) (m - x) hG (by omega)
    rw [this, List.take_of_length_le (by simp; omega)]
/-- 'r[x:]', under a name -/
def cutV (G x n m : Nat) : Value := .slice (if m = x then some ⟨G, 0, none⟩ else some ⟨G, x, none⟩) (n - x) (m - x)
theorem run_cutV (w : World) (G x n m : Nat) (h : (x : Int) ≤ (n : Int)) : (Instr.slice 67 (.slice (some ⟨G, 0, none⟩) n m) (some (.int .i64 (x : Int))) none none).run Tryd.prog w = .ok (cutV G x n m) w := by
  have h0 : (0 : Int) ≤ (x : Int) := by omega
  have e : Tryd.prog.underlying 67 = some (.slice (Tryd.prog.elem 67)) := by kernel_rfl
  rw [run_slice_l w 67 (some ⟨G, 0, none⟩) n m e .i64 (x : Int) h0 h]
  have hs : (sizeOf (Tryd.prog.elem 67)).run Tryd.prog w = .ok 1 w := by kernel_rfl
  rw [hs]
  by_cases hx : x = 0
  · subst hx; simp [Result.andThen, sliced, cutV, Addr.add]
  · simp [Result.andThen, sliced, cutV, Addr.add, hx]

end Go.Proofs.YtbobeecagcmclaaDoor
