/-
  Walk: wherryref.textBytes.
-/
import Derived.Test.YtknjnfknalfbdaaDoorSevens
import Derived.Test.YtknjnfknalfbdaaDoorWireBack
import Derived.Lib.ConvBytes
namespace Go.Proofs.YtknjnfknalfbdaaDoor
open Go.RowKit Go.Lib

theorem bytesWorld_below (w : World) (s : ByteArray) : Below w.heap.size w (bytesWorld w 5 s) :=
  ⟨rfl, rfl, rfl, by rw [bytesWorld_size]; omega, fun k hk => bytesWorld_at_old w _ s k hk⟩
theorem sbytes_get {s : ByteArray} {i : Nat} (h : i < (sbytes s).length) (h2 : i < s.data.toList.length) : (sbytes s)[i] = (s.data.toList[i]).toNat := by simp [sbytes]
theorem bytesWorld_bytes (w : World) (s : ByteArray) : Bytes (bytesWorld w 5 s) (some ⟨w.heap.size, 0, none⟩) (sbytes s) := by
  refine .inr ⟨w.heap.size, 0, rfl, by rw [bytesWorld_size]; omega, fun i hi => ?_⟩
  have hi' : i < s.size := by rwa [sbytes_length] at hi
  rw [Nat.zero_add, bytesWorld_cell w _ s i hi']
  have h2 : i < s.data.toList.length := by simpa using hi'
  rw [sbytes_get hi h2]
  simp [List.getD, List.getElem?_eq_getElem h2]

set_option maxRecDepth 100000 in
set_option maxHeartbeats 2000000 in
theorem textBytes_any (s : ByteArray) (w : World) (hs : s.size ≤ 10000000) :
    Calls Tryd.prog 105 #[.string s] w fun r w' => ∃ v, r = .returned v ∧ w'.ownsRow w.heap.size 5 1 v (sev s.size ++ sbytes s).length (octs (sev s.size ++ sbytes s)) ∧ Below w.heap.size w w' := by
  have cS := fun wx => sevens_any s.size wx (by omega)
  have hcv := fun wx : World => Lib.run_convert_string_bytes (P := Tryd.prog) wx 9 75 5 s Tryd.underlying9 Tryd.underlying75 Tryd.underlying5
  have hsl := sev_le (n := s.size) (by omega)
  obtain ⟨R, hR⟩ : ∃ R, R = sev s.size ++ sbytes s := ⟨_, rfl⟩
  rw [← hR]
  have HR : Hid ([sev s.size, sbytes s].flatten = R) := by show _ = _; rw [hR]; simp
  have hrl : R.length ≤ 50000000000 := by rw [hR, List.length_append, sbytes_length]; omega
  clear hR
  have cS1 := cS w
  have hbl := sbytes_length s
  have HBL : Hid ((sbytes s).length = s.size) := hbl
  clear cS hbl
  go_enter Tryd.func105, Tryd.ntmps105
  go_wp2_with fail
  refine cS1.mono ?_
  rintro r w1 ⟨v, rfl, hown, hb⟩
  have hcv1 := hcv w1
  have hbb := bytesWorld_below w1 s
  have hby := bytesWorld_bytes w1 s
  obtain ⟨a1, c1, rfl, _, hby1, _⟩ := srcB_own hown
  have hby1' := hby1.below hbb
  have HB2 := below_two hb hbb (Nat.le_refl _)
  generalize sev s.size = M at *
  generalize grownCap w1 s.size 0 5 = gc at *
  generalize bytesWorld w1 5 s = w2 at *
  have hba := (Below.refl w2.heap.size w2).alloc (Nat.le_refl _) (.cells #[.slice a1 M.length c1, .slice (some ⟨w1.heap.size, 0, none⟩) s.size gc] 75)
  have h3 := heap_alloc_new w2 (.cells #[.slice a1 M.length c1, .slice (some ⟨w1.heap.size, 0, none⟩) s.size gc] 75)
  have HB3 := below_two HB2 hba (Nat.le_refl _)
  have hL : ListsAt (w2.alloc (.cells #[.slice a1 M.length c1, .slice (some ⟨w1.heap.size, 0, none⟩) s.size gc] 75)) (some ⟨w2.heap.size, 0, none⟩) [M, sbytes s] := by
    rw [← HBL.out] at h3 hba ⊢
    exact lists_two h3 (hby1'.below hba) (hby.below hba)
  have cJ := joined_any [M, sbytes s] _ 2 _ hL (by rw [HR.out]; omega) (by simp)
  rw [HR.out] at cJ
  clear cS1 hcv h3 hL hba hb hbb hby hby1 hby1' hown
  go_wp2_with fail
  refine cJ.mono ?_
  rintro r w4 ⟨v4, rfl, hown4, hb4⟩
  go_wp2_with fail
  go_ret
  exact ⟨_, rfl, own_base hown4 HB3.size, below_two HB3 hb4 (Nat.le_refl _)⟩

end Go.Proofs.YtknjnfknalfbdaaDoor
