/-
  wire.EncodeRecord of what may not be; how long a record's bytes are at most.
-/
import Derived.Test.YtknjnfknalfbdaaDoorWireEnc
import Derived.Test.YtknjnfknalfbdaaDoorWirePacket
import Derived.Test.YtknjnfknalfbdaaDoorBlk
namespace Go.Proofs.YtknjnfknalfbdaaDoor
open Go.RowKit Go.Lib

theorem flat_bound : ∀ (ps : List Part), (∀ p ∈ ps, (partW p).length ≤ 1100000) → (ps.flatMap partW).length ≤ ps.length * 1100000
  | [], _ => by simp
  | p :: ps, h => by
    rw [List.flatMap_cons, List.length_append, List.length_cons, Nat.add_mul, Nat.one_mul]
    have h1 := h p (List.mem_cons_self ..)
    have h2 := flat_bound ps (fun q hq => h q (List.mem_cons_of_mem _ hq))
    omega

theorem opW_bound {ps : List Part} (hl : ps.length ≤ 10000) (h : ∀ p ∈ ps, PartW p) : (opW ps).length ≤ 20000000000 := by
  have h1 := flat_bound ps (fun p hp => by
    have hw := h p hp
    unfold partW
    have a1 := sev_le (n := p.kind.toNat) (by have := hw.1; omega)
    have a2 := sev_le (n := p.n.toNat) (by have := hw.2.1; omega)
    have a3 := sev_le (n := p.text.size) (by have := hw.2.2; omega)
    have a4 := hw.2.2
    rw [List.length_append]
    split
    · rw [List.length_append, sbytes_length]; omega
    · omega)
  have h2 := sev_le (n := ps.length) (by omega)
  unfold opW
  rw [List.length_append]
  omega

set_option maxRecDepth 100000 in
set_option maxHeartbeats 2000000 in
theorem encodeRecord_bad (e : Int) (ps : List Part) (a : Option Addr) (c : Nat) (w : World) (hop : OpAt w a ps) (hn : ps.length ≤ 9223372036854775806) (hs : ∀ p ∈ ps, p.text.size ≤ 70368744177664) (hT : Tabs w) (herr : recordErr e ps ≠ 0) :
    Calls Tryd.prog 39 #[.agg #[.int .i64 e, .slice a ps.length c]] w fun r w' => r = .returned (.tuple #[.slice none 0 0, .int .i64 (recordErr e ps)]) ∧ Below w.heap.size w w' := by
  have hb0 := (Below.refl w.heap.size w).alloc (Nat.le_refl _) (.cells #[.int .i64 e, .slice a ps.length c] 74)
  have cF := checkRecord_any e ps a c _ (hop.below hb0) hn hs (hT.below hb0)
  have hpb := heap_alloc_new w (.cells #[.int .i64 e, .slice a ps.length c] 74)
  obtain ⟨q0, _, _⟩ := blk hpb
  have g : (recordErr e ps != 0) = true := by simpa using herr
  generalize recordErr e ps = er at *
  clear hop hs hT
  go_enter Tryd.func39, Tryd.ntmps39
  go_wp2_with fail
  refine cF.mono ?_
  rintro r w1 ⟨rfl, hb1⟩
  go_wp2_with fail
  go_ret2
  exact ⟨rfl, below_two hb0 hb1 (Nat.le_refl _)⟩

end Go.Proofs.YtknjnfknalfbdaaDoor
