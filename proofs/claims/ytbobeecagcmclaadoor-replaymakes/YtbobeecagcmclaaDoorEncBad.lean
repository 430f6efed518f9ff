/-
  wire.EncodeRecord of what may not be; how long a record's bytes are at most.
-/
import Derived.Test.YtbobeecagcmclaaDoorWireEnc
import Derived.Test.YtbobeecagcmclaaDoorWirePacket
import Derived.Test.YtbobeecagcmclaaDoorBlk
namespace Go.Proofs.YtbobeecagcmclaaDoor
open Go.RowKit Go.Lib

theorem flat_bound : ∀ (ps : List Part), (∀ p ∈ ps, (partW p).length ≤ 1100000) → (ps.flatMap partW).length ≤ ps.length * 1100000
  | [], _ => by simp
  | p :: ps, h => by
    rw [List.flatMap_cons, List.length_append, List.length_cons, Nat.add_mul, Nat.one_mul]
    have h1 := h p (List.mem_cons_self ..)
    have h2 := flat_bound ps (fun q hq => h q (List.mem_cons_of_mem _ hq))
    omega

theorem opW_bound {ps : List Part} (hl : ps.length ≤ 10000) (h : ∀ p ∈ ps, PartW p) : (opW ps).length ≤ 20000000000 := by
  have h1 := flat_bound ps (fun p hp => by
    have hw := h p hp
    unfold partW
    have a1 := sev_le (n := p.kind.toNat) (by have := hw.1; omega)
    have a2 := sev_le (n := p.n.toNat) (by have := hw.2.1; omega)
    have a3 := sev_le (n := p.text.size) (by have := hw.2.2; omega)
    have a4 := hw.2.2
    rw [List.length_append]
    split
    · rw [List.length_append, sbytes_length]; omega
    · omega)
  have h2 := sev_le (n := ps.length) (by omega)
  unfold opW
  rw [List.length_append]
  omega

end Go.Proofs.YtbobeecagcmclaaDoor
