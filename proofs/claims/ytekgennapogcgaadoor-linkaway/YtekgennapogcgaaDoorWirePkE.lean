/-
  Walks: wire.writer.frame, packet, wire.EncodePacket.
-/
import Derived.Test.YtekgennapogcgaaDoorWireEnc
import Derived.Test.YtekgennapogcgaaDoorWirePkD
namespace Go.Proofs.YtekgennapogcgaaDoor
open Go.RowKit Go.Lib

/-- P3.4: a frame as bytes -/
def frameW (f : FrameV) : List Nat := sev f.kind ++ (if f.kind = 1 then sev f.heard ++ opW f.op else if f.kind = 2 then sev f.epoch ++ sev f.heard else if f.kind = 3 then sev f.epoch ++ (sev f.text.size ++ sbytes f.text) else [])
/-- P3.5: a packet as bytes -/
def packetW (p : PacketV) : List Nat := sev p.epoch ++ (sev p.ack ++ (sev p.number ++ (if p.bare = true then [] else frameW p.frame)))
structure FrameW (f : FrameV) : Prop where
  kind : f.kind = 1 ∨ f.kind = 2 ∨ f.kind = 3
  heard : f.heard < 268435456
  epoch : f.epoch < 268435456
  many : f.op.length ≤ 10000
  parts : ∀ p ∈ f.op, PartW p
  text : f.text.size ≤ 1048576
structure PacketW (p : PacketV) : Prop where
  epoch : p.epoch < 268435456
  number : p.number < 268435456
  ack : p.ack < 268435456
  frame : p.bare = false → FrameW p.frame

theorem pkErr_zero {p : PacketV} (h : pkErr p = 0) (hs : ∀ q ∈ p.frame.op, q.text.size ≤ 1048576) (hx : p.frame.text.size ≤ 1048576) : PacketW p := by
  unfold pkErr packetErr at h
  have i1 : inN p.epoch = true := by
    cases hi : inN p.epoch with
    | true => rfl
    | false => rw [hi] at h; simp at h
  have i2 : inN p.number = true := by
    cases hi : inN p.number with
    | true => rfl
    | false => rw [i1, hi] at h; simp at h
  have i3 : inN p.ack = true := by
    cases hi : inN p.ack with
    | true => rfl
    | false => rw [i1, i2, hi] at h; simp at h
  rw [i1, i2, i3] at h
  have j1 : 0 ≤ (p.epoch : Int) ∧ (p.epoch : Int) ≤ 1048576 := of_decide_eq_true i1
  have j2 : 0 ≤ (p.number : Int) ∧ (p.number : Int) ≤ 1048576 := of_decide_eq_true i2
  have j3 : 0 ≤ (p.ack : Int) ∧ (p.ack : Int) ≤ 1048576 := of_decide_eq_true i3
  refine ⟨by omega, by omega, by omega, fun hb => ?_⟩
  rw [hb] at h
  simp only [Bool.true_eq_false, Bool.false_eq_true, if_false] at h
  split at h
  · cases h
  split at h
  · cases h
  unfold frameErr at h
  split at h
  · cases h
  rename_i hk
  split at h
  · cases h
  rename_i hh
  split at h
  · cases h
  rename_i he
  split at h
  · rename_i h1; exact absurd h h1
  rename_i ho
  have jh : 0 ≤ (p.frame.heard : Int) ∧ (p.frame.heard : Int) ≤ 1048576 := of_decide_eq_true (show inN _ = true by simpa using hh)
  have je : 0 ≤ (p.frame.epoch : Int) ∧ (p.frame.epoch : Int) ≤ 1048576 := of_decide_eq_true (show inN _ = true by simpa using he)
  obtain ⟨hm, hp⟩ := opErr_parts (show opErr p.frame.op = 0 by simpa using ho) hs
  exact ⟨by omega, by omega, by omega, hm, hp, hx⟩

end Go.Proofs.YtekgennapogcgaaDoor
