/-
  Walk: wire.readPacket.
-/
import Derived.Test.YtekgennapogcgaaDoorWireFrm
namespace Go.Proofs.YtekgennapogcgaaDoor
open Go.RowKit Go.Lib

/-- a packet as a value -/
def pkVal (p : PacketV) (v : Value) : Value := .agg #[.int .i64 (p.epoch : Int), .int .i64 (p.number : Int), .bool p.bare, .int .i64 (p.ack : Int), .int .i64 (p.frame.kind : Int), .int .i64 (p.frame.heard : Int), .int .i64 (p.frame.epoch : Int), v, .string p.frame.text]
structure PacketSmall (p : PacketV) : Prop where
  epoch : p.epoch < 268435456
  number : p.number < 268435456
  ack : p.ack < 268435456
  frame : FrameSmall p.frame
theorem frame0_small : FrameSmall frame0 := ⟨by decide, by decide, by decide, by decide, by simp [frame0], by decide⟩

end Go.Proofs.YtekgennapogcgaaDoor
