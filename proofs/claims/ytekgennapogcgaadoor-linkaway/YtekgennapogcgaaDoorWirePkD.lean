/-
  Walk: wire.DecodePacket.
-/
import Derived.Test.YtekgennapogcgaaDoorWirePkt
import Derived.Test.YtekgennapogcgaaDoorWireDec
namespace Go.Proofs.YtekgennapogcgaaDoor
open Go.RowKit Go.Lib

def pkErr (p : PacketV) : Int := packetErr p.epoch p.number p.bare p.ack p.frame.kind p.frame.heard p.frame.epoch p.frame.op p.frame.text
/-- P3.7: what is wrong with the bytes of a packet -/
def pkFault (l : List Nat) : Int := if 50000 < l.length then 1 else if endE (rest (packetP l)) ≠ 0 then endE (rest (packetP l)) else match packetP l with
  | .ok x => pkErr x.1
  | .error e => e
def pkOf (l : List Nat) : PacketV := if pkFault l ≠ 0 then packet0 else match packetP l with
  | .ok x => x.1
  | .error _ => packet0

end Go.Proofs.YtekgennapogcgaaDoor
