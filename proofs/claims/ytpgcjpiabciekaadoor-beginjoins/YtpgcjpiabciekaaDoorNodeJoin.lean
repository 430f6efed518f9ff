/-
  Walks: the method join of a node's work; node.Begin, where it does not refuse.
-/
import Derived.Test.YtpgcjpiabciekaaDoorNodeOpn
import Derived.Test.YtpgcjpiabciekaaDoorNodeBeg
namespace Go.Proofs.YtpgcjpiabciekaaDoor
open Go.RowKit Go.Lib

def joinF (ep up : Int) : FrI := ⟨2, up, ep, [], ByteArray.empty⟩
/-- a side whose link was opened anew -/
def side1 (s : SideV) (ep : Int) : SideV := linkPut s ep 1 0 [] [] (.slice none 0 0) (.slice none 0 0)
theorem joinF_small (ep up : Int) : FrSmall (joinF ep up) := ⟨⟨by simp [joinF], fun p h => by simp [joinF] at h⟩, by simp [joinF]⟩
theorem opVal_nil (w : World) : OpVal w (.slice none 0 0) [] := (SlT.own (B := 0) (T := 102) (size := 3) (World.ownsRow_nil w 0 102 3) (fun _ => rfl)).slIn.op

set_option maxRecDepth 100000 in
set_option maxHeartbeats 2000000 in
theorem wjoin_any (B p g n c : Nat) (V : TurnV) (uv mv pv rv : Value) (R : List SideV) (s : SideV) (w : World) (hw : WorkAt w B p V (.slice (some ⟨g, 0, none⟩) n c) uv mv pv rv) (hV : V.sides = s :: R) (he : 1 ≤ V.ep ∧ V.ep ≤ 1048576) (hv : V.posts.length ≤ 1048576) (hT : ∀ w', Below B w w' → Tabs w') :
    Calls Tryd.prog 69 #[.pointer (some ⟨p, 0, none⟩)] w fun r w' => ∃ s' P pv', r = .returned (.tuple #[]) ∧ WorkAt w' B p { V with sides := s' :: R, posts := V.posts ++ postsTo s.peer P } (.slice (some ⟨g, 0, none⟩) n c) uv mv pv' rv ∧ SentOk (side1 s V.ep) s' (joinF V.ep V.up) P ∧ Below B w w' ∧ Typ [134, 140, 93] w w' := by
  have cO := wopen_any B p g n c V uv mv pv rv [] R s V.ep w hw hV he
  have hblk := hw.blk
  obtain ⟨b0, bl0, bf0⟩ := blk hblk
  go_enter Tryd.func69, Tryd.ntmps69
  go_wp2_with fail
  refine cO.mono ?_
  rintro r w1 ⟨rfl, hW1, hB1, ht1⟩
  have hW1d := hW1.below (⟨rfl, rfl, rfl, Nat.le_refl _, fun _ _ => rfl⟩ : Below w1.heap.size w1 w1.drew)
  have hB1d : Below B w w1.drew := hB1.trans ⟨rfl, rfl, rfl, Nat.le_refl _, fun _ _ => rfl⟩
  have cS : Calls Tryd.prog 121 #[.pointer (some ⟨p, 0, none⟩), .int .i64 0, .agg #[.int .i64 2, .int .i64 V.up, .int .i64 V.ep, .slice none 0 0, .string ⟨#[]⟩]] w1.drew _ := wsend_any B p g n c { V with sides := [] ++ side1 s V.ep :: R } uv mv pv rv [] R (side1 s V.ep) (joinF V.ep V.up) (.slice none 0 0) w1.drew hW1d rfl (by simp [side1, linkPut]) (by simp [side1, linkPut]) (opVal_nil _) (joinF_small _ _) hv (hT _ hB1d)
  have hblk1 := hW1.blk
  clear b0 bl0 bf0 hblk cO
  obtain ⟨b0, bl0, bf0⟩ := blk hblk1
  clear hblk1 hW1d hT hW1
  have HW : Hid (WorkAt w B p V (.slice (some ⟨g, 0, none⟩) n c) uv mv pv rv) := hw
  clear hw
  go_wp2_with fail
  go_region_law (first | (go_simp; go_at_call 121; refine Calls.mono cS ?_; rintro r w2 ⟨s', P, pv', rfl, hW2, hso, hB2, ht2⟩))
  all_goals go_end0
  all_goals exact ⟨s', P, pv', rfl, hW2, hso, hB1d.trans hB2, (ht1.more (by decide)).trans ⟨ht2.size, ht2.block⟩⟩

end Go.Proofs.YtpgcjpiabciekaaDoor
