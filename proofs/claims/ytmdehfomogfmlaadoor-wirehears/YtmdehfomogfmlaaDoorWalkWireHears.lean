/-
  Walk: wherrylaw.WireHears.
-/
import Derived.Test.YtmdehfomogfmlaaDoorWalkWireReads
import Derived.Test.YtmdehfomogfmlaaDoorEyePkt
namespace Go.Proofs.YtmdehfomogfmlaaDoor
open Go.RowKit Go.Lib

theorem pkOf_len (l : List Nat) : (pkOf l).frame.op.length ≤ 10000 := by
  unfold pkOf
  by_cases h : pkFault l ≠ 0
  · rw [if_pos h]; simp [packet0, frame0]
  · rw [if_neg h]
    unfold pkFault at h
    by_cases h5 : 50000 < l.length
    · rw [if_pos h5] at h; exact absurd (by decide) h
    · rw [if_neg h5] at h
      by_cases h6 : endE (rest (packetP l)) ≠ 0
      · rw [if_pos h6] at h; exact absurd h6 h
      · rw [if_neg h6] at h
        cases hp : packetP l with
        | error e => simp [packet0, frame0]
        | ok x =>
          rw [hp] at h
          simp only [ne_eq, Decidable.not_not] at h ⊢
          generalize x.1 = p at *
          unfold pkErr packetErr at h
          split at h
          · cases h
          split at h
          · cases h
          split at h
          · cases h
          split at h
          · split at h
            · rename_i hc
              have := hc.2
              unfold emptyB at this
              simp at this
              rw [this.1.2]
              simp
            · cases h
          split at h
          · cases h
          split at h
          · cases h
          unfold frameErr at h
          split at h
          · cases h
          split at h
          · cases h
          split at h
          · cases h
          split at h
          · rename_i h1; exact absurd h h1
          rename_i ho
          have := (opErr_zero (show opErr p.frame.op = 0 by simpa using ho)).many
          omega

set_option maxRecDepth 100000 in
set_option maxHeartbeats 1000000 in
theorem sameFrame_true (k h e : Int) (ps : List Part) (tx : ByteArray) (a b : Option Addr) (c d : Nat) (w : World) (ha : OpAt w a ps) (hb : OpAt w b ps) (hn : ps.length ≤ 10000) :
    Calls Tryd.prog 92 #[.agg #[.int .i64 k, .int .i64 h, .int .i64 e, .slice a ps.length c, .string tx], .agg #[.int .i64 k, .int .i64 h, .int .i64 e, .slice b ps.length d, .string tx]] w fun e w' => e = .returned (.bool true) ∧ Below w.heap.size w w' := by
  have hb1 := (Below.refl w.heap.size w).alloc (Nat.le_refl _) (.cells #[.int .i64 k, .int .i64 h, .int .i64 e, .slice a ps.length c, .string tx] 74)
  have hp := row_old (heap_alloc_new w (.cells #[.int .i64 k, .int .i64 h, .int .i64 e, .slice a ps.length c, .string tx] 74)) (.cells #[.int .i64 k, .int .i64 h, .int .i64 e, .slice b ps.length d, .string tx] 74)
  have hq := heap_alloc_new (w.alloc (.cells #[.int .i64 k, .int .i64 h, .int .i64 e, .slice a ps.length c, .string tx] 74)) (.cells #[.int .i64 k, .int .i64 h, .int .i64 e, .slice b ps.length d, .string tx] 74)
  rw [show (w.alloc (.cells #[.int .i64 k, .int .i64 h, .int .i64 e, .slice a ps.length c, .string tx] 74)).heap.size = w.heap.size + 1 by simp] at hq
  have HB := hb1.alloc hb1.size (.cells #[.int .i64 k, .int .i64 h, .int .i64 e, .slice b ps.length d, .string tx] 74)
  obtain ⟨p0, _, _⟩ := blk hp
  obtain ⟨q0, _, _⟩ := blk hq
  have cS := sameOp_true ps a b c d _ (ha.below HB) (hb.below HB) (by omega)
  clear hb1 hp hq
  go_enter Tryd.func92, Tryd.ntmps92
  go_wp2_with fail
  refine cS.mono ?_
  rintro r w1 ⟨rfl, hb1⟩
  go_wp2_with fail
  go_ret
  exact ⟨by simp, below_two HB hb1 (Nat.le_refl _)⟩

set_option maxRecDepth 100000 in
set_option maxHeartbeats 1000000 in
theorem samePacket_true (ep num : Int) (bare : Bool) (ack k h e : Int) (ps : List Part) (tx : ByteArray) (a b : Option Addr) (c d : Nat) (w : World) (ha : OpAt w a ps) (hb : OpAt w b ps) (hn : ps.length ≤ 10000) :
    Calls Tryd.prog 46 #[.agg #[.int .i64 ep, .int .i64 num, .bool bare, .int .i64 ack, .int .i64 k, .int .i64 h, .int .i64 e, .slice a ps.length c, .string tx], .agg #[.int .i64 ep, .int .i64 num, .bool bare, .int .i64 ack, .int .i64 k, .int .i64 h, .int .i64 e, .slice b ps.length d, .string tx]] w fun e w' => e = .returned (.bool true) ∧ Below w.heap.size w w' := by
  have hb1 := (Below.refl w.heap.size w).alloc (Nat.le_refl _) (.cells #[.int .i64 ep, .int .i64 num, .bool bare, .int .i64 ack, .int .i64 k, .int .i64 h, .int .i64 e, .slice a ps.length c, .string tx] 79)
  have hp := row_old (heap_alloc_new w (.cells #[.int .i64 ep, .int .i64 num, .bool bare, .int .i64 ack, .int .i64 k, .int .i64 h, .int .i64 e, .slice a ps.length c, .string tx] 79)) (.cells #[.int .i64 ep, .int .i64 num, .bool bare, .int .i64 ack, .int .i64 k, .int .i64 h, .int .i64 e, .slice b ps.length d, .string tx] 79)
  have hq := heap_alloc_new (w.alloc (.cells #[.int .i64 ep, .int .i64 num, .bool bare, .int .i64 ack, .int .i64 k, .int .i64 h, .int .i64 e, .slice a ps.length c, .string tx] 79)) (.cells #[.int .i64 ep, .int .i64 num, .bool bare, .int .i64 ack, .int .i64 k, .int .i64 h, .int .i64 e, .slice b ps.length d, .string tx] 79)
  rw [show (w.alloc (.cells #[.int .i64 ep, .int .i64 num, .bool bare, .int .i64 ack, .int .i64 k, .int .i64 h, .int .i64 e, .slice a ps.length c, .string tx] 79)).heap.size = w.heap.size + 1 by simp] at hq
  have HB := hb1.alloc hb1.size (.cells #[.int .i64 ep, .int .i64 num, .bool bare, .int .i64 ack, .int .i64 k, .int .i64 h, .int .i64 e, .slice b ps.length d, .string tx] 79)
  obtain ⟨p0, _, _⟩ := blk hp
  obtain ⟨q0, _, _⟩ := blk hq
  have cS := sameFrame_true k h e ps tx a b c d _ (ha.below HB) (hb.below HB) (by omega)
  clear hb1 hp hq
  go_enter Tryd.func46, Tryd.ntmps46
  go_wp2_with fail
  refine cS.mono ?_
  rintro r w1 ⟨rfl, hb1⟩
  go_wp2_with fail
  go_ret
  exact ⟨by simp, below_two HB hb1 (Nat.le_refl _)⟩

set_option maxRecDepth 100000 in
set_option maxHeartbeats 1000000 in
theorem wireHears_walk (l : List Nat) (a : Option Addr) (c : Nat) (w : World) (hb : Bytes w a l) (hs : SrcB w a c l) (h256 : ∀ x ∈ l, x < 256) (hc : l.length ≤ c) (hl : l.length ≤ 140737488351232) (hT : Tabs w) :
    Calls Tryd.prog 12 #[.slice a l.length c] w fun r w' => r = .returned (.bool true) ∧ Below w.heap.size w w' := by
  have cO := octets_any l a c w hs hl
  have cD : ∀ w1 v, Below w.heap.size w w1 → w1.ownsRow w.heap.size 5 1 v l.length (octs l) → Calls Tryd.prog 43 #[v] w1 fun r w' => ∃ (v : Value), r = .returned (.tuple #[pkVal (pkOf l) v, .int .i64 (pkFault l)]) ∧ w'.ownsRow w1.heap.size 68 3 v (pkOf l).frame.op.length (partCells (pkOf l).frame.op) ∧ Below w1.heap.size w1 w' := by
    intro w1 v hb1 hown
    obtain ⟨a1, c1, rfl, _, h1, h2⟩ := srcB_own hown
    exact decodePacket_any l a1 c1 w1 h1 h256 h2 (hT.below hb1)
  have cR : ∀ w1, Below w.heap.size w w1 → Calls Tryd.prog 45 #[.slice a l.length c] w1 fun r w' => ∃ (v : Value), r = .returned (.tuple #[pkVal (pkOf l) v, .int .i64 (pkFault l)]) ∧ w'.ownsRow w1.heap.size 68 3 v (pkOf l).frame.op.length (partCells (pkOf l).frame.op) ∧ Below w1.heap.size w1 w' :=
    fun w1 hb1 => packetOf_any l a c w1 (hb.below hb1) h256 hc (hT.below hb1)
  have hlen := pkOf_len l
  unfold pkVal at cD cR
  generalize pkOf l = O at *
  obtain ⟨ep, num, bare, ack, ⟨fk, fh, fe, ps, tx⟩⟩ := O
  generalize pkFault l = F at *
  simp only at hlen cD cR
  clear hb hs hc hT
  go_enter Tryd.func12, Tryd.ntmps12
  go_wp2_with fail
  refine cO.mono ?_
  rintro r w1 ⟨v, rfl, hown, hb1⟩
  have cD1 := cD w1 v hb1 hown
  clear cO cD hown
  go_wp2_with fail
  refine cD1.mono ?_
  rintro r w2 ⟨v2, rfl, hown2, hb2⟩
  obtain ⟨va2, vc2, rfl⟩ := own_form hown2
  have HB2 := below_two hb1 hb2 (Nat.le_refl _)
  clear cD1 hb1 hb2
  have hpb := heap_alloc_new w2 (.cells #[.int .i64 (ep : Int), .int .i64 (num : Int), .bool bare, .int .i64 (ack : Int), .int .i64 (fk : Int), .int .i64 (fh : Int), .int .i64 (fe : Int), .slice va2 ps.length vc2, .string tx] 79)
  have hba := (Below.refl w2.heap.size w2).alloc (Nat.le_refl _) (.cells #[.int .i64 (ep : Int), .int .i64 (num : Int), .bool bare, .int .i64 (ack : Int), .int .i64 (fk : Int), .int .i64 (fh : Int), .int .i64 (fe : Int), .slice va2 ps.length vc2, .string tx] 79)
  have HB3 := below_two HB2 hba (Nat.le_refl _)
  have hown3 := own_below hown2 hba
  have cR3 := cR _ HB3
  clear cR hown2 hba
  go_wp2_with fail
  refine cR3.mono ?_
  generalize (w2.alloc (.cells #[.int .i64 (ep : Int), .int .i64 (num : Int), .bool bare, .int .i64 (ack : Int), .int .i64 (fk : Int), .int .i64 (fh : Int), .int .i64 (fe : Int), .slice va2 ps.length vc2, .string tx] 79)) = w3 at *
  rintro r w4 ⟨v4, rfl, hown4, hb4⟩
  obtain ⟨va4, vc4, rfl⟩ := own_form hown4
  have hp4 := row_old ((hb4.block _ (Array.getElem?_eq_some_iff.1 hpb).1).trans hpb) (.cells #[.int .i64 (ep : Int), .int .i64 (num : Int), .bool bare, .int .i64 (ack : Int), .int .i64 (fk : Int), .int .i64 (fh : Int), .int .i64 (fe : Int), .slice va4 ps.length vc4, .string tx] 79)
  have hq4 := heap_alloc_new w4 (.cells #[.int .i64 (ep : Int), .int .i64 (num : Int), .bool bare, .int .i64 (ack : Int), .int .i64 (fk : Int), .int .i64 (fh : Int), .int .i64 (fe : Int), .slice va4 ps.length vc4, .string tx] 79)
  have hba := (Below.refl w4.heap.size w4).alloc (Nat.le_refl _) (.cells #[.int .i64 (ep : Int), .int .i64 (num : Int), .bool bare, .int .i64 (ack : Int), .int .i64 (fk : Int), .int .i64 (fh : Int), .int .i64 (fe : Int), .slice va4 ps.length vc4, .string tx] 79)
  have HB5 := below_two (below_two HB3 hb4 (Nat.le_refl _)) hba (Nat.le_refl _)
  have ho3 := own_below (own_below hown3 hb4) hba
  have ho4 := own_below hown4 hba
  clear cR3 hpb hown3 hown4 hb4 hba HB2 HB3
  obtain ⟨p0, pl, pf0⟩ := blk hp4
  obtain ⟨q0, ql, qf0⟩ := blk hq4
  obtain ⟨_, _, e3, hop3⟩ := own_opAt ho3
  obtain ⟨_, _, e4, hop4⟩ := own_opAt ho4
  simp only [Value.slice.injEq, true_and] at e3 e4
  obtain ⟨rfl, rfl⟩ := e3
  obtain ⟨rfl, rfl⟩ := e4
  have cS := samePacket_true ep num bare ack fk fh fe ps tx va2 va4 vc2 vc4 _ hop3 hop4 (by omega)
  clear hp4 hq4 ho3 ho4 hop3 hop4
  go_wp2_with fail
  refine cS.mono ?_
  rintro r w6 ⟨rfl, hb6⟩
  go_wp2_with fail
  go_ret
  exact ⟨by simp, below_two HB5 hb6 (Nat.le_refl _)⟩

end Go.Proofs.YtmdehfomogfmlaaDoor
