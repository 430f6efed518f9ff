/-
  Walk: wherrylaw.WireReads.
-/
import Derived.Test.YtmdehfomogfmlaaDoorBytesOpen
import Derived.Test.YtmdehfomogfmlaaDoorEyeRec
import Derived.Test.YtmdehfomogfmlaaDoorSameOp
import Derived.Test.YtmdehfomogfmlaaDoorWireEnc
namespace Go.Proofs.YtmdehfomogfmlaaDoor
open Go.RowKit Go.Lib

set_option maxHeartbeats 400000 in
theorem octets_any (l : List Nat) (a : Option Addr) (c : Nat) (w : World) (hs : SrcB w a c l) (hl : l.length ≤ 140737488351232) :
    Calls Tryd.prog 44 #[.slice a l.length c] w fun r w' => ∃ v, r = .returned v ∧ w'.ownsRow w.heap.size 5 1 v l.length (octs l) ∧ Below w.heap.size w w' := by
  go_enter Tryd.func44, Tryd.ntmps44
  go_wp2_with (at_builtin; refine wpList_append_bytes rfl _ _ rfl w.heap.size (Nat.le_refl _) (.slice none 0 0) 0 [] rfl (World.ownsRow_nil _ _ _ _) a c l rfl hs (by omega) ?_; intro v1 w1 hown hgr hmv)
  rw [Nat.zero_add, List.nil_append] at hown
  go_ret
  exact ⟨v1, rfl, hown, (Below.refl _ _).grown hgr (Nat.le_refl _) (fun k e => by cases e)⟩

theorem recOf_len (l : List Nat) : (recOf l).2.length ≤ 10000 := by
  unfold recOf
  by_cases h : recFault l ≠ 0
  · rw [if_pos h]; simp
  · rw [if_neg h]
    unfold recFault at h
    by_cases h5 : 50000 < l.length
    · rw [if_pos h5] at h; exact absurd (by decide) h
    · rw [if_neg h5] at h
      by_cases h6 : endE (rest (recP l)) ≠ 0
      · rw [if_pos h6] at h; exact absurd h6 h
      · rw [if_neg h6] at h
        cases hp : recP l with
        | error e => simp
        | ok x =>
          rw [hp] at h
          simp only [ne_eq, Decidable.not_not] at h
          have := (opErr_zero (recordErr_zero h).2.2).many
          simp only
          omega

set_option maxRecDepth 100000 in
set_option maxHeartbeats 1000000 in
theorem wireReads_walk (l : List Nat) (a : Option Addr) (c : Nat) (w : World) (hb : Bytes w a l) (hs : SrcB w a c l) (h256 : ∀ x ∈ l, x < 256) (hc : l.length ≤ c) (hl : l.length ≤ 140737488351232) (hT : Tabs w) :
    Calls Tryd.prog 13 #[.slice a l.length c] w fun r w' => r = .returned (.bool true) ∧ Below w.heap.size w w' := by
  have cO := octets_any l a c w hs hl
  have cD : ∀ w1 v, Below w.heap.size w w1 → w1.ownsRow w.heap.size 5 1 v l.length (octs l) → Calls Tryd.prog 47 #[v] w1 fun r w' => ∃ (v : Value), r = .returned (.tuple #[.agg #[.int .i64 ((recOf l).1 : Int), v], .int .i64 (recFault l)]) ∧ w'.ownsRow w1.heap.size 68 3 v (recOf l).2.length (partCells (recOf l).2) ∧ Below w1.heap.size w1 w' := by
    intro w1 v hb1 hown
    obtain ⟨a1, c1, rfl, _, h1, h2⟩ := srcB_own hown
    exact decodeRecord_any l a1 c1 w1 h1 h256 h2 (hT.below hb1)
  have cR : ∀ w1, Below w.heap.size w w1 → Calls Tryd.prog 48 #[.slice a l.length c] w1 fun r w' => ∃ (v : Value), r = .returned (.tuple #[.agg #[.int .i64 ((recOf l).1 : Int), v], .int .i64 (recFault l)]) ∧ w'.ownsRow w1.heap.size 68 3 v (recOf l).2.length (partCells (recOf l).2) ∧ Below w1.heap.size w1 w' :=
    fun w1 hb1 => recordOf_any l a c w1 (hb.below hb1) h256 hc (hT.below hb1)
  have hlen := recOf_len l
  generalize recOf l = O at *
  obtain ⟨n, ps⟩ := O
  generalize recFault l = F at *
  simp only at hlen cD cR
  clear hb hs hc hT
  go_enter Tryd.func13, Tryd.ntmps13
  go_wp2_with fail
  refine cO.mono ?_
  rintro r w1 ⟨v, rfl, hown, hb1⟩
  have cD1 := cD w1 v hb1 hown
  clear cO cD hown
  go_wp2_with fail
  refine cD1.mono ?_
  rintro r w2 ⟨v2, rfl, hown2, hb2⟩
  obtain ⟨va2, vc2, rfl⟩ := own_form hown2
  have HB2 := below_two hb1 hb2 (Nat.le_refl _)
  clear cD1 hb1 hb2
  have hpb := heap_alloc_new w2 (.cells #[.int .i64 (n : Int), .slice va2 ps.length vc2] 85)
  have hba := (Below.refl w2.heap.size w2).alloc (Nat.le_refl _) (.cells #[.int .i64 (n : Int), .slice va2 ps.length vc2] 85)
  have HB3 := below_two HB2 hba (Nat.le_refl _)
  have hown3 := own_below hown2 hba
  have cR3 := cR _ HB3
  clear cR hown2 hba
  go_wp2_with fail
  refine cR3.mono ?_
  generalize (w2.alloc (.cells #[.int .i64 (n : Int), .slice va2 ps.length vc2] 85)) = w3 at *
  rintro r w4 ⟨v4, rfl, hown4, hb4⟩
  obtain ⟨va4, vc4, rfl⟩ := own_form hown4
  have hp4 := row_old ((hb4.block _ (Array.getElem?_eq_some_iff.1 hpb).1).trans hpb) (.cells #[.int .i64 (n : Int), .slice va4 ps.length vc4] 85)
  have hq4 := heap_alloc_new w4 (.cells #[.int .i64 (n : Int), .slice va4 ps.length vc4] 85)
  have hba := (Below.refl w4.heap.size w4).alloc (Nat.le_refl _) (.cells #[.int .i64 (n : Int), .slice va4 ps.length vc4] 85)
  have HB5 := below_two (below_two HB3 hb4 (Nat.le_refl _)) hba (Nat.le_refl _)
  have ho3 := own_below (own_below hown3 hb4) hba
  have ho4 := own_below hown4 hba
  clear cR3 hpb hown3 hown4 hb4 hba HB2 HB3
  obtain ⟨⟨p0, p1⟩, pl, pf0, pf1⟩ := rec_cells hp4
  obtain ⟨⟨q0, q1⟩, ql, qf0, qf1⟩ := rec_cells hq4
  obtain ⟨_, _, e3, hop3⟩ := own_opAt ho3
  obtain ⟨_, _, e4, hop4⟩ := own_opAt ho4
  simp only [Value.slice.injEq, true_and] at e3 e4
  obtain ⟨rfl, rfl⟩ := e3
  obtain ⟨rfl, rfl⟩ := e4
  have cS : ∀ wx, Below (w4.alloc (.cells #[.int .i64 (n : Int), .slice va4 ps.length vc4] 85)).heap.size (w4.alloc (.cells #[.int .i64 (n : Int), .slice va4 ps.length vc4] 85)) wx → Calls Tryd.prog 33 #[.slice va2 ps.length vc2, .slice va4 ps.length vc4] wx fun e w' => e = .returned (.bool true) ∧ Below wx.heap.size wx w' :=
    fun wx hbx => sameOp_true ps va2 va4 vc2 vc4 wx (hop3.below hbx) (hop4.below hbx) (by omega)
  clear hp4 hq4 ho3 ho4 hop3 hop4
  go_wp2_with fail
  refine (cS _ (Below.refl _ _)).mono ?_
  rintro r w6 ⟨rfl, hb6⟩
  go_wp2_with fail
  go_ret
  exact ⟨by simp, below_two HB5 hb6 (Nat.le_refl _)⟩

end Go.Proofs.YtmdehfomogfmlaaDoor
