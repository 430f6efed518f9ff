/-
  Walks: wire.checkBare, CheckPacket, CheckRecord.
-/
import Derived.Test.YtbobeecagcmclaaDoorWireCheck
namespace Go.Proofs.YtbobeecagcmclaaDoor
open Go.RowKit Go.Lib

set_option maxRecDepth 100000 in
set_option maxHeartbeats 2000000 in
theorem checkBare_any (ep num ack k h e : Int) (n : Nat) (a : Option Addr) (c : Nat) (tx : ByteArray) (w : World) :
    Calls Tryd.prog 64 #[.agg #[.int .i64 ep, .int .i64 num, .bool true, .int .i64 ack, .int .i64 k, .int .i64 h, .int .i64 e, .slice a n c, .string tx]] w fun r w' => r = .returned (.int .i64 (if num = 0 ∧ emptyB k h e n tx = true then 0 else 4)) ∧ Below w.heap.size w w' := by
  have hb0 := (Below.refl w.heap.size w).alloc (Nat.le_refl _) (.cells #[.int .i64 ep, .int .i64 num, .bool true, .int .i64 ack, .int .i64 k, .int .i64 h, .int .i64 e, .slice a n c, .string tx] 65)
  have c1 := fun w => isEmptyF_any k h e n a c tx w
  by_cases hn0 : num = 0
  · subst hn0
    cases hE : emptyB k h e n tx with
    | true =>
      rw [hE] at c1
      rw [if_pos ⟨rfl, rfl⟩]
      clear hE
      go_enter Tryd.func64, Tryd.ntmps64
      go_wp2_with fail
      refine (c1 _).mono ?_
      rintro r w1 ⟨rfl, hb1⟩
      go_wp2_with fail
      go_ret
      exact ⟨rfl, below_two hb0 hb1 (Nat.le_refl _)⟩
    | false =>
      rw [hE] at c1
      rw [if_neg (by simp)]
      clear hE
      go_enter Tryd.func64, Tryd.ntmps64
      go_wp2_with fail
      refine (c1 _).mono ?_
      rintro r w1 ⟨rfl, hb1⟩
      go_wp2_with fail
      go_ret
      exact ⟨rfl, below_two hb0 hb1 (Nat.le_refl _)⟩
  · rw [if_neg (fun x => hn0 x.1)]
    have g : (num != 0) = true := by simpa using hn0
    clear hn0 c1
    go_enter Tryd.func64, Tryd.ntmps64
    go_wp2_with fail
    go_ret
    exact ⟨rfl, hb0⟩

set_option maxRecDepth 100000 in
set_option maxHeartbeats 2000000 in
theorem checkPacket_any (ep num : Int) (bare : Bool) (ack k h e : Int) (ps : List Part) (a : Option Addr) (c : Nat) (tx : ByteArray) (w : World) (hop : OpAt w a ps) (hn : ps.length ≤ 9223372036854775806) (hs : ∀ p ∈ ps, p.text.size ≤ 70368744177664) (hx : tx.size ≤ 70368744177664) (hT : Tabs w) :
    Calls Tryd.prog 54 #[.agg #[.int .i64 ep, .int .i64 num, .bool bare, .int .i64 ack, .int .i64 k, .int .i64 h, .int .i64 e, .slice a ps.length c, .string tx]] w fun r w' => r = .returned (.int .i64 (packetErr ep num bare ack k h e ps tx)) ∧ Below w.heap.size w w' := by
  have hb0 := (Below.refl w.heap.size w).alloc (Nat.le_refl _) (.cells #[.int .i64 ep, .int .i64 num, .bool bare, .int .i64 ack, .int .i64 k, .int .i64 h, .int .i64 e, .slice a ps.length c, .string tx] 65)
  have cA := fun w => wcounts_same ep w
  have cB := fun w => wcounts_same num w
  have cC := fun w => wcounts_same ack w
  have cF := fun w1 (hb : Below w.heap.size w w1) => checkFrame_any k h e ps a c tx w1 (hop.below hb) hn hs hx (hT.below hb)
  cases hA : inN ep with
  | false =>
    have er : packetErr ep num bare ack k h e ps tx = 2 := by unfold packetErr; rw [if_pos hA]
    rw [er]
    rw [hA] at cA
    clear er cF hA
    go_enter Tryd.func54, Tryd.ntmps54
    go_wp2_with fail
    refine (cA _).mono ?_
    rintro r w' ⟨rfl, hw'⟩
    rw [hw']
    clear hw'
    go_wp2_with fail
    go_ret
    exact ⟨rfl, hb0⟩
  | true =>
    rw [hA] at cA
    cases hB : inN num with
    | false =>
      have er : packetErr ep num bare ack k h e ps tx = 2 := by unfold packetErr; rw [if_neg (by rw [hA]; decide), if_pos hB]
      rw [er]
      rw [hB] at cB
      clear er cF hA hB
      go_enter Tryd.func54, Tryd.ntmps54
      go_wp2_with fail
      refine (cA _).mono ?_
      rintro r w' ⟨rfl, hw'⟩
      rw [hw']
      clear hw'
      go_wp2_with fail
      refine (cB _).mono ?_
      rintro r w' ⟨rfl, hw'⟩
      rw [hw']
      clear hw'
      go_wp2_with fail
      go_ret
      exact ⟨rfl, hb0⟩
    | true =>
      rw [hB] at cB
      cases hC : inN ack with
      | false =>
        have er : packetErr ep num bare ack k h e ps tx = 2 := by unfold packetErr; rw [if_neg (by rw [hA]; decide), if_neg (by rw [hB]; decide), if_pos hC]
        rw [er]
        rw [hC] at cC
        clear er cF hA hB hC
        go_enter Tryd.func54, Tryd.ntmps54
        go_wp2_with fail
        refine (cA _).mono ?_
        rintro r w' ⟨rfl, hw'⟩
        rw [hw']
        clear hw'
        go_wp2_with fail
        refine (cB _).mono ?_
        rintro r w' ⟨rfl, hw'⟩
        rw [hw']
        clear hw'
        go_wp2_with fail
        refine (cC _).mono ?_
        rintro r w' ⟨rfl, hw'⟩
        rw [hw']
        clear hw'
        go_wp2_with fail
        go_ret
        exact ⟨rfl, hb0⟩
      | true =>
        rw [hC] at cC
        cases bare with
        | true =>
          have er : packetErr ep num true ack k h e ps tx = if num = 0 ∧ emptyB k h e ps.length tx = true then 0 else 4 := by unfold packetErr; rw [if_neg (by rw [hA]; decide), if_neg (by rw [hB]; decide), if_neg (by rw [hC]; decide), if_pos rfl]
          rw [er]
          clear er hA hB hC cF
          have cD := fun w => checkBare_any ep num ack k h e ps.length a c tx w
          generalize (if num = 0 ∧ emptyB k h e ps.length tx = true then (0 : Int) else 4) = er at *
          go_enter Tryd.func54, Tryd.ntmps54
          go_wp2_with fail
          refine (cA _).mono ?_
          rintro r w' ⟨rfl, hw'⟩
          rw [hw']
          clear hw'
          go_wp2_with fail
          refine (cB _).mono ?_
          rintro r w' ⟨rfl, hw'⟩
          rw [hw']
          clear hw'
          go_wp2_with fail
          refine (cC _).mono ?_
          rintro r w' ⟨rfl, hw'⟩
          rw [hw']
          clear hw'
          go_wp2_with fail
          refine (cD _).mono ?_
          rintro r w1 ⟨rfl, hb1⟩
          go_wp2_with fail
          go_ret
          exact ⟨rfl, below_two hb0 hb1 (Nat.le_refl _)⟩
        | false =>
          have er : packetErr ep num false ack k h e ps tx = if num = 0 then 4 else if ep = 0 then 4 else frameErr k h e ps tx := by unfold packetErr; rw [if_neg (by rw [hA]; decide), if_neg (by rw [hB]; decide), if_neg (by rw [hC]; decide), if_neg (by decide)]
          rw [er]
          clear er hA hB hC
          by_cases hn0 : num = 0
          · subst hn0
            rw [if_pos rfl]
            clear cF
            go_enter Tryd.func54, Tryd.ntmps54
            go_wp2_with fail
            refine (cA _).mono ?_
            rintro r w' ⟨rfl, hw'⟩
            rw [hw']
            clear hw'
            go_wp2_with fail
            refine (cB _).mono ?_
            rintro r w' ⟨rfl, hw'⟩
            rw [hw']
            clear hw'
            go_wp2_with fail
            refine (cC _).mono ?_
            rintro r w' ⟨rfl, hw'⟩
            rw [hw']
            clear hw'
            go_wp2_with fail
            go_ret
            exact ⟨rfl, hb0⟩
          · have g : (num == 0) = false := by simpa using hn0
            rw [if_neg hn0]
            clear hn0
            by_cases he0 : ep = 0
            · subst he0
              rw [if_pos rfl]
              clear cF
              go_enter Tryd.func54, Tryd.ntmps54
              go_wp2_with fail
              refine (cA _).mono ?_
              rintro r w' ⟨rfl, hw'⟩
              rw [hw']
              clear hw'
              go_wp2_with fail
              refine (cB _).mono ?_
              rintro r w' ⟨rfl, hw'⟩
              rw [hw']
              clear hw'
              go_wp2_with fail
              refine (cC _).mono ?_
              rintro r w' ⟨rfl, hw'⟩
              rw [hw']
              clear hw'
              go_wp2_with fail
              go_ret
              exact ⟨rfl, hb0⟩
            · have g2 : (ep == 0) = false := by simpa using he0
              rw [if_neg he0]
              clear he0
              generalize frameErr k h e ps tx = er at *
              go_enter Tryd.func54, Tryd.ntmps54
              go_wp2_with fail
              refine (cA _).mono ?_
              rintro r w' ⟨rfl, hw'⟩
              rw [hw']
              clear hw'
              go_wp2_with fail
              refine (cB _).mono ?_
              rintro r w' ⟨rfl, hw'⟩
              rw [hw']
              clear hw'
              go_wp2_with fail
              refine (cC _).mono ?_
              rintro r w' ⟨rfl, hw'⟩
              rw [hw']
              clear hw'
              go_wp2_with fail
              refine (cF _ hb0).mono ?_
              rintro r w1 ⟨rfl, hb1⟩
              go_wp2_with fail
              go_ret
              exact ⟨rfl, below_two hb0 hb1 (Nat.le_refl _)⟩

set_option maxRecDepth 100000 in
set_option maxHeartbeats 2000000 in
theorem checkRecord_any (e : Int) (ps : List Part) (a : Option Addr) (c : Nat) (w : World) (hop : OpAt w a ps) (hn : ps.length ≤ 9223372036854775806) (hs : ∀ p ∈ ps, p.text.size ≤ 70368744177664) (hT : Tabs w) :
    Calls Tryd.prog 33 #[.agg #[.int .i64 e, .slice a ps.length c]] w fun r w' => r = .returned (.int .i64 (recordErr e ps)) ∧ Below w.heap.size w w' := by
  have hb0 := (Below.refl w.heap.size w).alloc (Nat.le_refl _) (.cells #[.int .i64 e, .slice a ps.length c] 44)
  have cA := fun w => wcounts_same e w
  have cF := check_any ps a c _ (hop.below hb0) hn (fun p hp => by have := hs p hp; omega) (hT.below hb0)
  cases hA : inN e with
  | false =>
    have er : recordErr e ps = 2 := by unfold recordErr; rw [if_pos hA]
    rw [er]
    rw [hA] at cA
    clear er hA cF
    go_enter Tryd.func33, Tryd.ntmps33
    go_wp2_with fail
    refine (cA _).mono ?_
    rintro r w' ⟨rfl, hw'⟩
    rw [hw']
    clear hw'
    go_wp2_with fail
    go_ret
    exact ⟨rfl, hb0⟩
  | true =>
    have er : recordErr e ps = if e ≠ 0 ∧ ps.length ≠ 0 then 4 else opErr ps := by unfold recordErr; rw [if_neg (by rw [hA]; decide)]
    rw [er]
    rw [hA] at cA
    clear er hA
    generalize opErr ps = er at *
    clear hop hn hs hT
    generalize ps.length = n at *
    by_cases he0 : e = 0
    · subst he0
      rw [if_neg (fun x => x.1 rfl)]
      go_enter Tryd.func33, Tryd.ntmps33
      go_wp2_with fail
      refine (cA _).mono ?_
      rintro r w' ⟨rfl, hw'⟩
      rw [hw']
      clear hw'
      go_wp2_with fail
      refine cF.mono ?_
      rintro r w1 ⟨rfl, hb1⟩
      go_wp2_with fail
      go_ret
      exact ⟨rfl, below_two hb0 hb1 (Nat.le_refl _)⟩
    · have g2 : (e != 0) = true := by simpa using he0
      by_cases hn0 : n = 0
      · subst hn0
        rw [if_neg (fun x => x.2 rfl)]
        clear he0
        go_enter Tryd.func33, Tryd.ntmps33
        go_wp2_with fail
        refine (cA _).mono ?_
        rintro r w' ⟨rfl, hw'⟩
        rw [hw']
        clear hw'
        go_wp2_with fail
        refine cF.mono ?_
        rintro r w1 ⟨rfl, hb1⟩
        go_wp2_with fail
        go_ret
        exact ⟨rfl, below_two hb0 hb1 (Nat.le_refl _)⟩
      · rw [if_pos ⟨he0, hn0⟩]
        have gn2 : (0 : Int) < (n : Int) := by omega
        clear he0 cF
        go_enter Tryd.func33, Tryd.ntmps33
        go_wp2_with fail
        refine (cA _).mono ?_
        rintro r w' ⟨rfl, hw'⟩
        rw [hw']
        clear hw'
        go_wp2_with fail
        go_ret
        exact ⟨rfl, hb0⟩

end Go.Proofs.YtbobeecagcmclaaDoor
