/-
  Walks: wherryref.PacketFault, RecordFault.
-/
import Derived.Test.YtnpjcdfkjgenbaaDoorWireFault
namespace Go.Proofs.YtnpjcdfkjgenbaaDoor
open Go.RowKit Go.Lib

set_option maxRecDepth 100000 in
set_option maxHeartbeats 2000000 in
theorem packetFault_any (ep num : Int) (bare : Bool) (ack k h e : Int) (ps : List Part) (a : Option Addr) (c : Nat) (tx : ByteArray) (w : World) (hop : OpAt w a ps) (hn : ps.length ≤ 9223372036854775806) (hs : ∀ p ∈ ps, p.text.size ≤ 70368744177664) (hx : tx.size ≤ 70368744177664) (hT : Tabs w) :
    Calls Tryd.prog 17 #[.agg #[.int .i64 ep, .int .i64 num, .bool bare, .int .i64 ack, .int .i64 k, .int .i64 h, .int .i64 e, .slice a ps.length c, .string tx]] w fun r w' => r = .returned (.int .i64 (packetErr ep num bare ack k h e ps tx)) ∧ Below w.heap.size w w' := by
  have hb0 := (Below.refl w.heap.size w).alloc (Nat.le_refl _) (.cells #[.int .i64 ep, .int .i64 num, .bool bare, .int .i64 ack, .int .i64 k, .int .i64 h, .int .i64 e, .slice a ps.length c, .string tx] 30)
  have cA := fun w => in_any ep 0 1048576 w
  have cB := fun w => in_any num 0 1048576 w
  have cC := fun w => in_any ack 0 1048576 w
  have cF := fun w1 (hb : Below w.heap.size w w1) => frameFault_any k h e ps a c tx w1 (hop.below hb) hn hs hx (hT.below hb)
  cases hA : inN ep with
  | false =>
    have er : packetErr ep num bare ack k h e ps tx = 2 := by unfold packetErr; rw [if_pos hA]
    rw [er]
    rw [show decide (0 ≤ ep ∧ ep ≤ 1048576) = inN ep from rfl, hA] at cA
    clear er cF hA
    go_enter Tryd.func17, Tryd.ntmps17
    go_wp2_with fail
    refine (cA _).mono ?_
    rintro r w' ⟨rfl, hw'⟩
    rw [hw']
    clear hw'
    go_wp2_with fail
    go_ret
    exact ⟨rfl, hb0⟩
  | true =>
    rw [show decide (0 ≤ ep ∧ ep ≤ 1048576) = inN ep from rfl, hA] at cA
    cases hB : inN num with
    | false =>
      have er : packetErr ep num bare ack k h e ps tx = 2 := by unfold packetErr; rw [if_neg (by rw [hA]; decide), if_pos hB]
      rw [er]
      rw [show decide (0 ≤ num ∧ num ≤ 1048576) = inN num from rfl, hB] at cB
      clear er cF hA hB
      go_enter Tryd.func17, Tryd.ntmps17
      go_wp2_with fail
      refine (cA _).mono ?_
      rintro r w' ⟨rfl, hw'⟩
      rw [hw']
      clear hw'
      go_wp2_with fail
      refine (cB _).mono ?_
      rintro r w' ⟨rfl, hw'⟩
      rw [hw']
      clear hw'
      go_wp2_with fail
      go_ret
      exact ⟨rfl, hb0⟩
    | true =>
      rw [show decide (0 ≤ num ∧ num ≤ 1048576) = inN num from rfl, hB] at cB
      cases hC : inN ack with
      | false =>
        have er : packetErr ep num bare ack k h e ps tx = 2 := by unfold packetErr; rw [if_neg (by rw [hA]; decide), if_neg (by rw [hB]; decide), if_pos hC]
        rw [er]
        rw [show decide (0 ≤ ack ∧ ack ≤ 1048576) = inN ack from rfl, hC] at cC
        clear er cF hA hB hC
        go_enter Tryd.func17, Tryd.ntmps17
        go_wp2_with fail
        refine (cA _).mono ?_
        rintro r w' ⟨rfl, hw'⟩
        rw [hw']
        clear hw'
        go_wp2_with fail
        refine (cB _).mono ?_
        rintro r w' ⟨rfl, hw'⟩
        rw [hw']
        clear hw'
        go_wp2_with fail
        refine (cC _).mono ?_
        rintro r w' ⟨rfl, hw'⟩
        rw [hw']
        clear hw'
        go_wp2_with fail
        go_ret
        exact ⟨rfl, hb0⟩
      | true =>
        rw [show decide (0 ≤ ack ∧ ack ≤ 1048576) = inN ack from rfl, hC] at cC
        cases bare with
        | true =>
          have er : packetErr ep num true ack k h e ps tx = if num = 0 ∧ emptyB k h e ps.length tx = true then 0 else 4 := by unfold packetErr; rw [if_neg (by rw [hA]; decide), if_neg (by rw [hB]; decide), if_neg (by rw [hC]; decide), if_pos rfl]
          rw [er]
          clear er hA hB hC cF
          clear hop hn hs hx hT
          generalize ps.length = n at *
          by_cases hnum0 : num = 0
          · -- num 0
            by_cases hk0 : k = 0
            · -- k 0
              by_cases hh0 : h = 0
              · -- h 0
                by_cases he0 : e = 0
                · -- e 0
                  by_cases hn0 : n = 0
                  · -- n 0
                    by_cases htx : tx.size = 0
                    · -- tx 0
                      rw [if_pos ⟨hnum0, by unfold emptyB; simp [hk0, hh0, he0, hn0, htx]⟩]
                      subst hnum0
                      subst hk0
                      subst hh0
                      subst he0
                      subst hn0
                      obtain rfl := empty_of tx htx
                      go_enter Tryd.func17, Tryd.ntmps17
                      go_wp2_with fail
                      refine (cA _).mono ?_
                      rintro r w' ⟨rfl, hw'⟩
                      rw [hw']
                      clear hw'
                      go_wp2_with fail
                      refine (cB _).mono ?_
                      rintro r w' ⟨rfl, hw'⟩
                      rw [hw']
                      clear hw'
                      go_wp2_with fail
                      refine (cC _).mono ?_
                      rintro r w' ⟨rfl, hw'⟩
                      rw [hw']
                      clear hw'
                      go_wp2_with fail
                      go_ret
                      exact ⟨rfl, hb0.alloc hb0.size _⟩
                    · -- tx not 0
                      rw [if_neg (by unfold emptyB; simp [hnum0, hk0, hh0, he0, hn0, htx])]
                      subst hnum0
                      subst hk0
                      subst hh0
                      subst he0
                      subst hn0
                      have gt := isEmpty_of tx htx
                      go_enter Tryd.func17, Tryd.ntmps17
                      go_wp2_with fail
                      refine (cA _).mono ?_
                      rintro r w' ⟨rfl, hw'⟩
                      rw [hw']
                      clear hw'
                      go_wp2_with fail
                      refine (cB _).mono ?_
                      rintro r w' ⟨rfl, hw'⟩
                      rw [hw']
                      clear hw'
                      go_wp2_with fail
                      refine (cC _).mono ?_
                      rintro r w' ⟨rfl, hw'⟩
                      rw [hw']
                      clear hw'
                      go_wp2_with fail
                      go_ret
                      exact ⟨rfl, hb0.alloc hb0.size _⟩
                  · -- n not 0
                    rw [if_neg (by unfold emptyB; simp [hnum0, hk0, hh0, he0, hn0])]
                    subst hnum0
                    subst hk0
                    subst hh0
                    subst he0
                    have gn : ((n : Int) == 0) = false := by simpa using hn0
                    have gn2 : (0 : Int) < (n : Int) := by omega
                    go_enter Tryd.func17, Tryd.ntmps17
                    go_wp2_with fail
                    refine (cA _).mono ?_
                    rintro r w' ⟨rfl, hw'⟩
                    rw [hw']
                    clear hw'
                    go_wp2_with fail
                    refine (cB _).mono ?_
                    rintro r w' ⟨rfl, hw'⟩
                    rw [hw']
                    clear hw'
                    go_wp2_with fail
                    refine (cC _).mono ?_
                    rintro r w' ⟨rfl, hw'⟩
                    rw [hw']
                    clear hw'
                    go_wp2_with fail
                    go_ret
                    exact ⟨rfl, hb0.alloc hb0.size _⟩
                · -- e not 0
                  rw [if_neg (by unfold emptyB; simp [hnum0, hk0, hh0, he0])]
                  subst hnum0
                  subst hk0
                  subst hh0
                  have ge : (e == 0) = false := by simpa using he0
                  have ge2 : (e != 0) = true := by simpa using he0
                  go_enter Tryd.func17, Tryd.ntmps17
                  go_wp2_with fail
                  refine (cA _).mono ?_
                  rintro r w' ⟨rfl, hw'⟩
                  rw [hw']
                  clear hw'
                  go_wp2_with fail
                  refine (cB _).mono ?_
                  rintro r w' ⟨rfl, hw'⟩
                  rw [hw']
                  clear hw'
                  go_wp2_with fail
                  refine (cC _).mono ?_
                  rintro r w' ⟨rfl, hw'⟩
                  rw [hw']
                  clear hw'
                  go_wp2_with fail
                  go_ret
                  exact ⟨rfl, hb0.alloc hb0.size _⟩
              · -- h not 0
                rw [if_neg (by unfold emptyB; simp [hnum0, hk0, hh0])]
                subst hnum0
                subst hk0
                have gh : (h == 0) = false := by simpa using hh0
                have gh2 : (h != 0) = true := by simpa using hh0
                go_enter Tryd.func17, Tryd.ntmps17
                go_wp2_with fail
                refine (cA _).mono ?_
                rintro r w' ⟨rfl, hw'⟩
                rw [hw']
                clear hw'
                go_wp2_with fail
                refine (cB _).mono ?_
                rintro r w' ⟨rfl, hw'⟩
                rw [hw']
                clear hw'
                go_wp2_with fail
                refine (cC _).mono ?_
                rintro r w' ⟨rfl, hw'⟩
                rw [hw']
                clear hw'
                go_wp2_with fail
                go_ret
                exact ⟨rfl, hb0.alloc hb0.size _⟩
            · -- k not 0
              rw [if_neg (by unfold emptyB; simp [hnum0, hk0])]
              subst hnum0
              have gk : (k == 0) = false := by simpa using hk0
              have gk2 : (k != 0) = true := by simpa using hk0
              go_enter Tryd.func17, Tryd.ntmps17
              go_wp2_with fail
              refine (cA _).mono ?_
              rintro r w' ⟨rfl, hw'⟩
              rw [hw']
              clear hw'
              go_wp2_with fail
              refine (cB _).mono ?_
              rintro r w' ⟨rfl, hw'⟩
              rw [hw']
              clear hw'
              go_wp2_with fail
              refine (cC _).mono ?_
              rintro r w' ⟨rfl, hw'⟩
              rw [hw']
              clear hw'
              go_wp2_with fail
              go_ret
              exact ⟨rfl, hb0.alloc hb0.size _⟩
          · -- num not 0
            rw [if_neg (by unfold emptyB; simp [hnum0])]
            have gnum : (num == 0) = false := by simpa using hnum0
            have gnum2 : (num != 0) = true := by simpa using hnum0
            go_enter Tryd.func17, Tryd.ntmps17
            go_wp2_with fail
            refine (cA _).mono ?_
            rintro r w' ⟨rfl, hw'⟩
            rw [hw']
            clear hw'
            go_wp2_with fail
            refine (cB _).mono ?_
            rintro r w' ⟨rfl, hw'⟩
            rw [hw']
            clear hw'
            go_wp2_with fail
            refine (cC _).mono ?_
            rintro r w' ⟨rfl, hw'⟩
            rw [hw']
            clear hw'
            go_wp2_with fail
            go_ret
            exact ⟨rfl, hb0.alloc hb0.size _⟩
        | false =>
          have er : packetErr ep num false ack k h e ps tx = if num = 0 then 4 else if ep = 0 then 4 else frameErr k h e ps tx := by unfold packetErr; rw [if_neg (by rw [hA]; decide), if_neg (by rw [hB]; decide), if_neg (by rw [hC]; decide), if_neg (by decide)]
          rw [er]
          clear er hA hB hC
          by_cases hn0 : num = 0
          · subst hn0
            rw [if_pos rfl]
            clear cF
            go_enter Tryd.func17, Tryd.ntmps17
            go_wp2_with fail
            refine (cA _).mono ?_
            rintro r w' ⟨rfl, hw'⟩
            rw [hw']
            clear hw'
            go_wp2_with fail
            refine (cB _).mono ?_
            rintro r w' ⟨rfl, hw'⟩
            rw [hw']
            clear hw'
            go_wp2_with fail
            refine (cC _).mono ?_
            rintro r w' ⟨rfl, hw'⟩
            rw [hw']
            clear hw'
            go_wp2_with fail
            go_ret
            exact ⟨rfl, hb0.alloc hb0.size _⟩
          · have g : (num == 0) = false := by simpa using hn0
            rw [if_neg hn0]
            clear hn0
            by_cases he0 : ep = 0
            · subst he0
              rw [if_pos rfl]
              clear cF
              go_enter Tryd.func17, Tryd.ntmps17
              go_wp2_with fail
              refine (cA _).mono ?_
              rintro r w' ⟨rfl, hw'⟩
              rw [hw']
              clear hw'
              go_wp2_with fail
              refine (cB _).mono ?_
              rintro r w' ⟨rfl, hw'⟩
              rw [hw']
              clear hw'
              go_wp2_with fail
              refine (cC _).mono ?_
              rintro r w' ⟨rfl, hw'⟩
              rw [hw']
              clear hw'
              go_wp2_with fail
              go_ret
              exact ⟨rfl, hb0.alloc hb0.size _⟩
            · have g2 : (ep == 0) = false := by simpa using he0
              rw [if_neg he0]
              clear he0
              generalize frameErr k h e ps tx = er at *
              go_enter Tryd.func17, Tryd.ntmps17
              go_wp2_with fail
              refine (cA _).mono ?_
              rintro r w' ⟨rfl, hw'⟩
              rw [hw']
              clear hw'
              go_wp2_with fail
              refine (cB _).mono ?_
              rintro r w' ⟨rfl, hw'⟩
              rw [hw']
              clear hw'
              go_wp2_with fail
              refine (cC _).mono ?_
              rintro r w' ⟨rfl, hw'⟩
              rw [hw']
              clear hw'
              go_wp2_with fail
              refine (cF _ (hb0.alloc hb0.size _)).mono ?_
              rintro r w1 ⟨rfl, hb1⟩
              go_wp2_with fail
              go_ret
              exact ⟨rfl, below_two (hb0.alloc hb0.size _) hb1 (Nat.le_refl _)⟩

end Go.Proofs.YtnpjcdfkjgenbaaDoor
