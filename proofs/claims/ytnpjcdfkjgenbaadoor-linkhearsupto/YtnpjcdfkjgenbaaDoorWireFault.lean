/-
  Walks: wherryref.FrameFault.
-/
import Derived.Test.YtnpjcdfkjgenbaaDoorWireCheck
import Derived.Test.YtnpjcdfkjgenbaaDoorOpFault
import Derived.Test.YtnpjcdfkjgenbaaDoorTextFault
namespace Go.Proofs.YtnpjcdfkjgenbaaDoor
open Go.RowKit Go.Lib

set_option maxRecDepth 100000 in
set_option maxHeartbeats 2000000 in
theorem frameFault_any (k h e : Int) (ps : List Part) (a : Option Addr) (c : Nat) (tx : ByteArray) (w : World) (hop : OpAt w a ps) (hn : ps.length ≤ 9223372036854775806) (hs : ∀ p ∈ ps, p.text.size ≤ 70368744177664) (hx : tx.size ≤ 70368744177664) (hT : Tabs w) :
    Calls Tryd.prog 31 #[.agg #[.int .i64 k, .int .i64 h, .int .i64 e, .slice a ps.length c, .string tx]] w fun r w' => r = .returned (.int .i64 (frameErr k h e ps tx)) ∧ Below w.heap.size w w' := by
  have hb0 := (Below.refl w.heap.size w).alloc (Nat.le_refl _) (.cells #[.int .i64 k, .int .i64 h, .int .i64 e, .slice a ps.length c, .string tx] 28)
  have hblk := heap_alloc_new w (.cells #[.int .i64 k, .int .i64 h, .int .i64 e, .slice a ps.length c, .string tx] 28)
  have hsz : w.heap.size < (w.alloc (.cells #[.int .i64 k, .int .i64 h, .int .i64 e, .slice a ps.length c, .string tx] 28)).heap.size := by simp
  have cH := fun w => in_any h 0 1048576 w
  have cE := fun w => in_any e 0 1048576 w
  have cK := fun w => in_any k 1 3 w
  have c1 := opFault_any ps a c _ (hop.below hb0) hn hs (hT.below hb0)
  have c2 := fun w1 (hb : Below w.heap.size w w1) => textFault_any tx w1 hx (hT.below hb)
  by_cases hk : k = 1 ∨ k = 2 ∨ k = 3
  rotate_left
  · have er : frameErr k h e ps tx = 3 := by unfold frameErr; rw [if_pos hk]
    rw [er]
    clear er
    rw [show decide (1 ≤ k ∧ k ≤ 3) = false from decide_eq_false (by omega)] at cK
    go_enter Tryd.func31, Tryd.ntmps31
    go_wp2_with fail
    refine (cK _).mono ?_
    rintro r w' ⟨rfl, hw'⟩
    rw [hw']
    clear hw'
    go_wp2_with fail
    go_ret
    exact ⟨rfl, hb0⟩
  have nk : ¬ ¬ (k = 1 ∨ k = 2 ∨ k = 3) := fun x => x hk
  rw [show decide (1 ≤ k ∧ k ≤ 3) = true from decide_eq_true (by omega)] at cK
  cases hh : inN h with
  | false =>
    have er : frameErr k h e ps tx = 2 := by unfold frameErr; rw [if_neg nk, if_pos hh]
    rw [er]
    rw [show decide (0 ≤ h ∧ h ≤ 1048576) = inN h from rfl, hh] at cH
    clear er hh nk
    rcases hk with rfl | rfl | rfl <;>
    · go_enter Tryd.func31, Tryd.ntmps31
      go_wp2_with fail
      refine (cK _).mono ?_
      rintro r w' ⟨rfl, hw'⟩
      rw [hw']
      clear hw'
      go_wp2_with fail
      refine (cH _).mono ?_
      rintro r w' ⟨rfl, hw'⟩
      rw [hw']
      clear hw'
      go_wp2_with fail
      go_ret
      exact ⟨rfl, hb0⟩
  | true =>
    rw [show decide (0 ≤ h ∧ h ≤ 1048576) = inN h from rfl, hh] at cH
    cases he : inN e with
    | false =>
      have er : frameErr k h e ps tx = 2 := by unfold frameErr; rw [if_neg nk, if_neg (by rw [hh]; decide), if_pos he]
      rw [er]
      rw [show decide (0 ≤ e ∧ e ≤ 1048576) = inN e from rfl, he] at cE
      clear er hh he nk
      rcases hk with rfl | rfl | rfl <;>
      · go_enter Tryd.func31, Tryd.ntmps31
        go_wp2_with fail
        refine (cK _).mono ?_
        rintro r w' ⟨rfl, hw'⟩
        rw [hw']
        clear hw'
        go_wp2_with fail
        refine (cH _).mono ?_
        rintro r w' ⟨rfl, hw'⟩
        rw [hw']
        clear hw'
        go_wp2_with fail
        refine (cE _).mono ?_
        rintro r w' ⟨rfl, hw'⟩
        rw [hw']
        clear hw'
        go_wp2_with fail
        go_ret
        exact ⟨rfl, hb0⟩
    | true =>
      rw [show decide (0 ≤ e ∧ e ≤ 1048576) = inN e from rfl, he] at cE
      by_cases ho : opErr ps = 0
      rotate_left
      · have er : frameErr k h e ps tx = opErr ps := by unfold frameErr; rw [if_neg nk, if_neg (by rw [hh]; decide), if_neg (by rw [he]; decide), if_pos ho]
        rw [er]
        clear er hh he nk c2
        generalize opErr ps = er at *
        have g1 : (er != 0) = true := by simpa using ho
        have g2 : (er == 0) = false := by simpa using ho
        clear ho
        rcases hk with rfl | rfl | rfl <;>
        · go_enter Tryd.func31, Tryd.ntmps31
          go_wp2_with fail
          refine (cK _).mono ?_
          rintro r w' ⟨rfl, hw'⟩
          rw [hw']
          clear hw'
          go_wp2_with fail
          refine (cH _).mono ?_
          rintro r w' ⟨rfl, hw'⟩
          rw [hw']
          clear hw'
          go_wp2_with fail
          refine (cE _).mono ?_
          rintro r w' ⟨rfl, hw'⟩
          rw [hw']
          clear hw'
          go_wp2_with fail
          refine c1.mono ?_
          rintro r w1 ⟨rfl, hb1⟩
          have HB1 := below_two hb0 hb1 (Nat.le_refl _)
          have hk1 := (hb1.block _ hsz).trans hblk
          have fc := frame_cells hk1
          obtain ⟨q0, q1, q2, q3, q4⟩ := fc
          go_wp2_with fail
          go_ret
          exact ⟨rfl, HB1⟩
      rw [ho] at c1
      by_cases ht : textErr tx = 0
      rotate_left
      · have er : frameErr k h e ps tx = textErr tx := by unfold frameErr; rw [if_neg nk, if_neg (by rw [hh]; decide), if_neg (by rw [he]; decide), if_neg (by rw [ho]; decide), if_pos ht]
        rw [er]
        clear er hh he nk ho
        generalize textErr tx = er at *
        have g1 : (er != 0) = true := by simpa using ht
        clear ht
        rcases hk with rfl | rfl | rfl <;>
        · go_enter Tryd.func31, Tryd.ntmps31
          go_wp2_with fail
          refine (cK _).mono ?_
          rintro r w' ⟨rfl, hw'⟩
          rw [hw']
          clear hw'
          go_wp2_with fail
          refine (cH _).mono ?_
          rintro r w' ⟨rfl, hw'⟩
          rw [hw']
          clear hw'
          go_wp2_with fail
          refine (cE _).mono ?_
          rintro r w' ⟨rfl, hw'⟩
          rw [hw']
          clear hw'
          go_wp2_with fail
          refine c1.mono ?_
          rintro r w1 ⟨rfl, hb1⟩
          have HB1 := below_two hb0 hb1 (Nat.le_refl _)
          have hk1 := (hb1.block _ hsz).trans hblk
          have fc := frame_cells hk1
          obtain ⟨q0, q1, q2, q3, q4⟩ := fc
          have c2' := c2 w1 HB1
          go_wp2_with fail
          refine c2'.mono ?_
          rintro r w2 ⟨rfl, hb2⟩
          have HB2 := below_two HB1 hb2 (Nat.le_refl _)
          have hk2 := (hb2.block _ (Nat.lt_of_lt_of_le hsz hb1.size)).trans hk1
          clear q0 q1 q2 q3 q4
          have fc := frame_cells hk2
          obtain ⟨q0, q1, q2, q3, q4⟩ := fc
          go_wp2_with fail
          go_ret
          exact ⟨rfl, HB2⟩
      rw [ht] at c2
      have er : frameErr k h e ps tx = if ownB k h e ps.length tx = true then 0 else 4 := by unfold frameErr; rw [if_neg nk, if_neg (by rw [hh]; decide), if_neg (by rw [he]; decide), if_neg (by rw [ho]; decide), if_neg (by rw [ht]; decide)]
      rw [er]
      clear er hh he nk ho ht
      clear hop hn hs hx hT
      generalize ps.length = n at *
      rcases hk with rfl | rfl | rfl
      · -- kind 1
        by_cases he0 : e = 0
        · -- e 0
          by_cases htx : tx.size = 0
          · -- tx 0
            have er : ownB 1 h e n tx = true := by unfold ownB; simp [he0, htx]
            rw [er]
            rw [if_pos rfl]
            clear er
            subst he0
            obtain rfl := empty_of tx htx
            go_enter Tryd.func31, Tryd.ntmps31
            go_wp2_with fail
            refine (cK _).mono ?_
            rintro r w' ⟨rfl, hw'⟩
            rw [hw']
            clear hw'
            go_wp2_with fail
            refine (cH _).mono ?_
            rintro r w' ⟨rfl, hw'⟩
            rw [hw']
            clear hw'
            go_wp2_with fail
            refine (cE _).mono ?_
            rintro r w' ⟨rfl, hw'⟩
            rw [hw']
            clear hw'
            go_wp2_with fail
            refine c1.mono ?_
            rintro r w1 ⟨rfl, hb1⟩
            have HB1 := below_two hb0 hb1 (Nat.le_refl _)
            have hk1 := (hb1.block _ hsz).trans hblk
            have fc := frame_cells hk1
            obtain ⟨q0, q1, q2, q3, q4⟩ := fc
            have c2' := c2 w1 HB1
            go_wp2_with fail
            refine c2'.mono ?_
            rintro r w2 ⟨rfl, hb2⟩
            have HB2 := below_two HB1 hb2 (Nat.le_refl _)
            have hk2 := (hb2.block _ (Nat.lt_of_lt_of_le hsz hb1.size)).trans hk1
            clear q0 q1 q2 q3 q4
            have fc := frame_cells hk2
            obtain ⟨q0, q1, q2, q3, q4⟩ := fc
            go_wp2_with fail
            go_ret
            exact ⟨rfl, HB2⟩
          · -- tx not 0
            have er : ownB 1 h e n tx = false := by unfold ownB; simp [he0, htx]
            rw [er]
            rw [if_neg (by decide)]
            clear er
            subst he0
            have gt := isEmpty_of tx htx
            go_enter Tryd.func31, Tryd.ntmps31
            go_wp2_with fail
            refine (cK _).mono ?_
            rintro r w' ⟨rfl, hw'⟩
            rw [hw']
            clear hw'
            go_wp2_with fail
            refine (cH _).mono ?_
            rintro r w' ⟨rfl, hw'⟩
            rw [hw']
            clear hw'
            go_wp2_with fail
            refine (cE _).mono ?_
            rintro r w' ⟨rfl, hw'⟩
            rw [hw']
            clear hw'
            go_wp2_with fail
            refine c1.mono ?_
            rintro r w1 ⟨rfl, hb1⟩
            have HB1 := below_two hb0 hb1 (Nat.le_refl _)
            have hk1 := (hb1.block _ hsz).trans hblk
            have fc := frame_cells hk1
            obtain ⟨q0, q1, q2, q3, q4⟩ := fc
            have c2' := c2 w1 HB1
            go_wp2_with fail
            refine c2'.mono ?_
            rintro r w2 ⟨rfl, hb2⟩
            have HB2 := below_two HB1 hb2 (Nat.le_refl _)
            have hk2 := (hb2.block _ (Nat.lt_of_lt_of_le hsz hb1.size)).trans hk1
            clear q0 q1 q2 q3 q4
            have fc := frame_cells hk2
            obtain ⟨q0, q1, q2, q3, q4⟩ := fc
            go_wp2_with fail
            go_ret
            exact ⟨rfl, HB2⟩
        · -- e not 0
          have er : ownB 1 h e n tx = false := by unfold ownB; simp [he0]
          rw [er]
          rw [if_neg (by decide)]
          clear er
          have ge : (e == 0) = false := by simpa using he0
          have ge2 : (e != 0) = true := by simpa using he0
          go_enter Tryd.func31, Tryd.ntmps31
          go_wp2_with fail
          refine (cK _).mono ?_
          rintro r w' ⟨rfl, hw'⟩
          rw [hw']
          clear hw'
          go_wp2_with fail
          refine (cH _).mono ?_
          rintro r w' ⟨rfl, hw'⟩
          rw [hw']
          clear hw'
          go_wp2_with fail
          refine (cE _).mono ?_
          rintro r w' ⟨rfl, hw'⟩
          rw [hw']
          clear hw'
          go_wp2_with fail
          refine c1.mono ?_
          rintro r w1 ⟨rfl, hb1⟩
          have HB1 := below_two hb0 hb1 (Nat.le_refl _)
          have hk1 := (hb1.block _ hsz).trans hblk
          have fc := frame_cells hk1
          obtain ⟨q0, q1, q2, q3, q4⟩ := fc
          have c2' := c2 w1 HB1
          go_wp2_with fail
          refine c2'.mono ?_
          rintro r w2 ⟨rfl, hb2⟩
          have HB2 := below_two HB1 hb2 (Nat.le_refl _)
          have hk2 := (hb2.block _ (Nat.lt_of_lt_of_le hsz hb1.size)).trans hk1
          clear q0 q1 q2 q3 q4
          have fc := frame_cells hk2
          obtain ⟨q0, q1, q2, q3, q4⟩ := fc
          go_wp2_with fail
          go_ret
          exact ⟨rfl, HB2⟩
      · -- kind 2
        by_cases he0 : e = 0
        · -- e 0
          have er : ownB 2 h e n tx = false := by unfold ownB; simp [he0]
          rw [er]
          rw [if_neg (by decide)]
          clear er
          subst he0
          go_enter Tryd.func31, Tryd.ntmps31
          go_wp2_with fail
          refine (cK _).mono ?_
          rintro r w' ⟨rfl, hw'⟩
          rw [hw']
          clear hw'
          go_wp2_with fail
          refine (cH _).mono ?_
          rintro r w' ⟨rfl, hw'⟩
          rw [hw']
          clear hw'
          go_wp2_with fail
          refine (cE _).mono ?_
          rintro r w' ⟨rfl, hw'⟩
          rw [hw']
          clear hw'
          go_wp2_with fail
          refine c1.mono ?_
          rintro r w1 ⟨rfl, hb1⟩
          have HB1 := below_two hb0 hb1 (Nat.le_refl _)
          have hk1 := (hb1.block _ hsz).trans hblk
          have fc := frame_cells hk1
          obtain ⟨q0, q1, q2, q3, q4⟩ := fc
          have c2' := c2 w1 HB1
          go_wp2_with fail
          refine c2'.mono ?_
          rintro r w2 ⟨rfl, hb2⟩
          have HB2 := below_two HB1 hb2 (Nat.le_refl _)
          have hk2 := (hb2.block _ (Nat.lt_of_lt_of_le hsz hb1.size)).trans hk1
          clear q0 q1 q2 q3 q4
          have fc := frame_cells hk2
          obtain ⟨q0, q1, q2, q3, q4⟩ := fc
          go_wp2_with fail
          go_ret
          exact ⟨rfl, HB2⟩
        · -- e not 0
          by_cases hn0 : n = 0
          · -- n 0
            by_cases htx : tx.size = 0
            · -- tx 0
              have er : ownB 2 h e n tx = true := by unfold ownB; simp [he0, hn0, htx]
              rw [er]
              rw [if_pos rfl]
              clear er
              have ge : (e == 0) = false := by simpa using he0
              have ge2 : (e != 0) = true := by simpa using he0
              subst hn0
              obtain rfl := empty_of tx htx
              go_enter Tryd.func31, Tryd.ntmps31
              go_wp2_with fail
              refine (cK _).mono ?_
              rintro r w' ⟨rfl, hw'⟩
              rw [hw']
              clear hw'
              go_wp2_with fail
              refine (cH _).mono ?_
              rintro r w' ⟨rfl, hw'⟩
              rw [hw']
              clear hw'
              go_wp2_with fail
              refine (cE _).mono ?_
              rintro r w' ⟨rfl, hw'⟩
              rw [hw']
              clear hw'
              go_wp2_with fail
              refine c1.mono ?_
              rintro r w1 ⟨rfl, hb1⟩
              have HB1 := below_two hb0 hb1 (Nat.le_refl _)
              have hk1 := (hb1.block _ hsz).trans hblk
              have fc := frame_cells hk1
              obtain ⟨q0, q1, q2, q3, q4⟩ := fc
              have c2' := c2 w1 HB1
              go_wp2_with fail
              refine c2'.mono ?_
              rintro r w2 ⟨rfl, hb2⟩
              have HB2 := below_two HB1 hb2 (Nat.le_refl _)
              have hk2 := (hb2.block _ (Nat.lt_of_lt_of_le hsz hb1.size)).trans hk1
              clear q0 q1 q2 q3 q4
              have fc := frame_cells hk2
              obtain ⟨q0, q1, q2, q3, q4⟩ := fc
              go_wp2_with fail
              go_ret
              exact ⟨rfl, HB2⟩
            · -- tx not 0
              have er : ownB 2 h e n tx = false := by unfold ownB; simp [he0, hn0, htx]
              rw [er]
              rw [if_neg (by decide)]
              clear er
              have ge : (e == 0) = false := by simpa using he0
              have ge2 : (e != 0) = true := by simpa using he0
              subst hn0
              have gt := isEmpty_of tx htx
              go_enter Tryd.func31, Tryd.ntmps31
              go_wp2_with fail
              refine (cK _).mono ?_
              rintro r w' ⟨rfl, hw'⟩
              rw [hw']
              clear hw'
              go_wp2_with fail
              refine (cH _).mono ?_
              rintro r w' ⟨rfl, hw'⟩
              rw [hw']
              clear hw'
              go_wp2_with fail
              refine (cE _).mono ?_
              rintro r w' ⟨rfl, hw'⟩
              rw [hw']
              clear hw'
              go_wp2_with fail
              refine c1.mono ?_
              rintro r w1 ⟨rfl, hb1⟩
              have HB1 := below_two hb0 hb1 (Nat.le_refl _)
              have hk1 := (hb1.block _ hsz).trans hblk
              have fc := frame_cells hk1
              obtain ⟨q0, q1, q2, q3, q4⟩ := fc
              have c2' := c2 w1 HB1
              go_wp2_with fail
              refine c2'.mono ?_
              rintro r w2 ⟨rfl, hb2⟩
              have HB2 := below_two HB1 hb2 (Nat.le_refl _)
              have hk2 := (hb2.block _ (Nat.lt_of_lt_of_le hsz hb1.size)).trans hk1
              clear q0 q1 q2 q3 q4
              have fc := frame_cells hk2
              obtain ⟨q0, q1, q2, q3, q4⟩ := fc
              go_wp2_with fail
              go_ret
              exact ⟨rfl, HB2⟩
          · -- n not 0
            have er : ownB 2 h e n tx = false := by unfold ownB; simp [he0, hn0]
            rw [er]
            rw [if_neg (by decide)]
            clear er
            have ge : (e == 0) = false := by simpa using he0
            have ge2 : (e != 0) = true := by simpa using he0
            have gn : ((n : Int) == 0) = false := by simpa using hn0
            have gn2 : (0 : Int) < (n : Int) := by omega
            go_enter Tryd.func31, Tryd.ntmps31
            go_wp2_with fail
            refine (cK _).mono ?_
            rintro r w' ⟨rfl, hw'⟩
            rw [hw']
            clear hw'
            go_wp2_with fail
            refine (cH _).mono ?_
            rintro r w' ⟨rfl, hw'⟩
            rw [hw']
            clear hw'
            go_wp2_with fail
            refine (cE _).mono ?_
            rintro r w' ⟨rfl, hw'⟩
            rw [hw']
            clear hw'
            go_wp2_with fail
            refine c1.mono ?_
            rintro r w1 ⟨rfl, hb1⟩
            have HB1 := below_two hb0 hb1 (Nat.le_refl _)
            have hk1 := (hb1.block _ hsz).trans hblk
            have fc := frame_cells hk1
            obtain ⟨q0, q1, q2, q3, q4⟩ := fc
            have c2' := c2 w1 HB1
            go_wp2_with fail
            refine c2'.mono ?_
            rintro r w2 ⟨rfl, hb2⟩
            have HB2 := below_two HB1 hb2 (Nat.le_refl _)
            have hk2 := (hb2.block _ (Nat.lt_of_lt_of_le hsz hb1.size)).trans hk1
            clear q0 q1 q2 q3 q4
            have fc := frame_cells hk2
            obtain ⟨q0, q1, q2, q3, q4⟩ := fc
            go_wp2_with fail
            go_ret
            exact ⟨rfl, HB2⟩
      · -- kind 3
        by_cases he0 : e = 0
        · -- e 0
          have er : ownB 3 h e n tx = false := by unfold ownB; simp [he0]
          rw [er]
          rw [if_neg (by decide)]
          clear er
          subst he0
          go_enter Tryd.func31, Tryd.ntmps31
          go_wp2_with fail
          refine (cK _).mono ?_
          rintro r w' ⟨rfl, hw'⟩
          rw [hw']
          clear hw'
          go_wp2_with fail
          refine (cH _).mono ?_
          rintro r w' ⟨rfl, hw'⟩
          rw [hw']
          clear hw'
          go_wp2_with fail
          refine (cE _).mono ?_
          rintro r w' ⟨rfl, hw'⟩
          rw [hw']
          clear hw'
          go_wp2_with fail
          refine c1.mono ?_
          rintro r w1 ⟨rfl, hb1⟩
          have HB1 := below_two hb0 hb1 (Nat.le_refl _)
          have hk1 := (hb1.block _ hsz).trans hblk
          have fc := frame_cells hk1
          obtain ⟨q0, q1, q2, q3, q4⟩ := fc
          have c2' := c2 w1 HB1
          go_wp2_with fail
          refine c2'.mono ?_
          rintro r w2 ⟨rfl, hb2⟩
          have HB2 := below_two HB1 hb2 (Nat.le_refl _)
          have hk2 := (hb2.block _ (Nat.lt_of_lt_of_le hsz hb1.size)).trans hk1
          clear q0 q1 q2 q3 q4
          have fc := frame_cells hk2
          obtain ⟨q0, q1, q2, q3, q4⟩ := fc
          go_wp2_with fail
          go_ret
          exact ⟨rfl, HB2⟩
        · -- e not 0
          by_cases hn0 : n = 0
          · -- n 0
            by_cases hh0 : h = 0
            · -- h 0
              have er : ownB 3 h e n tx = true := by unfold ownB; simp [he0, hn0, hh0]
              rw [er]
              rw [if_pos rfl]
              clear er
              have ge : (e == 0) = false := by simpa using he0
              have ge2 : (e != 0) = true := by simpa using he0
              subst hn0
              subst hh0
              go_enter Tryd.func31, Tryd.ntmps31
              go_wp2_with fail
              refine (cK _).mono ?_
              rintro r w' ⟨rfl, hw'⟩
              rw [hw']
              clear hw'
              go_wp2_with fail
              refine (cH _).mono ?_
              rintro r w' ⟨rfl, hw'⟩
              rw [hw']
              clear hw'
              go_wp2_with fail
              refine (cE _).mono ?_
              rintro r w' ⟨rfl, hw'⟩
              rw [hw']
              clear hw'
              go_wp2_with fail
              refine c1.mono ?_
              rintro r w1 ⟨rfl, hb1⟩
              have HB1 := below_two hb0 hb1 (Nat.le_refl _)
              have hk1 := (hb1.block _ hsz).trans hblk
              have fc := frame_cells hk1
              obtain ⟨q0, q1, q2, q3, q4⟩ := fc
              have c2' := c2 w1 HB1
              go_wp2_with fail
              refine c2'.mono ?_
              rintro r w2 ⟨rfl, hb2⟩
              have HB2 := below_two HB1 hb2 (Nat.le_refl _)
              have hk2 := (hb2.block _ (Nat.lt_of_lt_of_le hsz hb1.size)).trans hk1
              clear q0 q1 q2 q3 q4
              have fc := frame_cells hk2
              obtain ⟨q0, q1, q2, q3, q4⟩ := fc
              go_wp2_with fail
              go_ret
              exact ⟨rfl, HB2⟩
            · -- h not 0
              have er : ownB 3 h e n tx = false := by unfold ownB; simp [he0, hn0, hh0]
              rw [er]
              rw [if_neg (by decide)]
              clear er
              have ge : (e == 0) = false := by simpa using he0
              have ge2 : (e != 0) = true := by simpa using he0
              subst hn0
              have gh : (h == 0) = false := by simpa using hh0
              have gh2 : (h != 0) = true := by simpa using hh0
              go_enter Tryd.func31, Tryd.ntmps31
              go_wp2_with fail
              refine (cK _).mono ?_
              rintro r w' ⟨rfl, hw'⟩
              rw [hw']
              clear hw'
              go_wp2_with fail
              refine (cH _).mono ?_
              rintro r w' ⟨rfl, hw'⟩
              rw [hw']
              clear hw'
              go_wp2_with fail
              refine (cE _).mono ?_
              rintro r w' ⟨rfl, hw'⟩
              rw [hw']
              clear hw'
              go_wp2_with fail
              refine c1.mono ?_
              rintro r w1 ⟨rfl, hb1⟩
              have HB1 := below_two hb0 hb1 (Nat.le_refl _)
              have hk1 := (hb1.block _ hsz).trans hblk
              have fc := frame_cells hk1
              obtain ⟨q0, q1, q2, q3, q4⟩ := fc
              have c2' := c2 w1 HB1
              go_wp2_with fail
              refine c2'.mono ?_
              rintro r w2 ⟨rfl, hb2⟩
              have HB2 := below_two HB1 hb2 (Nat.le_refl _)
              have hk2 := (hb2.block _ (Nat.lt_of_lt_of_le hsz hb1.size)).trans hk1
              clear q0 q1 q2 q3 q4
              have fc := frame_cells hk2
              obtain ⟨q0, q1, q2, q3, q4⟩ := fc
              go_wp2_with fail
              go_ret
              exact ⟨rfl, HB2⟩
          · -- n not 0
            have er : ownB 3 h e n tx = false := by unfold ownB; simp [he0, hn0]
            rw [er]
            rw [if_neg (by decide)]
            clear er
            have ge : (e == 0) = false := by simpa using he0
            have ge2 : (e != 0) = true := by simpa using he0
            have gn : ((n : Int) == 0) = false := by simpa using hn0
            have gn2 : (0 : Int) < (n : Int) := by omega
            go_enter Tryd.func31, Tryd.ntmps31
            go_wp2_with fail
            refine (cK _).mono ?_
            rintro r w' ⟨rfl, hw'⟩
            rw [hw']
            clear hw'
            go_wp2_with fail
            refine (cH _).mono ?_
            rintro r w' ⟨rfl, hw'⟩
            rw [hw']
            clear hw'
            go_wp2_with fail
            refine (cE _).mono ?_
            rintro r w' ⟨rfl, hw'⟩
            rw [hw']
            clear hw'
            go_wp2_with fail
            refine c1.mono ?_
            rintro r w1 ⟨rfl, hb1⟩
            have HB1 := below_two hb0 hb1 (Nat.le_refl _)
            have hk1 := (hb1.block _ hsz).trans hblk
            have fc := frame_cells hk1
            obtain ⟨q0, q1, q2, q3, q4⟩ := fc
            have c2' := c2 w1 HB1
            go_wp2_with fail
            refine c2'.mono ?_
            rintro r w2 ⟨rfl, hb2⟩
            have HB2 := below_two HB1 hb2 (Nat.le_refl _)
            have hk2 := (hb2.block _ (Nat.lt_of_lt_of_le hsz hb1.size)).trans hk1
            clear q0 q1 q2 q3 q4
            have fc := frame_cells hk2
            obtain ⟨q0, q1, q2, q3, q4⟩ := fc
            go_wp2_with fail
            go_ret
            exact ⟨rfl, HB2⟩

end Go.Proofs.YtnpjcdfkjgenbaaDoor
