/-
  Walks: the checks of package wire.
-/
import Derived.Test.YtbobeecagcmclaaDoorCheck
import Derived.Deep.QuietTactic
import Derived.BigQuiet
namespace Go.Proofs.YtbobeecagcmclaaDoor
open Go.RowKit Go.Lib

/-- a number from 0 to 2^20 -/
def inN (n : Int) : Bool := decide (0 ≤ n ∧ n ≤ 1048576)
/-- has a frame what its kind has? -/
def ownB (k h e : Int) (n : Nat) (tx : ByteArray) : Bool := if k = 1 then decide (e = 0) && decide (tx.size = 0) else if k = 2 then !decide (e = 0) && decide (n = 0) && decide (tx.size = 0) else !decide (e = 0) && decide (n = 0) && decide (h = 0)
/-- P3.1 -/
def frameErr (k h e : Int) (ps : List Part) (tx : ByteArray) : Int := if ¬ (k = 1 ∨ k = 2 ∨ k = 3) then 3 else if inN h = false then 2 else if inN e = false then 2 else if opErr ps ≠ 0 then opErr ps else if textErr tx ≠ 0 then textErr tx else if ownB k h e ps.length tx = true then 0 else 4
/-- P3.3 -/
def recordErr (e : Int) (ps : List Part) : Int := if inN e = false then 2 else if e ≠ 0 ∧ ps.length ≠ 0 then 4 else opErr ps
/-- an empty frame -/
def emptyB (k h e : Int) (n : Nat) (tx : ByteArray) : Bool := decide (k = 0) && decide (h = 0) && decide (e = 0) && decide (n = 0) && decide (tx.size = 0)
/-- P3.2 -/
def packetErr (ep num : Int) (bare : Bool) (ack k h e : Int) (ps : List Part) (tx : ByteArray) : Int := if inN ep = false then 2 else if inN num = false then 2 else if inN ack = false then 2 else if bare = true then (if num = 0 ∧ emptyB k h e ps.length tx = true then 0 else 4) else if num = 0 then 4 else if ep = 0 then 4 else frameErr k h e ps tx

theorem frame_cells {w : World} {b : Nat} {x0 x1 x2 x3 x4 : Value} (h : w.heap[b]? = some (.cells #[x0, x1, x2, x3, x4] 60 (0, 0))) : w.cell? ⟨b, 0, none⟩ = some x0 ∧ w.cell? ⟨b, 1, none⟩ = some x1 ∧ w.cell? ⟨b, 2, none⟩ = some x2 ∧ w.cell? ⟨b, 3, none⟩ = some x3 ∧ w.cell? ⟨b, 4, none⟩ = some x4 :=
  ⟨by rw [cell_of_row _ _ _ _ _ _ h]; rfl, by rw [cell_of_row _ _ _ _ _ _ h]; rfl, by rw [cell_of_row _ _ _ _ _ _ h]; rfl, by rw [cell_of_row _ _ _ _ _ _ h]; rfl, by rw [cell_of_row _ _ _ _ _ _ h]; rfl⟩

set_option maxHeartbeats 400000 in
theorem wcounts_same (n : Int) (w : World) :
    Calls Tryd.prog 47 #[.int .i64 n] w fun e w' => e = .returned (.bool (inN n)) ∧ w' = w := by
  unfold inN
  by_cases h1 : 0 ≤ n
  · by_cases h2 : n ≤ 1048576
    · have e : decide (0 ≤ n ∧ n ≤ 1048576) = true := decide_eq_true ⟨h1, h2⟩
      rw [e]
      clear e
      go_enter Tryd.func47, Tryd.ntmps47
      go_wp2
      go_ret
      exact ⟨rfl, rfl⟩
    · have e : decide (0 ≤ n ∧ n ≤ 1048576) = false := decide_eq_false fun h => h2 h.2
      rw [e]
      clear e
      go_enter Tryd.func47, Tryd.ntmps47
      go_wp2
      go_ret
      exact ⟨rfl, rfl⟩
  · have e : decide (0 ≤ n ∧ n ≤ 1048576) = false := decide_eq_false fun h => h1 h.1
    rw [e]
    clear e
    go_enter Tryd.func47, Tryd.ntmps47
    go_wp2
    go_ret
    exact ⟨rfl, rfl⟩

set_option maxRecDepth 100000 in
set_option maxHeartbeats 2000000 in
theorem hasOwn_any (k h e : Int) (n : Nat) (a : Option Addr) (c : Nat) (tx : ByteArray) (w : World) (hk : k = 1 ∨ k = 2 ∨ k = 3) :
    Calls Tryd.prog 63 #[.agg #[.int .i64 k, .int .i64 h, .int .i64 e, .slice a n c, .string tx]] w fun r w' => r = .returned (.bool (ownB k h e n tx)) ∧ Below w.heap.size w w' := by
  rcases hk with rfl | rfl | rfl
  · -- kind 1
    by_cases he0 : e = 0
    · -- e 0
      by_cases htx : tx.size = 0
      · -- tx 0
        have er : ownB 1 h e n tx = true := by unfold ownB; simp [he0, htx]
        rw [er]
        clear er
        subst he0
        obtain rfl := empty_of tx htx
        go_enter Tryd.func63, Tryd.ntmps63
        go_wp2_with fail
        go_ret
        exact ⟨rfl, (Below.refl _ _).alloc (Nat.le_refl _) _⟩
      · -- tx not 0
        have er : ownB 1 h e n tx = false := by unfold ownB; simp [he0, htx]
        rw [er]
        clear er
        subst he0
        have gt := isEmpty_of tx htx
        go_enter Tryd.func63, Tryd.ntmps63
        go_wp2_with fail
        go_ret
        exact ⟨rfl, (Below.refl _ _).alloc (Nat.le_refl _) _⟩
    · -- e not 0
      have er : ownB 1 h e n tx = false := by unfold ownB; simp [he0]
      rw [er]
      clear er
      have ge : (e == 0) = false := by simpa using he0
      have ge2 : (e != 0) = true := by simpa using he0
      go_enter Tryd.func63, Tryd.ntmps63
      go_wp2_with fail
      go_ret
      exact ⟨rfl, (Below.refl _ _).alloc (Nat.le_refl _) _⟩
  · -- kind 2
    by_cases he0 : e = 0
    · -- e 0
      have er : ownB 2 h e n tx = false := by unfold ownB; simp [he0]
      rw [er]
      clear er
      subst he0
      go_enter Tryd.func63, Tryd.ntmps63
      go_wp2_with fail
      go_ret
      exact ⟨rfl, (Below.refl _ _).alloc (Nat.le_refl _) _⟩
    · -- e not 0
      by_cases hn0 : n = 0
      · -- n 0
        by_cases htx : tx.size = 0
        · -- tx 0
          have er : ownB 2 h e n tx = true := by unfold ownB; simp [he0, hn0, htx]
          rw [er]
          clear er
          have ge : (e == 0) = false := by simpa using he0
          have ge2 : (e != 0) = true := by simpa using he0
          subst hn0
          obtain rfl := empty_of tx htx
          go_enter Tryd.func63, Tryd.ntmps63
          go_wp2_with fail
          go_ret
          exact ⟨rfl, (Below.refl _ _).alloc (Nat.le_refl _) _⟩
        · -- tx not 0
          have er : ownB 2 h e n tx = false := by unfold ownB; simp [he0, hn0, htx]
          rw [er]
          clear er
          have ge : (e == 0) = false := by simpa using he0
          have ge2 : (e != 0) = true := by simpa using he0
          subst hn0
          have gt := isEmpty_of tx htx
          go_enter Tryd.func63, Tryd.ntmps63
          go_wp2_with fail
          go_ret
          exact ⟨rfl, (Below.refl _ _).alloc (Nat.le_refl _) _⟩
      · -- n not 0
        have er : ownB 2 h e n tx = false := by unfold ownB; simp [he0, hn0]
        rw [er]
        clear er
        have ge : (e == 0) = false := by simpa using he0
        have ge2 : (e != 0) = true := by simpa using he0
        have gn : ((n : Int) == 0) = false := by simpa using hn0
        have gn2 : (0 : Int) < (n : Int) := by omega
        go_enter Tryd.func63, Tryd.ntmps63
        go_wp2_with fail
        go_ret
        exact ⟨rfl, (Below.refl _ _).alloc (Nat.le_refl _) _⟩
  · -- kind 3
    by_cases he0 : e = 0
    · -- e 0
      have er : ownB 3 h e n tx = false := by unfold ownB; simp [he0]
      rw [er]
      clear er
      subst he0
      go_enter Tryd.func63, Tryd.ntmps63
      go_wp2_with fail
      go_ret
      exact ⟨rfl, (Below.refl _ _).alloc (Nat.le_refl _) _⟩
    · -- e not 0
      by_cases hn0 : n = 0
      · -- n 0
        by_cases hh0 : h = 0
        · -- h 0
          have er : ownB 3 h e n tx = true := by unfold ownB; simp [he0, hn0, hh0]
          rw [er]
          clear er
          have ge : (e == 0) = false := by simpa using he0
          have ge2 : (e != 0) = true := by simpa using he0
          subst hn0
          subst hh0
          go_enter Tryd.func63, Tryd.ntmps63
          go_wp2_with fail
          go_ret
          exact ⟨rfl, (Below.refl _ _).alloc (Nat.le_refl _) _⟩
        · -- h not 0
          have er : ownB 3 h e n tx = false := by unfold ownB; simp [he0, hn0, hh0]
          rw [er]
          clear er
          have ge : (e == 0) = false := by simpa using he0
          have ge2 : (e != 0) = true := by simpa using he0
          subst hn0
          have gh : (h == 0) = false := by simpa using hh0
          have gh2 : (h != 0) = true := by simpa using hh0
          go_enter Tryd.func63, Tryd.ntmps63
          go_wp2_with fail
          go_ret
          exact ⟨rfl, (Below.refl _ _).alloc (Nat.le_refl _) _⟩
      · -- n not 0
        have er : ownB 3 h e n tx = false := by unfold ownB; simp [he0, hn0]
        rw [er]
        clear er
        have ge : (e == 0) = false := by simpa using he0
        have ge2 : (e != 0) = true := by simpa using he0
        have gn : ((n : Int) == 0) = false := by simpa using hn0
        have gn2 : (0 : Int) < (n : Int) := by omega
        go_enter Tryd.func63, Tryd.ntmps63
        go_wp2_with fail
        go_ret
        exact ⟨rfl, (Below.refl _ _).alloc (Nat.le_refl _) _⟩

set_option maxRecDepth 100000 in
set_option maxHeartbeats 2000000 in
theorem isEmptyF_any (k h e : Int) (n : Nat) (a : Option Addr) (c : Nat) (tx : ByteArray) (w : World) :
    Calls Tryd.prog 77 #[.agg #[.int .i64 k, .int .i64 h, .int .i64 e, .slice a n c, .string tx]] w fun r w' => r = .returned (.bool (emptyB k h e n tx)) ∧ Below w.heap.size w w' := by
  by_cases hk0 : k = 0
  · -- k 0
    by_cases hh0 : h = 0
    · -- h 0
      by_cases he0 : e = 0
      · -- e 0
        by_cases hn0 : n = 0
        · -- n 0
          by_cases htx : tx.size = 0
          · -- tx 0
            have er : emptyB k h e n tx = true := by unfold emptyB; simp [hk0, hh0, he0, hn0, htx]
            rw [er]
            clear er
            subst hk0
            subst hh0
            subst he0
            subst hn0
            obtain rfl := empty_of tx htx
            go_enter Tryd.func77, Tryd.ntmps77
            go_wp2_with fail
            go_ret
            exact ⟨rfl, (Below.refl _ _).alloc (Nat.le_refl _) _⟩
          · -- tx not 0
            have er : emptyB k h e n tx = false := by unfold emptyB; simp [hk0, hh0, he0, hn0, htx]
            rw [er]
            clear er
            subst hk0
            subst hh0
            subst he0
            subst hn0
            have gt := isEmpty_of tx htx
            go_enter Tryd.func77, Tryd.ntmps77
            go_wp2_with fail
            go_ret
            exact ⟨rfl, (Below.refl _ _).alloc (Nat.le_refl _) _⟩
        · -- n not 0
          have er : emptyB k h e n tx = false := by unfold emptyB; simp [hk0, hh0, he0, hn0]
          rw [er]
          clear er
          subst hk0
          subst hh0
          subst he0
          have gn : ((n : Int) == 0) = false := by simpa using hn0
          have gn2 : (0 : Int) < (n : Int) := by omega
          go_enter Tryd.func77, Tryd.ntmps77
          go_wp2_with fail
          go_ret
          exact ⟨rfl, (Below.refl _ _).alloc (Nat.le_refl _) _⟩
      · -- e not 0
        have er : emptyB k h e n tx = false := by unfold emptyB; simp [hk0, hh0, he0]
        rw [er]
        clear er
        subst hk0
        subst hh0
        have ge : (e == 0) = false := by simpa using he0
        have ge2 : (e != 0) = true := by simpa using he0
        go_enter Tryd.func77, Tryd.ntmps77
        go_wp2_with fail
        go_ret
        exact ⟨rfl, (Below.refl _ _).alloc (Nat.le_refl _) _⟩
    · -- h not 0
      have er : emptyB k h e n tx = false := by unfold emptyB; simp [hk0, hh0]
      rw [er]
      clear er
      subst hk0
      have gh : (h == 0) = false := by simpa using hh0
      have gh2 : (h != 0) = true := by simpa using hh0
      go_enter Tryd.func77, Tryd.ntmps77
      go_wp2_with fail
      go_ret
      exact ⟨rfl, (Below.refl _ _).alloc (Nat.le_refl _) _⟩
  · -- k not 0
    have er : emptyB k h e n tx = false := by unfold emptyB; simp [hk0]
    rw [er]
    clear er
    have gk : (k == 0) = false := by simpa using hk0
    have gk2 : (k != 0) = true := by simpa using hk0
    go_enter Tryd.func77, Tryd.ntmps77
    go_wp2_with fail
    go_ret
    exact ⟨rfl, (Below.refl _ _).alloc (Nat.le_refl _) _⟩

set_option maxRecDepth 100000 in
set_option maxHeartbeats 2000000 in
theorem checkFrame_any (k h e : Int) (ps : List Part) (a : Option Addr) (c : Nat) (tx : ByteArray) (w : World) (hop : OpAt w a ps) (hn : ps.length ≤ 9223372036854775806) (hs : ∀ p ∈ ps, p.text.size ≤ 70368744177664) (hx : tx.size ≤ 70368744177664) (hT : Tabs w) :
    Calls Tryd.prog 49 #[.agg #[.int .i64 k, .int .i64 h, .int .i64 e, .slice a ps.length c, .string tx]] w fun r w' => r = .returned (.int .i64 (frameErr k h e ps tx)) ∧ Below w.heap.size w w' := by
  have hb0 := (Below.refl w.heap.size w).alloc (Nat.le_refl _) (.cells #[.int .i64 k, .int .i64 h, .int .i64 e, .slice a ps.length c, .string tx] 60)
  have hblk := heap_alloc_new w (.cells #[.int .i64 k, .int .i64 h, .int .i64 e, .slice a ps.length c, .string tx] 60)
  have hsz : w.heap.size < (w.alloc (.cells #[.int .i64 k, .int .i64 h, .int .i64 e, .slice a ps.length c, .string tx] 60)).heap.size := by simp
  have cH := fun w => wcounts_same h w
  have cE := fun w => wcounts_same e w
  have c1 := check_any ps a c _ (hop.below hb0) hn (fun p hp => by have := hs p hp; omega) (hT.below hb0)
  have c2 := fun w1 (hb : Below w.heap.size w w1) => checkText_any tx w1 (by omega) (hT.below hb)
  have c3 := fun w1 (hk : k = 1 ∨ k = 2 ∨ k = 3) => hasOwn_any k h e ps.length a c tx w1 hk
  by_cases hk : k = 1 ∨ k = 2 ∨ k = 3
  rotate_left
  · have er : frameErr k h e ps tx = 3 := by unfold frameErr; rw [if_pos hk]
    rw [er]
    clear er
    have d1 : (k != 1) = true := by simp; omega
    have d2 : (k != 2) = true := by simp; omega
    have d3 : (k != 3) = true := by simp; omega
    go_enter Tryd.func49, Tryd.ntmps49
    go_wp2_with fail
    go_ret
    exact ⟨rfl, hb0⟩
  have nk : ¬ ¬ (k = 1 ∨ k = 2 ∨ k = 3) := fun x => x hk
  replace c3 := fun w1 => c3 w1 hk
  cases hh : inN h with
  | false =>
    have er : frameErr k h e ps tx = 2 := by unfold frameErr; rw [if_neg nk, if_pos hh]
    rw [er]
    rw [hh] at cH
    clear er hh nk
    rcases hk with rfl | rfl | rfl <;>
    · go_enter Tryd.func49, Tryd.ntmps49
      go_wp2_with fail
      refine (cH _).mono ?_
      rintro r w' ⟨rfl, hw'⟩
      rw [hw']
      clear hw'
      go_wp2_with fail
      go_ret
      exact ⟨rfl, hb0⟩
  | true =>
    rw [hh] at cH
    cases he : inN e with
    | false =>
      have er : frameErr k h e ps tx = 2 := by unfold frameErr; rw [if_neg nk, if_neg (by rw [hh]; decide), if_pos he]
      rw [er]
      rw [he] at cE
      clear er hh he nk
      rcases hk with rfl | rfl | rfl <;>
      · go_enter Tryd.func49, Tryd.ntmps49
        go_wp2_with fail
        refine (cH _).mono ?_
        rintro r w' ⟨rfl, hw'⟩
        rw [hw']
        clear hw'
        go_wp2_with fail
        refine (cE _).mono ?_
        rintro r w' ⟨rfl, hw'⟩
        rw [hw']
        clear hw'
        go_wp2_with fail
        go_ret
        exact ⟨rfl, hb0⟩
    | true =>
      rw [he] at cE
      by_cases ho : opErr ps = 0
      rotate_left
      · have er : frameErr k h e ps tx = opErr ps := by unfold frameErr; rw [if_neg nk, if_neg (by rw [hh]; decide), if_neg (by rw [he]; decide), if_pos ho]
        rw [er]
        clear er hh he nk c2 c3
        generalize opErr ps = er at *
        have g1 : (er != 0) = true := by simpa using ho
        have g2 : (er == 0) = false := by simpa using ho
        clear ho
        rcases hk with rfl | rfl | rfl <;>
        · go_enter Tryd.func49, Tryd.ntmps49
          go_wp2_with fail
          refine (cH _).mono ?_
          rintro r w' ⟨rfl, hw'⟩
          rw [hw']
          clear hw'
          go_wp2_with fail
          refine (cE _).mono ?_
          rintro r w' ⟨rfl, hw'⟩
          rw [hw']
          clear hw'
          go_wp2_with fail
          refine c1.mono ?_
          rintro r w1 ⟨rfl, hb1⟩
          have HB1 := below_two hb0 hb1 (Nat.le_refl _)
          have hk1 := (hb1.block _ hsz).trans hblk
          have fc := frame_cells hk1
          obtain ⟨q0, q1, q2, q3, q4⟩ := fc
          go_wp2_with fail
          go_ret
          exact ⟨rfl, HB1⟩
      rw [ho] at c1
      by_cases ht : textErr tx = 0
      rotate_left
      · have er : frameErr k h e ps tx = textErr tx := by unfold frameErr; rw [if_neg nk, if_neg (by rw [hh]; decide), if_neg (by rw [he]; decide), if_neg (by rw [ho]; decide), if_pos ht]
        rw [er]
        clear er hh he nk ho c3
        generalize textErr tx = er at *
        have g1 : (er != 0) = true := by simpa using ht
        clear ht
        rcases hk with rfl | rfl | rfl <;>
        · go_enter Tryd.func49, Tryd.ntmps49
          go_wp2_with fail
          refine (cH _).mono ?_
          rintro r w' ⟨rfl, hw'⟩
          rw [hw']
          clear hw'
          go_wp2_with fail
          refine (cE _).mono ?_
          rintro r w' ⟨rfl, hw'⟩
          rw [hw']
          clear hw'
          go_wp2_with fail
          refine c1.mono ?_
          rintro r w1 ⟨rfl, hb1⟩
          have HB1 := below_two hb0 hb1 (Nat.le_refl _)
          have hk1 := (hb1.block _ hsz).trans hblk
          have fc := frame_cells hk1
          obtain ⟨q0, q1, q2, q3, q4⟩ := fc
          have c2' := c2 w1 HB1
          go_wp2_with fail
          refine c2'.mono ?_
          rintro r w2 ⟨rfl, hb2⟩
          have HB2 := below_two HB1 hb2 (Nat.le_refl _)
          have hk2 := (hb2.block _ (Nat.lt_of_lt_of_le hsz hb1.size)).trans hk1
          clear q0 q1 q2 q3 q4
          have fc := frame_cells hk2
          obtain ⟨q0, q1, q2, q3, q4⟩ := fc
          go_wp2_with fail
          go_ret
          exact ⟨rfl, HB2⟩
      rw [ht] at c2
      have er : frameErr k h e ps tx = if ownB k h e ps.length tx = true then 0 else 4 := by unfold frameErr; rw [if_neg nk, if_neg (by rw [hh]; decide), if_neg (by rw [he]; decide), if_neg (by rw [ho]; decide), if_neg (by rw [ht]; decide)]
      rw [er]
      clear er hh he nk ho ht
      cases hO : ownB k h e ps.length tx with
      | true =>
        rw [hO] at c3
        rw [if_pos rfl]
        clear hO
        rcases hk with rfl | rfl | rfl <;>
        · go_enter Tryd.func49, Tryd.ntmps49
          go_wp2_with fail
          refine (cH _).mono ?_
          rintro r w' ⟨rfl, hw'⟩
          rw [hw']
          clear hw'
          go_wp2_with fail
          refine (cE _).mono ?_
          rintro r w' ⟨rfl, hw'⟩
          rw [hw']
          clear hw'
          go_wp2_with fail
          refine c1.mono ?_
          rintro r w1 ⟨rfl, hb1⟩
          have HB1 := below_two hb0 hb1 (Nat.le_refl _)
          have hk1 := (hb1.block _ hsz).trans hblk
          have fc := frame_cells hk1
          obtain ⟨q0, q1, q2, q3, q4⟩ := fc
          have c2' := c2 w1 HB1
          go_wp2_with fail
          refine c2'.mono ?_
          rintro r w2 ⟨rfl, hb2⟩
          have HB2 := below_two HB1 hb2 (Nat.le_refl _)
          have hk2 := (hb2.block _ (Nat.lt_of_lt_of_le hsz hb1.size)).trans hk1
          clear q0 q1 q2 q3 q4
          have fc := frame_cells hk2
          obtain ⟨q0, q1, q2, q3, q4⟩ := fc
          go_wp2_with fail
          refine (c3 _).mono ?_
          rintro r w3 ⟨rfl, hb3⟩
          go_wp2_with fail
          go_ret
          exact ⟨rfl, below_two HB2 hb3 (Nat.le_refl _)⟩
      | false =>
        rw [hO] at c3
        rw [if_neg (by decide)]
        clear hO
        rcases hk with rfl | rfl | rfl <;>
        · go_enter Tryd.func49, Tryd.ntmps49
          go_wp2_with fail
          refine (cH _).mono ?_
          rintro r w' ⟨rfl, hw'⟩
          rw [hw']
          clear hw'
          go_wp2_with fail
          refine (cE _).mono ?_
          rintro r w' ⟨rfl, hw'⟩
          rw [hw']
          clear hw'
          go_wp2_with fail
          refine c1.mono ?_
          rintro r w1 ⟨rfl, hb1⟩
          have HB1 := below_two hb0 hb1 (Nat.le_refl _)
          have hk1 := (hb1.block _ hsz).trans hblk
          have fc := frame_cells hk1
          obtain ⟨q0, q1, q2, q3, q4⟩ := fc
          have c2' := c2 w1 HB1
          go_wp2_with fail
          refine c2'.mono ?_
          rintro r w2 ⟨rfl, hb2⟩
          have HB2 := below_two HB1 hb2 (Nat.le_refl _)
          have hk2 := (hb2.block _ (Nat.lt_of_lt_of_le hsz hb1.size)).trans hk1
          clear q0 q1 q2 q3 q4
          have fc := frame_cells hk2
          obtain ⟨q0, q1, q2, q3, q4⟩ := fc
          go_wp2_with fail
          refine (c3 _).mono ?_
          rintro r w3 ⟨rfl, hb3⟩
          go_wp2_with fail
          go_ret
          exact ⟨rfl, below_two HB2 hb3 (Nat.le_refl _)⟩

end Go.Proofs.YtbobeecagcmclaaDoor
