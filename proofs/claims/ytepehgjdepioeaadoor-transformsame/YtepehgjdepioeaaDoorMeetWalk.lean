/-
  Walk: text.meet.
-/
import Derived.Test.YtepehgjdepioeaaDoorPensWalk
namespace Go.Proofs.YtepehgjdepioeaaDoor
open Go.RowKit Go.Lib

set_option maxRecDepth 100000 in
set_option maxHeartbeats 1000000 in
theorem meet_kk (w : World) (B bp bq : Nat) (lp lq : List Step) (kx ky : Int) (n : Nat) (tx ty : ByteArray) (h : Pens w B bp bq lp lq) (hlp : lp.length ≤ 100000) (hlq : lq.length ≤ 100000) (h1 : 1 ≤ n) (hk : n ≤ 100000) (hx : kx = 1) (hy : ky = 1) :
    Calls Tryd.prog 55 #[.agg #[.int .i64 kx, .int .i64 (n : Int), .string tx], .agg #[.int .i64 ky, .int .i64 (n : Int), .string ty], .pointer (some ⟨bp, 0, none⟩), .pointer (some ⟨bq, 0, none⟩)] w fun e w' => e = .returned (.tuple #[]) ∧ Pens w' B bp bq (lp ++ List.replicate n (1, 0)) (lq ++ List.replicate n (1, 0)) ∧ Chg (fun k => B ≤ k) w w' := by
  subst hx hy
  obtain ⟨dp, ip, dq, iq, h⟩ := h
  have hbase := h.base
  go_enter Tryd.func55, Tryd.ntmps55
  go_wp2_with fail
  have h2 := fun A C => h.below (alloc2 w A C)
  refine (keepL _ B bp dp ip lp n (h2 _ _).p (h2 _ _).base hlp h1 hk).mono ?_
  rintro e w1 ⟨rfl, dp', ip', hp1, hs1⟩
  obtain ⟨hP1, hc1⟩ := (h2 _ _).stepP hp1 hs1
  have k1 : w1.cell? ⟨w.heap.size, 1, none⟩ = some (.int .i64 (n : Int)) := by
    rw [World.cell?_of_block (a := ⟨w.heap.size, 1, none⟩) (hs1.chg.block w.heap.size (by simp; omega) (fun hF => by have := (PenAt.F_lt h.p _ hF).2; omega))]
    rw [Lib.cell_of_heap (row_old (heap_alloc_new w _) _)]
    rfl
  clear hs1 hp1 h2
  have hc : Chg (fun k => B ≤ k) w w1 := (((Chg.refl _ w).alloc _).alloc _).trans hc1 (fun _ _ e => e)
  clear hc1
  go_wp2_with fail
  refine (pens_keepQ w1 B bp bq _ lq n hP1 hlq h1 hk).mono ?_
  rintro e w2 ⟨rfl, hP2, hc2⟩
  go_wp2
  go_end0
  exact ⟨rfl, hP2, hc.trans hc2 (fun _ _ e => e)⟩
set_option maxRecDepth 100000 in
set_option maxHeartbeats 1000000 in
theorem meet_dk (w : World) (B bp bq : Nat) (lp lq : List Step) (kx ky : Int) (n : Nat) (tx ty : ByteArray) (h : Pens w B bp bq lp lq) (hlp : lp.length ≤ 100000) (hk : n ≤ 100000) (hx : kx = 3) (hy : ky = 1) :
    Calls Tryd.prog 55 #[.agg #[.int .i64 kx, .int .i64 (n : Int), .string tx], .agg #[.int .i64 ky, .int .i64 (n : Int), .string ty], .pointer (some ⟨bp, 0, none⟩), .pointer (some ⟨bq, 0, none⟩)] w fun e w' => e = .returned (.tuple #[]) ∧ Pens w' B bp bq (lp ++ List.replicate n (3, 0)) lq ∧ Chg (fun k => B ≤ k) w w' := by
  subst hx hy
  go_enter Tryd.func55, Tryd.ntmps55
  go_wp2_with fail
  refine (pens_removeP _ B bp bq lp lq n (h.below (alloc2 w _ _)) hlp hk).mono ?_
  rintro e w1 ⟨rfl, hP1, hc1⟩
  have hc : Chg (fun k => B ≤ k) w w1 := (((Chg.refl _ w).alloc _).alloc _).trans hc1 (fun _ _ e => e)
  clear hc1
  go_wp2
  go_end0
  exact ⟨rfl, hP1, hc⟩
set_option maxRecDepth 100000 in
set_option maxHeartbeats 1000000 in
theorem meet_kd (w : World) (B bp bq : Nat) (lp lq : List Step) (kx ky : Int) (n : Nat) (tx ty : ByteArray) (h : Pens w B bp bq lp lq) (hlq : lq.length ≤ 100000) (hk : n ≤ 100000) (hx : kx = 1) (hy : ky = 3) :
    Calls Tryd.prog 55 #[.agg #[.int .i64 kx, .int .i64 (n : Int), .string tx], .agg #[.int .i64 ky, .int .i64 (n : Int), .string ty], .pointer (some ⟨bp, 0, none⟩), .pointer (some ⟨bq, 0, none⟩)] w fun e w' => e = .returned (.tuple #[]) ∧ Pens w' B bp bq lp (lq ++ List.replicate n (3, 0)) ∧ Chg (fun k => B ≤ k) w w' := by
  subst hx hy
  go_enter Tryd.func55, Tryd.ntmps55
  go_wp2_with fail
  refine (pens_removeQ _ B bp bq lp lq n (h.below (alloc2 w _ _)) hlq hk).mono ?_
  rintro e w1 ⟨rfl, hP1, hc1⟩
  have hc : Chg (fun k => B ≤ k) w w1 := (((Chg.refl _ w).alloc _).alloc _).trans hc1 (fun _ _ e => e)
  clear hc1
  go_wp2
  go_end0
  exact ⟨rfl, hP1, hc⟩
set_option maxRecDepth 100000 in
set_option maxHeartbeats 1000000 in
theorem meet_dd (w : World) (B bp bq : Nat) (lp lq : List Step) (kx ky : Int) (n : Nat) (tx ty : ByteArray) (h : Pens w B bp bq lp lq) (hx : kx = 3) (hy : ky = 3) :
    Calls Tryd.prog 55 #[.agg #[.int .i64 kx, .int .i64 (n : Int), .string tx], .agg #[.int .i64 ky, .int .i64 (n : Int), .string ty], .pointer (some ⟨bp, 0, none⟩), .pointer (some ⟨bq, 0, none⟩)] w fun e w' => e = .returned (.tuple #[]) ∧ Pens w' B bp bq lp lq ∧ Chg (fun k => B ≤ k) w w' := by
  subst hx hy
  go_enter Tryd.func55, Tryd.ntmps55
  go_wp2
  go_end0
  exact ⟨rfl, h.below (alloc2 w _ _), ((Chg.refl _ w).alloc _).alloc _⟩
theorem meet_any (w : World) (B bp bq : Nat) (lp lq : List Step) (kx ky : Int) (n : Nat) (tx ty : ByteArray) (h : Pens w B bp bq lp lq) (hlp : lp.length ≤ 100000) (hlq : lq.length ≤ 100000) (h1 : 1 ≤ n) (hk : n ≤ 100000) (hx : kx = 1 ∨ kx = 3) (hy : ky = 1 ∨ ky = 3) :
    Calls Tryd.prog 55 #[.agg #[.int .i64 kx, .int .i64 (n : Int), .string tx], .agg #[.int .i64 ky, .int .i64 (n : Int), .string ty], .pointer (some ⟨bp, 0, none⟩), .pointer (some ⟨bq, 0, none⟩)] w fun e w' => e = .returned (.tuple #[]) ∧
      Pens w' B bp bq (lp ++ (if ky = 1 then List.replicate n (kx, 0) else [])) (lq ++ (if kx = 1 then List.replicate n (ky, 0) else [])) ∧ Chg (fun k => B ≤ k) w w' := by
  rcases hx with hx | hx <;> rcases hy with hy | hy
  · simpa [hx, hy] using meet_kk w B bp bq lp lq kx ky n tx ty h hlp hlq h1 hk hx hy
  · simpa [hx, hy] using meet_kd w B bp bq lp lq kx ky n tx ty h hlq hk hx hy
  · simpa [hx, hy] using meet_dk w B bp bq lp lq kx ky n tx ty h hlp hk hx hy
  · simpa [hx, hy] using meet_dd w B bp bq lp lq kx ky n tx ty h hx hy

end Go.Proofs.YtepehgjdepioeaaDoor
