/-
  Walks: edge.known, checkHear, pass.
-/
import Derived.Test.YtbobeecagcmclaaDoorEdgeSend
import Derived.Test.YtbobeecagcmclaaDoorTransWalk
namespace Go.Proofs.YtbobeecagcmclaaDoor
open Go.RowKit Go.Lib

theorem small_parts {ps : List Part} (h : opErr ps = 0) (hl : ps.length ≤ 1048576) (ht : ∀ p ∈ ps, p.text.size ≤ 1048576) : OpSmall ps :=
  ⟨hl, fun p hp => by
    have g := (opErr_zero h).chain.good p hp
    refine ⟨by have := g.kind; omega, ?_, ht p hp⟩
    by_cases h2 : p.kind = 2
    · have := (g.text h2).1; omega
    · have := g.count h2; omega⟩
theorem trans_zero {ps qs : List Part} (h : transErr ps qs = 0) : opErr ps = 0 ∧ opErr qs = 0 ∧ (lens ps).1 = (lens qs).1 ∧ bothErr (xU ps qs) (xV ps qs) = 0 := by
  unfold transErr at h
  by_cases h1 : bothErr ps qs = 0
  · obtain ⟨a, b⟩ := bothErr_zero h1
    rw [if_neg (by omega)] at h
    by_cases h2 : (lens ps).1 = (lens qs).1
    · rw [if_neg (by omega)] at h
      exact ⟨a, b, h2, h⟩
    · rw [if_pos h2] at h; omega
  · rw [if_pos h1] at h; exact absurd h h1
theorem trans_small {ps qs : List Part} (h : transErr ps qs = 0) : (opErr (transU ps qs) = 0 ∧ OpSmall (transU ps qs)) ∧ opErr (transV ps qs) = 0 ∧ OpSmall (transV ps qs) := by
  obtain ⟨h1, h2, _, h3⟩ := trans_zero h
  obtain ⟨h4, h5⟩ := bothErr_zero h3
  obtain ⟨⟨ul, ut⟩, vl, vt⟩ := xUV_small (opErr_zero h1) (opErr_zero h2)
  have e1 : transU ps qs = xU ps qs := by unfold transU; rw [h]; simp
  have e2 : transV ps qs = xV ps qs := by unfold transV; rw [h]; simp
  rw [e1, e2]
  exact ⟨⟨h4, small_parts h4 (by omega) fun p hp => by have := ut p hp; omega⟩, h5, small_parts h5 (by omega) fun p hp => by have := vt p hp; omega⟩

/-- this side's operation, behind the other one -/
def passM (up : Bool) (own other : List Part) : List Part := if up = true then transU own other else transV other own
/-- the other side's operation, behind this one -/
def passT (up : Bool) (own other : List Part) : List Part := if up = true then transV own other else transU other own
def passE (up : Bool) (own other : List Part) : Int := if up = true then transErr own other else transErr other own
theorem pass_small {up : Bool} {own other : List Part} (h : passE up own other = 0) : (opErr (passM up own other) = 0 ∧ OpSmall (passM up own other)) ∧ opErr (passT up own other) = 0 ∧ OpSmall (passT up own other) := by
  unfold passE at h
  unfold passM passT
  cases up with
  | true => simp only [if_true] at h ⊢; exact trans_small h
  | false => simp only [Bool.false_eq_true, if_false] at h ⊢; exact (trans_small h).symm

set_option maxRecDepth 100000 in
set_option maxHeartbeats 1000000 in
theorem pass_any (up : Bool) (ps qs : List Part) (u v : Value) (w : World) (hu : OpVal w u ps) (hv : OpVal w v qs) (sp : OpSmall ps) (sq : OpSmall qs) (hT : Tabs w) :
    Calls Tryd.prog 25 #[u, v, .bool up] w fun e w' => ∃ x y, e = .returned (.tuple #[x, y, .int .i64 (passE up ps qs)]) ∧
      w'.ownsRow w.heap.size 75 3 x (passM up ps qs).length (partCells (passM up ps qs)) ∧ w'.ownsRow w.heap.size 75 3 y (passT up ps qs).length (partCells (passT up ps qs)) ∧ Below w.heap.size w w' := by
  obtain ⟨a, ca, rfl, hoa, hca, _⟩ := hu.form
  obtain ⟨b, cb, rfl, hob, hcb, _⟩ := hv.form
  cases up with
  | true =>
    have c1 := transform_text ps qs a b ca cb w hoa hob hca hcb sp.1 sq.1 (fun p hp => (sp.2 p hp).2.2) (fun p hp => (sq.2 p hp).2.2) hT
    unfold passE passM passT
    simp only [if_true]
    generalize transErr ps qs = er at *
    generalize transU ps qs = U at *
    generalize transV ps qs = V at *
    clear hu hv sp sq hoa hob
    generalize ps.length = n1 at *
    generalize qs.length = n2 at *
    go_enter Tryd.func25, Tryd.ntmps25
    go_wp2_with fail
    refine c1.mono ?_
    rintro e w1 ⟨x, y, rfl, hx, hy, hb1⟩
    obtain ⟨xa, xc, rfl⟩ := own_form hx
    obtain ⟨ya, yc, rfl⟩ := own_form hy
    go_wp2_with fail
    go_ret3
    exact ⟨_, _, rfl, hx, hy, hb1⟩
  | false =>
    have c1 := transform_text qs ps b a cb ca w hob hoa hcb hca sq.1 sp.1 (fun p hp => (sq.2 p hp).2.2) (fun p hp => (sp.2 p hp).2.2) hT
    unfold passE passM passT
    simp only [Bool.false_eq_true, if_false]
    generalize transErr qs ps = er at *
    generalize transU qs ps = U at *
    generalize transV qs ps = V at *
    clear hu hv sp sq hoa hob
    generalize ps.length = n1 at *
    generalize qs.length = n2 at *
    go_enter Tryd.func25, Tryd.ntmps25
    go_wp2_with fail
    refine c1.mono ?_
    rintro e w1 ⟨x, y, rfl, hx, hy, hb1⟩
    obtain ⟨xa, xc, rfl⟩ := own_form hx
    obtain ⟨ya, yc, rfl⟩ := own_form hy
    go_wp2_with fail
    go_ret3
    exact ⟨_, _, rfl, hy, hx, hb1⟩

set_option maxRecDepth 100000 in
set_option maxHeartbeats 1000000 in
theorem known_any (sent heard : Int) (n : Nat) (a : Option Addr) (c : Nat) (w : World) (hs : 0 ≤ sent ∧ sent ≤ 1048576) (hn : (n : Int) ≤ sent) :
    Calls Tryd.prog 24 #[.agg #[.int .i64 sent, .int .i64 heard, .slice a n c]] w fun e w' => e = .returned (.int .i64 (sent - n)) ∧ Below w.heap.size w w' := by
  go_enter Tryd.func24, Tryd.ntmps24
  go_wp2_with fail
  go_ret
  exact ⟨rfl, (Below.refl _ _).alloc (Nat.le_refl _) _⟩

/-- P2.3: what is refused ahead -/
def hearErr (sent heard : Int) (E : List (List Part)) (ps : List Part) (hd : Int) : Int := if edgeBoth sent heard E ps ≠ 0 then edgeBoth sent heard E ps else if sent < hd ∨ hd < sent - E.length then 2 else if heard = 1048576 then 8 else 0

theorem edgeBoth_zero {sent heard : Int} {E : List (List Part)} {ps : List Part} (h : edgeBoth sent heard E ps = 0) : (0 ≤ sent ∧ sent ≤ 1048576) ∧ (0 ≤ heard ∧ heard ≤ 1048576) ∧ (E.length : Int) ≤ sent ∧ pendOkB [] E = true ∧ opErr ps = 0 := by
  unfold edgeBoth at h
  by_cases h1 : edgeErr sent heard E = 0
  · rw [if_neg (by omega)] at h
    unfold edgeErr at h1
    by_cases h2 : edgeOkB sent heard E = true
    · unfold edgeOkB at h2
      simp only [Bool.and_eq_true, decide_eq_true_eq] at h2
      exact ⟨h2.1.1.1, h2.1.1.2, h2.1.2, h2.2, h⟩
    · rw [if_neg h2] at h1; omega
  · rw [if_pos h1] at h; exact absurd h h1

set_option maxRecDepth 100000 in
set_option maxHeartbeats 2000000 in
theorem checkHear_any (sent heard : Int) (E : List (List Part)) (vs : List Value) (a : Option Addr) (c : Nat) (ps : List Part) (v : Value) (hd : Int) (w : World) (hp : PendAt w a c E vs) (hE : ∀ q ∈ E, OpSmall q) (hlen : E.length ≤ 1048576) (hs : -9223372036854775808 ≤ sent ∧ sent ≤ 9223372036854775807) (ho : OpVal w v ps) (hso : OpSmall ps) (hT : Tabs w) :
    Calls Tryd.prog 23 #[.agg #[.int .i64 sent, .int .i64 heard, .slice a E.length c], v, .int .i64 hd] w fun e w' => e = .returned (.int .i64 (hearErr sent heard E ps hd)) ∧ Below w.heap.size w w' := by
  have hb0 := (Below.refl w.heap.size w).alloc (Nat.le_refl _) (.cells #[.int .i64 sent, .int .i64 heard, .slice a E.length c] 26)
  have hblk := heap_alloc_new w (.cells #[.int .i64 sent, .int .i64 heard, .slice a E.length c] 26)
  have hsz : w.heap.size < (w.alloc (.cells #[.int .i64 sent, .int .i64 heard, .slice a E.length c] 26)).heap.size := by simp
  have c1 := edgeBoth_any sent heard E vs a c ps v _ (hp.below hb0) hE hlen hs (ho.below hb0) hso (hT.below hb0)
  by_cases h1 : edgeBoth sent heard E ps = 0
  · obtain ⟨z1, z2, z3, _, _⟩ := edgeBoth_zero h1
    have e : hearErr sent heard E ps hd = if sent < hd ∨ hd < sent - E.length then 2 else if heard = 1048576 then 8 else 0 := by unfold hearErr; rw [h1]; simp
    rw [h1] at c1
    rw [e]
    clear e h1
    have c2 := fun w1 => known_any sent heard E.length a c w1 z1 z3
    clear hp hE ho hso
    generalize E.length = n at *
    by_cases h2 : sent < hd
    · rw [if_pos (.inl h2)]
      go_enter Tryd.func23, Tryd.ntmps23
      go_wp2_with fail
      refine c1.mono ?_
      rintro e w1 ⟨rfl, hb1⟩
      have HB := below_two hb0 hb1 (Nat.le_refl _)
      obtain ⟨k0, k1, k2⟩ := edge_cells ((hb1.block _ hsz).trans hblk)
      clear c1 c2
      go_wp2_with fail
      go_ret
      exact ⟨rfl, HB⟩
    · by_cases h3 : hd < sent - n
      · rw [if_pos (.inr h3)]
        go_enter Tryd.func23, Tryd.ntmps23
        go_wp2_with fail
        refine c1.mono ?_
        rintro e w1 ⟨rfl, hb1⟩
        have HB := below_two hb0 hb1 (Nat.le_refl _)
        obtain ⟨k0, k1, k2⟩ := edge_cells ((hb1.block _ hsz).trans hblk)
        clear c1
        go_wp2_with fail
        refine (c2 _).mono ?_
        rintro e w2 ⟨rfl, hb2⟩
        go_wp2_with fail
        go_ret
        exact ⟨rfl, below_two HB hb2 (Nat.le_refl _)⟩
      · rw [if_neg (by omega)]
        by_cases h4 : heard = 1048576
        · rw [if_pos h4]
          subst h4
          go_enter Tryd.func23, Tryd.ntmps23
          go_wp2_with fail
          refine c1.mono ?_
          rintro e w1 ⟨rfl, hb1⟩
          have HB := below_two hb0 hb1 (Nat.le_refl _)
          have hk := (hb1.block _ hsz).trans hblk
          have hl1 : w.heap.size < w1.heap.size := Nat.lt_of_lt_of_le hsz hb1.size
          obtain ⟨k0, k1, k2⟩ := edge_cells hk
          clear c1
          go_wp2_with fail
          refine (c2 _).mono ?_
          rintro e w2 ⟨rfl, hb2⟩
          obtain ⟨_, m1, _⟩ := edge_cells ((hb2.block _ hl1).trans hk)
          clear k0 k1 k2
          go_wp2_with fail
          go_ret
          exact ⟨rfl, below_two HB hb2 (Nat.le_refl _)⟩
        · rw [if_neg h4]
          have g1 : (heard == 1048576) = false := by simpa using h4
          go_enter Tryd.func23, Tryd.ntmps23
          go_wp2_with fail
          refine c1.mono ?_
          rintro e w1 ⟨rfl, hb1⟩
          have HB := below_two hb0 hb1 (Nat.le_refl _)
          have hk := (hb1.block _ hsz).trans hblk
          have hl1 : w.heap.size < w1.heap.size := Nat.lt_of_lt_of_le hsz hb1.size
          obtain ⟨k0, k1, k2⟩ := edge_cells hk
          clear c1
          go_wp2_with fail
          refine (c2 _).mono ?_
          rintro e w2 ⟨rfl, hb2⟩
          obtain ⟨_, m1, _⟩ := edge_cells ((hb2.block _ hl1).trans hk)
          clear k0 k1 k2
          go_wp2_with fail
          go_ret
          exact ⟨rfl, below_two HB hb2 (Nat.le_refl _)⟩
  · have e : hearErr sent heard E ps hd = edgeBoth sent heard E ps := by unfold hearErr; rw [if_pos h1]
    rw [e]
    generalize edgeBoth sent heard E ps = er at *
    have g1 : (er != 0) = true := by simpa using h1
    clear h1 e
    go_enter Tryd.func23, Tryd.ntmps23
    go_wp2_with fail
    refine c1.mono ?_
    rintro e w1 ⟨rfl, hb1⟩
    have HB := below_two hb0 hb1 (Nat.le_refl _)
    clear c1
    go_wp2_with fail
    go_ret
    exact ⟨rfl, HB⟩

end Go.Proofs.YtbobeecagcmclaaDoor
