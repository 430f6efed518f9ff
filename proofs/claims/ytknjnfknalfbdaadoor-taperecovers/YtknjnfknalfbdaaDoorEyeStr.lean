/-
  Walks: wherryref.eye: num in any state, str.
-/
import Derived.Test.YtknjnfknalfbdaaDoorEyeNum
namespace Go.Proofs.YtknjnfknalfbdaaDoor
open Go.RowKit Go.Lib

set_option maxRecDepth 100000 in
set_option maxHeartbeats 1000000 in
theorem enum_bad (w : World) (B b : Nat) (l0 : List Nat) (er : Int) (he : er ≠ 0) (h : EyAt w B b l0 l0.length er) :
    Calls Tryd.prog 110 #[.pointer (some ⟨b, 0, none⟩)] w fun r w' => r = .returned (.int .i64 0) ∧ w' = w := by
  obtain ⟨a, c, hblk, hlc, ho⟩ := h.form
  obtain ⟨⟨k0, k1, k2⟩, hbl, f1, f2⟩ := ey_cells hblk
  have g : (er == 0) = false := by simpa using he
  go_enter Tryd.func110, Tryd.ntmps110
  go_wp2_with fail
  go_loopw [3, 4, 5] (fun nv fv iv wr => iv = .int .i64 0 ∧ nv = .int .i64 0 ∧ fv = .int .i64 1 ∧ wr = w) (fun _ _ iv _ => 4 - (RowKit.intOf iv).toNat)
  case atStart => exact ⟨rfl, rfl, rfl, rfl⟩
  case round =>
    obtain ⟨rfl, rfl, rfl, rfl⟩ := hrel
    go_wp2_with fail
    go_ret
    exact ⟨rfl, rfl⟩

theorem enum_any (w : World) (B b : Nat) (l0 : List Nat) (st : Except Int (List Nat)) (h : EySt w B b l0 st) :
    Calls Tryd.prog 110 #[.pointer (some ⟨b, 0, none⟩)] w fun r w' => ∃ n : Nat, r = .returned (.int .i64 (n : Int)) ∧ n < 268435456 ∧ EySt w' B b l0 (rest (andR st numP)) ∧ (∀ x, andR st numP = .ok x → x.1 = n) ∧ (∀ e, andR st numP = .error e → n = 0) ∧ Chg (fun k => k = b) w w' := by
  cases h with
  | ok h => exact enum_ok w B b l0 _ h
  | bad he h =>
    refine (enum_bad w B b l0 _ he h).mono ?_
    rintro r w' ⟨rfl, rfl⟩
    exact ⟨0, rfl, by omega, .bad he h, fun x hx => (by cases hx), fun _ _ => rfl, Chg.refl _ _⟩

/-- 'y.b[i : i + n]' -/
theorem cut_mid (a : Option Addr) (L c i n : Nat) (hn : i + n ≤ L) (hc : L ≤ c) (z : Int) (hz : z = (i : Int)) :
    ∀ wx : World, (Instr.slice 75 (.slice a L c) (some (.int .i64 z)) (some (.int .i64 ((i : Int) + (n : Int)))) none).run Tryd.prog wx = .ok (.slice (if c = i then a else a.map (·.add i)) n (c - i)) wx := by
  have e : Tryd.prog.underlying 75 = some (.slice (Tryd.prog.elem 75)) := by kernel_rfl
  have hs : ∀ wx, (sizeOf (Tryd.prog.elem 75)).run Tryd.prog wx = .ok 1 wx := fun wx => by kernel_rfl
  subst hz
  intro wx
  rw [run_slice_lh wx 75 a L c e .i64 .i64 (i : Int) ((i : Int) + (n : Int)) (by omega) (by omega) (by omega), hs]
  have h1 : ((i : Int) + (n : Int)).toNat = i + n := by omega
  simp [Result.andThen, sliced, h1]

set_option maxRecDepth 100000 in
set_option maxHeartbeats 2000000 in
theorem estr_any (w : World) (B b : Nat) (l0 : List Nat) (st : Except Int (List Nat)) (h : EySt w B b l0 st) :
    Calls Tryd.prog 123 #[.pointer (some ⟨b, 0, none⟩)] w fun r w' => ∃ s : ByteArray, r = .returned (.string s) ∧ EySt w' B b l0 (rest (andR st textP)) ∧ (∀ x, andR st textP = .ok x → x.1 = s) ∧ s.size ≤ 1000000 ∧ Chg (fun k => k = b) w w' := by
  have cN := enum_any w B b l0 st h
  have key : andR st textP = match andR st numP with | .ok x => if x.1 ≤ x.2.length then .ok (bstr (x.2.take x.1), x.2.drop x.1) else .error 5 | .error e => .error e := by cases st <;> rfl
  obtain ⟨R2, hR2⟩ : ∃ R2, R2 = andR st textP := ⟨_, rfl⟩
  rw [← hR2]
  have HK : Hid (R2 = match andR st numP with | .ok x => if x.1 ≤ x.2.length then .ok (bstr (x.2.take x.1), x.2.drop x.1) else .error 5 | .error e => .error e) := hR2.trans key
  clear key hR2
  generalize andR st numP = R at *
  go_enter Tryd.func123, Tryd.ntmps123
  go_wp2_with fail
  refine cN.mono ?_
  rintro r w1 ⟨n, rfl, hn, hst, hx, hx0, hcc⟩
  clear cN h
  have hey : ∃ i er, EyAt w1 B b l0 i er ∧ (er = 0 ∧ R = .ok (n, l0.drop i) ∨ er ≠ 0 ∧ R = .error er ∧ i = l0.length ∧ n = 0) := by
    cases R with
    | ok y =>
      obtain ⟨m, l'⟩ := y
      obtain rfl : m = n := hx _ rfl
      cases hst with
      | ok h => exact ⟨_, 0, h, .inl ⟨rfl, rfl⟩⟩
    | error e =>
      cases hst with
      | bad he h => exact ⟨_, e, h, .inr ⟨he, rfl, rfl, hx0 e rfl⟩⟩
  obtain ⟨i, er, hey, hcase⟩ := hey
  clear hst hx hx0
  have hm := hey.many
  have hle := hey.le
  obtain ⟨a9, c9, hblk, hlc, ho⟩ := hey.form
  obtain ⟨⟨k0, k1, k2⟩, hbl, f1, f2⟩ := ey_cells hblk
  go_wp2_with fail
  go_quiet (fail)
  replace hcc : Chg (fun k => k = b) w (w1.drewN nq) := chg_drewN hcc nq
  replace hey : EyAt (w1.drewN nq) B b l0 i er := hey.chg (chg_drewN (Chg.refl (fun _ => False) w1) nq) (fun _ h => h.elim)
  clear k0 k1 k2 f1 f2 hblk hbl
  generalize w1.drewN nq = w2 at *
  obtain ⟨a9, c9, hblk, hlc, ho⟩ := hey.form
  obtain ⟨⟨k0, k1, k2⟩, hbl, f1, f2⟩ := ey_cells hblk
  by_cases hnl : n ≤ l0.length - i
  · have g1 : ¬ (l0.length : Int) - (i : Int) < (n : Int) := by omega
    obtain ⟨hey1, hch1⟩ := hey.seek (i + n) (by omega)
    have e1 : ((i + n : Nat) : Int) = (i : Int) + (n : Int) := by omega
    have HI : Hid (((i + n : Nat) : Int) = (i : Int) + (n : Int)) := e1
    rw [e1] at hch1
    have HE1' : EyAt (w2.setCell ⟨b, 1, none⟩ (.int .i64 ((i : Int) + (n : Int)))) B b l0 (i + n) er := by rw [← e1]; exact hey1
    replace hcc := hcc.trans hch1 (fun _ _ h => h)
    clear hey1 hch1 e1
    go_wp2_with fail
    clear k0 k1 k2 f1 f2 hblk hbl hlc ho hey
    generalize (w2.setCell ⟨b, 1, none⟩ (.int .i64 ((i : Int) + (n : Int)))) = w3 at *
    obtain ⟨a3, c3, hblk, hlc, ho⟩ := HE1'.form
    rw [HI.out] at hblk
    obtain ⟨⟨k0, k1, k2⟩, hbl, f1, f2⟩ := ey_cells hblk
    have hcut := cut_mid a3 l0.length c3 i n (by omega) hlc (IntKind.i64.wrap (i : Int)) (by rw [IntKind.wrap_i64]; omega)
    have hb3 := HE1'.base
    have hoc := oct_take (oct_drop ho hlc i) n
    have hlt : ((l0.drop i).take n).length = n := by rw [List.length_take, List.length_drop]; omega
    have hcv : ∀ m, (convert 75 9 (.slice (if c3 = i then a3 else a3.map (·.add i)) n (c3 - i))).run Tryd.prog (w3.drewN m) = .ok (.string (bstr ((l0.drop i).take n))) (w3.drewN m) := fun m => by
      have := conv_oct (hoc.chg (chg_drewN (Chg.refl (fun _ => False) w3) m) hb3.2 (fun _ h => h.elim)) (c3 - i)
      rw [hlt] at this
      exact this
    generalize (if c3 = i then a3 else a3.map (·.add i)) = a4 at *
    have HLT : Hid (((l0.drop i).take n).length = n) := hlt
    clear hlt hoc
    have s1 : (i : Int) ≤ (i : Int) + (n : Int) := by omega
    have s2 : (i : Int) + (n : Int) ≤ (l0.length : Int) := by omega
    have s3 : (i : Int) + (n : Int) - (n : Int) = (i : Int) := by omega
    go_quiet (fail)
    replace hcc : Chg (fun k => k = b) w (w3.drewN nq) := chg_drewN hcc nq
    have hey3 : EyAt (w3.drewN nq) B b l0 (i + n) er := HE1'.chg (chg_drewN (Chg.refl (fun _ => False) w3) nq) (fun _ h => h.elim)
    clear k0 k1 k2 f1 f2 hblk hbl hcv hcut
    generalize w3.drewN nq = w4 at *
    go_wp2_with fail
    go_ret
    have hfin : EySt w4 B b l0 (rest R2) ∧ ∀ x, R2 = Except.ok x → x.1 = bstr ((l0.drop i).take n) := by
      rcases hcase with ⟨rfl, rfl⟩ | ⟨he, rfl, rfl, rfl⟩
      · have e2 : R2 = .ok (bstr ((l0.drop i).take n), (l0.drop i).drop n) := by
          rw [HK.out]
          show (if n ≤ (l0.drop i).length then _ else _) = _
          rw [if_pos (by rw [List.length_drop]; omega)]
        rw [e2, List.drop_drop]
        exact ⟨.ok hey3, fun x hx => by cases hx; rfl⟩
      · have e2 : R2 = .error er := HK.out
        rw [e2]
        exact ⟨.bad he hey3, fun x hx => by cases hx⟩
    exact ⟨_, rfl, hfin.1, hfin.2, by rw [bstr_size, HLT.out]; omega, hcc⟩
  · have g1 : (l0.length : Int) - (i : Int) < (n : Int) := by omega
    have hok : er = 0 ∧ R = .ok (n, l0.drop i) := by
      rcases hcase with h | ⟨_, _, _, h⟩
      · exact h
      · omega
    obtain ⟨rfl, rfl⟩ := hok
    have HN : Hid (R2 = .error 5) := by
      show _ = _
      rw [HK.out]
      show (if n ≤ (l0.drop i).length then _ else _) = _
      rw [if_neg (by rw [List.length_drop]; omega)]
    have cS := stop_any w2 B b l0 i 0 5 hey
    rw [if_pos rfl] at cS
    clear HK hcase
    go_wp2_with fail
    refine cS.mono ?_
    rintro r w3 ⟨rfl, hr3, hc3⟩
    go_wp2_with fail
    go_ret
    exact ⟨⟨#[]⟩, rfl, by rw [HN.out]; exact .bad (by decide) hr3, (by first | exact fun y hy => (by rw [HN.out] at hy; cases hy) | exact fun y l hy => (by rw [HN.out] at hy; cases hy)), by decide, hcc.trans hc3 (fun _ _ h => h)⟩

end Go.Proofs.YtknjnfknalfbdaaDoor
