/-
  Walks: wherryref.eye: stop, num.
-/
import Derived.Test.YtknjnfknalfbdaaDoorWireText
namespace Go.Proofs.YtknjnfknalfbdaaDoor
open Go.RowKit Go.Lib

theorem chg_drewN {F : Nat → Prop} {a w : World} (h : Chg F a w) (n : Nat) : Chg F a (w.drewN n) := ⟨h.os, h.tape, h.output, h.size, h.block⟩
/-- an eye on bytes -/
structure EyAt (w : World) (B b : Nat) (l0 : List Nat) (i : Nat) (er : Int) : Prop where
  form : ∃ a c, w.heap[b]? = some (.cells #[.slice a l0.length c, .int .i64 (i : Int), .int .i64 er] 165 (0, 0)) ∧ l0.length ≤ c ∧ Oct w B b a l0
  base : b < B ∧ B ≤ w.heap.size
  bytes : ∀ x ∈ l0, x < 256
  many : l0.length ≤ 1000000
  le : i ≤ l0.length
theorem ey_cells {w : World} {b : Nat} {x0 x1 x2 : Value} (h : w.heap[b]? = some (.cells #[x0, x1, x2] 165 (0, 0))) : (w.cell? ⟨b, 0, none⟩ = some x0 ∧ w.cell? ⟨b, 1, none⟩ = some x1 ∧ w.cell? ⟨b, 2, none⟩ = some x2) ∧ b < w.heap.size ∧ w.frozen? ⟨b, 1, none⟩ = false ∧ w.frozen? ⟨b, 2, none⟩ = false :=
  ⟨⟨by rw [cell_of_row _ _ _ _ _ _ h]; rfl, by rw [cell_of_row _ _ _ _ _ _ h]; rfl, by rw [cell_of_row _ _ _ _ _ _ h]; rfl⟩, (Array.getElem?_eq_some_iff.1 h).1, by simp [World.frozen?, h], by simp [World.frozen?, h]⟩
theorem EyAt.chg {F : Nat → Prop} {w w' : World} {B b : Nat} {l : List Nat} {i : Nat} {er : Int} (h : EyAt w B b l i er) (hc : Chg F w w') (hF : ∀ k, F k → B ≤ k) : EyAt w' B b l i er := by
  obtain ⟨a, c, hb, hlc, ho⟩ := h.form
  have h1 := h.base
  exact ⟨⟨a, c, (hc.block b (by omega) (fun h => by have := hF b h; omega)).trans hb, hlc, ho.chg hc h1.2 (fun k hk => .inr (hF k hk))⟩, ⟨h1.1, Nat.le_trans h1.2 hc.size⟩, h.bytes, h.many, h.le⟩
/-- 'y.at = j' -/
theorem EyAt.seek {w : World} {B b : Nat} {l : List Nat} {i : Nat} {er : Int} (h : EyAt w B b l i er) (j : Nat) (hj : j ≤ l.length) : EyAt (w.setCell ⟨b, 1, none⟩ (.int .i64 (j : Int))) B b l j er ∧ Chg (fun k => k = b) w (w.setCell ⟨b, 1, none⟩ (.int .i64 (j : Int))) := by
  obtain ⟨a, c, hb, hc, ho⟩ := h.form
  have hch : Chg (fun k => k = b) w (w.setCell ⟨b, 1, none⟩ (.int .i64 (j : Int))) := (Chg.refl (fun k => k = b) w).setCell (p := ⟨b, 1, none⟩) rfl _
  exact ⟨⟨⟨a, c, by rw [heap_setCell_same w b 1 _ _ _ hb]; rfl, hc, ho.chg hch h.base.2 (fun _ h => .inl h)⟩, ⟨h.base.1, Nat.le_trans h.base.2 hch.size⟩, h.bytes, h.many, hj⟩, hch⟩
/-- 'y.e = e' -/
theorem EyAt.wrong {w : World} {B b : Nat} {l : List Nat} {i : Nat} {er : Int} (h : EyAt w B b l i er) (e : Int) : EyAt (w.setCell ⟨b, 2, none⟩ (.int .i64 e)) B b l i e ∧ Chg (fun k => k = b) w (w.setCell ⟨b, 2, none⟩ (.int .i64 e)) := by
  obtain ⟨a, c, hb, hc, ho⟩ := h.form
  have hch : Chg (fun k => k = b) w (w.setCell ⟨b, 2, none⟩ (.int .i64 e)) := (Chg.refl (fun k => k = b) w).setCell (p := ⟨b, 2, none⟩) rfl _
  exact ⟨⟨⟨a, c, by rw [heap_setCell_same w b 2 _ _ _ hb]; rfl, hc, ho.chg hch h.base.2 (fun _ h => .inl h)⟩, ⟨h.base.1, Nat.le_trans h.base.2 hch.size⟩, h.bytes, h.many, h.le⟩, hch⟩

set_option maxRecDepth 100000 in
set_option maxHeartbeats 1000000 in
theorem stop_any (w : World) (B b : Nat) (l : List Nat) (i : Nat) (er e : Int) (h : EyAt w B b l i er) :
    Calls Tryd.prog 122 #[.pointer (some ⟨b, 0, none⟩), .int .i64 e] w fun r w' => r = .returned (.tuple #[]) ∧ EyAt w' B b l l.length (if er = 0 then e else er) ∧ Chg (fun k => k = b) w w' := by
  obtain ⟨a, c, hb, hc, ho⟩ := h.form
  obtain ⟨⟨k0, k1, k2⟩, hl, f1, f2⟩ := ey_cells hb
  by_cases h0 : er = 0
  · subst h0
    rw [if_pos rfl]
    obtain ⟨m1, m2⟩ := h.wrong e
    obtain ⟨a', c', hb', _, _⟩ := m1.form
    obtain ⟨m3, m4⟩ := m1.seek l.length (Nat.le_refl _)
    have hcc := m2.trans m4 (fun _ _ h => h)
    clear hb' 
    go_enter Tryd.func122, Tryd.ntmps122
    go_wp2_with fail
    go_end0
    exact ⟨rfl, m3, hcc⟩
  · have g : (er == 0) = false := by simpa using h0
    rw [if_neg h0]
    obtain ⟨m3, m4⟩ := h.seek l.length (Nat.le_refl _)
    go_enter Tryd.func122, Tryd.ntmps122
    go_wp2_with fail
    go_end0
    exact ⟨rfl, m3, m4⟩

/-- an eye's state: what is left, or what was wrong -/
inductive EySt (w : World) (B b : Nat) (l0 : List Nat) : Except Int (List Nat) → Prop where
  | ok {i : Nat} (h : EyAt w B b l0 i 0) : EySt w B b l0 (.ok (l0.drop i))
  | bad {e : Int} (he : e ≠ 0) (h : EyAt w B b l0 l0.length e) : EySt w B b l0 (.error e)
theorem EySt.chg {F : Nat → Prop} {w w' : World} {B b : Nat} {l0 : List Nat} {st : Except Int (List Nat)} (h : EySt w B b l0 st) (hc : Chg F w w') (hF : ∀ k, F k → B ≤ k) : EySt w' B b l0 st := by
  cases h with
  | ok h => exact .ok (h.chg hc hF)
  | bad he h => exact .bad he (h.chg hc hF)

set_option maxRecDepth 100000 in
set_option maxHeartbeats 4000000 in
theorem enum_ok (w : World) (B b : Nat) (l0 : List Nat) (i0 : Nat) (h : EyAt w B b l0 i0 0) :
    Calls Tryd.prog 110 #[.pointer (some ⟨b, 0, none⟩)] w fun r w' => ∃ n : Nat, r = .returned (.int .i64 (n : Int)) ∧ n < 268435456 ∧ EySt w' B b l0 (rest (numP (l0.drop i0))) ∧ (∀ x, numP (l0.drop i0) = .ok x → x.1 = n) ∧ (∀ e, numP (l0.drop i0) = .error e → n = 0) ∧ Chg (fun k => k = b) w w' := by
  obtain ⟨R, hR⟩ : ∃ R, R = numP (l0.drop i0) := ⟨_, rfl⟩
  have HR : Hid (R = numGo (4 - 0) 0 0 (l0.drop i0)) := hR
  rw [← hR]
  clear hR
  go_enter Tryd.func110, Tryd.ntmps110
  go_wp2_with fail
  go_loopw [3, 4, 5] (fun nv fv iv wr => ∃ (j acc i' : Nat), j ≤ 3 ∧ iv = .int .i64 (j : Int) ∧ nv = .int .i64 (acc : Int) ∧ fv = .int .i64 ((128 ^ j : Nat) : Int) ∧ acc < 128 ^ j ∧ Hid (R = numGo (4 - j) j acc (l0.drop i')) ∧ EyAt wr B b l0 i' 0 ∧ Chg (fun k => k = b) w wr) (fun _ _ iv _ => 4 - (RowKit.intOf iv).toNat)
  case atStart => exact ⟨0, 0, i0, by omega, rfl, rfl, rfl, by simp, HR, h, Chg.refl _ _⟩
  case round =>
    obtain ⟨j, acc, i', hj, rfl, rfl, rfl, hacc, HJ, hey, hch⟩ := hrel
    clear h HR
    have hm := hey.many
    have hle := hey.le
    obtain ⟨a, c, hblk, hlc, ho⟩ := hey.form
    obtain ⟨⟨k0, k1, k2⟩, hbl, f1, f2⟩ := ey_cells hblk
    have hjz : (j : Int) < 4 := by omega
    go_wp2_with fail
    go_quiet (fail)
    replace hch : Chg (fun k => k = b) w (wr.drewN nq) := chg_drewN hch nq
    replace hey : EyAt (wr.drewN nq) B b l0 i' 0 := hey.chg (chg_drewN (Chg.refl (fun _ => False) wr) nq) (fun _ h => h.elim)
    clear k0 k1 k2 f1 f2 hblk ho hbl
    generalize wr.drewN nq = wq at *
    obtain ⟨a, c, hblk, hlc, ho⟩ := hey.form
    obtain ⟨⟨k0, k1, k2⟩, hbl, f1, f2⟩ := ey_cells hblk
    by_cases hil : i' < l0.length
    · have hx256 := hey.bytes _ (List.getElem_mem hil)
      have hst : R = if l0[i'] < 128 then (if l0[i'] = 0 ∧ 0 < j then .error 4 else .ok (acc + l0[i'] * 128 ^ j, l0.drop (i' + 1))) else numGo (4 - (j + 1)) (j + 1) (acc + l0[i'] % 128 * 128 ^ j) (l0.drop (i' + 1)) := by
        rw [HJ.out, List.drop_eq_getElem_cons hil]
        obtain ⟨m, hm⟩ : ∃ m, 4 - j = m + 1 := ⟨3 - j, by omega⟩
        rw [hm, show 4 - (j + 1) = m by omega]; rfl
      rcases ho with h0 | ⟨g, off, rfl, hg, hgl, hcell⟩
      · rw [h0] at hil; simp at hil
      · have hx0 := hcell i' hil
        clear hcell
        generalize l0[i'] = x at *
        have g1 : ¬ (l0.length : Int) ≤ (i' : Int) := by omega
        have g2 : (i' : Int) < (l0.length : Int) := by omega
        have g3 : (0 : Int) ≤ (i' : Int) := by omega
        go_wp2_with fail
        go_quiet (fail)
        replace hch : Chg (fun k => k = b) w (wq.drewN nq) := chg_drewN hch nq
        replace hey : EyAt (wq.drewN nq) B b l0 i' 0 := hey.chg (chg_drewN (Chg.refl (fun _ => False) wq) nq) (fun _ h => h.elim)
        clear k0 k1 k2 f1 f2 hblk hbl hx0
        generalize wq.drewN nq = wp at *
        obtain ⟨a9, c9, hblk, _, _⟩ := hey.form
        obtain ⟨⟨k0, k1, k2⟩, hbl, f1, f2⟩ := ey_cells hblk
        obtain ⟨hey1, hch1⟩ := hey.seek (i' + 1) (by omega)
        have e1 : ((i' + 1 : Nat) : Int) = (i' : Int) + 1 := by omega
        rw [e1] at hey1 hch1
        have hcc := hch.trans hch1 (fun _ _ h => h)
        clear HJ hch hch1 e1 hblk
        have cS := fun e => stop_any _ B b l0 (i' + 1) 0 e hey1
        simp only [if_true] at cS
        have hcase : j = 0 ∨ j = 1 ∨ j = 2 ∨ j = 3 := by omega
        rcases hcase with rfl | rfl | rfl | rfl
        · rw [show (128 : Nat) ^ 0 = 1 from rfl] at hst hacc
          by_cases hx : x < 128
          · have hxz : (x : Int) < 128 := by omega
            have hxz2 : ¬ (127 : Int) < (x : Int) := by omega
            by_cases hx0' : x = 0
            · subst hx0'
              have HN : Hid (R = .ok (acc + 0 * 1, l0.drop (i' + 1))) := by show _ = _; rw [hst, if_pos hx, if_neg (by omega)]
              clear hst cS
              go_wp2_with fail
              go_ret
              exact ⟨acc + 0 * 1, ret_eq (by omega), by omega, by rw [HN.out]; exact .ok hey1, (by first | exact fun y hy => (by rw [HN.out] at hy; cases hy; rfl) | exact fun y l hy => (by rw [HN.out] at hy; cases hy; rfl)), fun e he => (by rw [HN.out] at he; cases he), hcc⟩
            · have hxn : ((x : Int) == 0) = false := by simp; omega
              have HN : Hid (R = .ok (acc + x * 1, l0.drop (i' + 1))) := by show _ = _; rw [hst, if_pos hx, if_neg (by omega)]
              clear hst cS
              go_wp2_with fail
              go_ret
              exact ⟨acc + x * 1, ret_eq (by omega), by omega, by rw [HN.out]; exact .ok hey1, (by first | exact fun y hy => (by rw [HN.out] at hy; cases hy; rfl) | exact fun y l hy => (by rw [HN.out] at hy; cases hy; rfl)), fun e he => (by rw [HN.out] at he; cases he), hcc⟩
          · have hxz : ¬ (x : Int) < 128 := by omega
            have hxz2 : (127 : Int) < (x : Int) := by omega
            have hxn : ((x : Int) == 0) = false := by simp; omega
            have HN : Hid (R = numGo (4 - (0 + 1)) (0 + 1) (acc + x % 128 * 1) (l0.drop (i' + 1))) := by show _ = _; rw [hst, if_neg hx]
            clear hst cS
            go_wp2_with fail
            refine ⟨⟨1, acc + x % 128 * 1, i' + 1, by omega, rfl, val_eq (by omega), rfl, by rw [show (128 : Nat) ^ 1 = 128 from rfl]; omega, HN, hey1, hcc⟩, by decide⟩
        · rw [show (128 : Nat) ^ 1 = 128 from rfl] at hst hacc
          by_cases hx : x < 128
          · have hxz : (x : Int) < 128 := by omega
            have hxz2 : ¬ (127 : Int) < (x : Int) := by omega
            by_cases hx0' : x = 0
            · subst hx0'
              have HN : Hid (R = .error 4) := by show _ = _; rw [hst, if_pos hx, if_pos (by omega)]
              clear hst
              go_wp2_with fail
              refine (cS 4).mono ?_
              rintro r w2 ⟨rfl, hr2, hch2⟩
              go_wp2_with fail
              go_ret
              exact ⟨0, rfl, by omega, by rw [HN.out]; exact .bad (by decide) hr2, (by first | exact fun y hy => (by rw [HN.out] at hy; cases hy) | exact fun y l hy => (by rw [HN.out] at hy; cases hy)), fun _ _ => rfl, hcc.trans hch2 (fun _ _ h => h)⟩
            · have hxn : ((x : Int) == 0) = false := by simp; omega
              have HN : Hid (R = .ok (acc + x * 128, l0.drop (i' + 1))) := by show _ = _; rw [hst, if_pos hx, if_neg (by omega)]
              clear hst cS
              go_wp2_with fail
              go_ret
              exact ⟨acc + x * 128, ret_eq (by omega), by omega, by rw [HN.out]; exact .ok hey1, (by first | exact fun y hy => (by rw [HN.out] at hy; cases hy; rfl) | exact fun y l hy => (by rw [HN.out] at hy; cases hy; rfl)), fun e he => (by rw [HN.out] at he; cases he), hcc⟩
          · have hxz : ¬ (x : Int) < 128 := by omega
            have hxz2 : (127 : Int) < (x : Int) := by omega
            have hxn : ((x : Int) == 0) = false := by simp; omega
            have HN : Hid (R = numGo (4 - (1 + 1)) (1 + 1) (acc + x % 128 * 128) (l0.drop (i' + 1))) := by show _ = _; rw [hst, if_neg hx]
            clear hst cS
            go_wp2_with fail
            refine ⟨⟨2, acc + x % 128 * 128, i' + 1, by omega, rfl, val_eq (by omega), rfl, by rw [show (128 : Nat) ^ 2 = 16384 from rfl]; omega, HN, hey1, hcc⟩, by decide⟩
        · rw [show (128 : Nat) ^ 2 = 16384 from rfl] at hst hacc
          by_cases hx : x < 128
          · have hxz : (x : Int) < 128 := by omega
            have hxz2 : ¬ (127 : Int) < (x : Int) := by omega
            by_cases hx0' : x = 0
            · subst hx0'
              have HN : Hid (R = .error 4) := by show _ = _; rw [hst, if_pos hx, if_pos (by omega)]
              clear hst
              go_wp2_with fail
              refine (cS 4).mono ?_
              rintro r w2 ⟨rfl, hr2, hch2⟩
              go_wp2_with fail
              go_ret
              exact ⟨0, rfl, by omega, by rw [HN.out]; exact .bad (by decide) hr2, (by first | exact fun y hy => (by rw [HN.out] at hy; cases hy) | exact fun y l hy => (by rw [HN.out] at hy; cases hy)), fun _ _ => rfl, hcc.trans hch2 (fun _ _ h => h)⟩
            · have hxn : ((x : Int) == 0) = false := by simp; omega
              have HN : Hid (R = .ok (acc + x * 16384, l0.drop (i' + 1))) := by show _ = _; rw [hst, if_pos hx, if_neg (by omega)]
              clear hst cS
              go_wp2_with fail
              go_ret
              exact ⟨acc + x * 16384, ret_eq (by omega), by omega, by rw [HN.out]; exact .ok hey1, (by first | exact fun y hy => (by rw [HN.out] at hy; cases hy; rfl) | exact fun y l hy => (by rw [HN.out] at hy; cases hy; rfl)), fun e he => (by rw [HN.out] at he; cases he), hcc⟩
          · have hxz : ¬ (x : Int) < 128 := by omega
            have hxz2 : (127 : Int) < (x : Int) := by omega
            have hxn : ((x : Int) == 0) = false := by simp; omega
            have HN : Hid (R = numGo (4 - (2 + 1)) (2 + 1) (acc + x % 128 * 16384) (l0.drop (i' + 1))) := by show _ = _; rw [hst, if_neg hx]
            clear hst cS
            go_wp2_with fail
            refine ⟨⟨3, acc + x % 128 * 16384, i' + 1, by omega, rfl, val_eq (by omega), rfl, by rw [show (128 : Nat) ^ 3 = 2097152 from rfl]; omega, HN, hey1, hcc⟩, by decide⟩
        · rw [show (128 : Nat) ^ 3 = 2097152 from rfl] at hst hacc
          by_cases hx : x < 128
          · have hxz : (x : Int) < 128 := by omega
            have hxz2 : ¬ (127 : Int) < (x : Int) := by omega
            by_cases hx0' : x = 0
            · subst hx0'
              have HN : Hid (R = .error 4) := by show _ = _; rw [hst, if_pos hx, if_pos (by omega)]
              clear hst
              go_wp2_with fail
              refine (cS 4).mono ?_
              rintro r w2 ⟨rfl, hr2, hch2⟩
              go_wp2_with fail
              go_ret
              exact ⟨0, rfl, by omega, by rw [HN.out]; exact .bad (by decide) hr2, (by first | exact fun y hy => (by rw [HN.out] at hy; cases hy) | exact fun y l hy => (by rw [HN.out] at hy; cases hy)), fun _ _ => rfl, hcc.trans hch2 (fun _ _ h => h)⟩
            · have hxn : ((x : Int) == 0) = false := by simp; omega
              have HN : Hid (R = .ok (acc + x * 2097152, l0.drop (i' + 1))) := by show _ = _; rw [hst, if_pos hx, if_neg (by omega)]
              clear hst cS
              go_wp2_with fail
              go_ret
              exact ⟨acc + x * 2097152, ret_eq (by omega), by omega, by rw [HN.out]; exact .ok hey1, (by first | exact fun y hy => (by rw [HN.out] at hy; cases hy; rfl) | exact fun y l hy => (by rw [HN.out] at hy; cases hy; rfl)), fun e he => (by rw [HN.out] at he; cases he), hcc⟩
          · have hxz : ¬ (x : Int) < 128 := by omega
            have hxz2 : (127 : Int) < (x : Int) := by omega
            have hxn : ((x : Int) == 0) = false := by simp; omega
            have HN : Hid (R = .error 4) := by show _ = _; rw [hst, if_neg hx]; show numGo 0 _ _ _ = _; rw [numGo]
            clear hst
            go_wp2_with fail
            refine (cS 4).mono ?_
            rintro r w2 ⟨rfl, hr2, hch2⟩
            go_wp2_with fail
            go_ret
            exact ⟨0, rfl, by omega, by rw [HN.out]; exact .bad (by decide) hr2, (by first | exact fun y hy => (by rw [HN.out] at hy; cases hy) | exact fun y l hy => (by rw [HN.out] at hy; cases hy)), fun _ _ => rfl, hcc.trans hch2 (fun _ _ h => h)⟩
    · obtain rfl : i' = l0.length := by omega
      have HN : Hid (R = .error 5) := by
        show _ = _
        rw [HJ.out, List.drop_of_length_le (Nat.le_refl _)]
        obtain ⟨m, hm⟩ : ∃ m, 4 - j = m + 1 := ⟨3 - j, by omega⟩
        rw [hm]; rfl
      have cS := stop_any wq B b l0 l0.length 0 5 hey
      rw [if_pos rfl] at cS
      clear HJ
      go_wp2_with fail
      refine cS.mono ?_
      rintro r w1 ⟨rfl, hr1, hc1⟩
      go_wp2_with fail
      go_ret
      exact ⟨0, rfl, by omega, by rw [HN.out]; exact .bad (by decide) hr1, (by first | exact fun y hy => (by rw [HN.out] at hy; cases hy) | exact fun y l hy => (by rw [HN.out] at hy; cases hy)), fun _ _ => rfl, hch.trans hc1 (fun _ _ h => h)⟩

end Go.Proofs.YtknjnfknalfbdaaDoor
