/-
  Walk: wire.reader.number.
-/
import Derived.Test.YtknjnfknalfbdaaDoorWireRead
namespace Go.Proofs.YtknjnfknalfbdaaDoor
open Go.RowKit Go.Lib

/-- a number, digit by digit: how many digits it may still have, the digit's place, what is there so far -/
def numGo : Nat → Nat → Nat → List Nat → Except Int (Nat × List Nat)
  | 0, _, _, _ => .error 4
  | _ + 1, _, _, [] => .error 5
  | k + 1, i, acc, x :: l => if x < 128 then (if x = 0 ∧ 0 < i then .error 4 else .ok (acc + x * 128 ^ i, l)) else numGo k (i + 1) (acc + x % 128 * 128 ^ i) l
/-- P3.4: a number, read -/
def numP (l : List Nat) : Except Int (Nat × List Nat) := numGo 4 0 0 l

theorem val_eq {a b : Int} (h : a = b) : Value.int .i64 a = .int .i64 b := by rw [h]
theorem ret_eq {a b : Int} (h : a = b) : Ending.returned (.int .i64 a) = .returned (.int .i64 b) := by rw [h]

/-- a reader's state: what is left, or what was wrong -/
inductive RdSt (w : World) (B b : Nat) : Except Int (List Nat) → Prop where
  | ok {l : List Nat} (h : RdAt w B b l 0) : RdSt w B b (.ok l)
  | bad {l : List Nat} {e : Int} (he : e ≠ 0) (h : RdAt w B b l e) : RdSt w B b (.error e)
/-- what is left behind a reading -/
def rest {α : Type} (r : Except Int (α × List Nat)) : Except Int (List Nat) := match r with
  | .ok x => .ok x.2
  | .error e => .error e

set_option maxRecDepth 100000 in
set_option maxHeartbeats 2000000 in
theorem number_ok (w : World) (B b : Nat) (l : List Nat) (h : RdAt w B b l 0) :
    Calls Tryd.prog 133 #[.pointer (some ⟨b, 0, none⟩)] w fun r w' => ∃ n : Nat, r = .returned (.int .i64 (n : Int)) ∧ n < 268435456 ∧ RdSt w' B b (rest (numP l)) ∧ (∀ x, numP l = .ok x → x.1 = n) ∧ Chg (fun k => k = b) w w' := by
  obtain ⟨R, hR⟩ : ∃ R, R = numP l := ⟨_, rfl⟩
  have HR : Hid (R = numGo (4 - 0) 0 0 l) := hR
  rw [← hR]
  clear hR
  go_enter Tryd.func133, Tryd.ntmps133
  go_wp2_with fail
  go_loopw [3, 6] (fun n i wr => ∃ (j acc : Nat) (l' : List Nat), j ≤ 4 ∧ i = .int .i64 (j : Int) ∧ n = .int .i64 (acc : Int) ∧ acc < 128 ^ j ∧ Hid (R = numGo (4 - j) j acc l') ∧ RdAt wr B b l' 0 ∧ Chg (fun k => k = b) w wr) (fun _ i _ => 4 - (RowKit.intOf i).toNat)
  case atStart => exact ⟨0, 0, l, by omega, rfl, rfl, by simp, HR, h, Chg.refl _ _⟩
  case round =>
    obtain ⟨j, acc, l', hj, rfl, rfl, hacc, HJ, hrd, hch⟩ := hrel
    clear h HR
    by_cases hj4 : j < 4
    · have hjz : (j : Int) < 4 := by omega
      cases l' with
      | nil =>
        have HN : Hid (R = .error 5) := by
          show _ = _
          rw [HJ.out]
          obtain ⟨m, hm⟩ : ∃ m, 4 - j = m + 1 := ⟨3 - j, by omega⟩
          rw [hm]; rfl
        have cT := take_none wr B b [] 0 1 (.inr (by simp)) hrd
        rw [if_pos rfl] at cT
        clear HJ
        go_wp2_with fail
        refine cT.mono ?_
        rintro r w1 ⟨rfl, hr1, hc1⟩
        go_wp2_with fail
        go_ret
        exact ⟨0, rfl, by omega, by rw [HN.out]; exact .bad (by decide) hr1, fun x hx => (by rw [HN.out] at hx; cases hx), hch.trans hc1 (fun _ _ h => h)⟩
      | cons x l' =>
        have hx256 := hrd.bytes x List.mem_cons_self
        have cT := take_some wr B b (x :: l') 1 (by simp) hrd
        simp only [List.take_succ_cons, List.take_zero, List.drop_succ_cons, List.drop_zero] at cT
        have hst : R = if x < 128 then (if x = 0 ∧ 0 < j then .error 4 else .ok (acc + x * 128 ^ j, l')) else numGo (4 - (j + 1)) (j + 1) (acc + x % 128 * 128 ^ j) l' := by
          rw [HJ.out]
          obtain ⟨m, hm⟩ : ∃ m, 4 - j = m + 1 := ⟨3 - j, by omega⟩
          rw [hm, show 4 - (j + 1) = m by omega]; rfl
        clear HJ
        go_wp2_with fail
        refine cT.mono ?_
        rintro r w1 ⟨a, c, rfl, hc1, ho, hr1, hch1⟩
        rcases ho with h0 | ⟨g, off, rfl, hg, hgl, hcell⟩
        · simp at h0
        · have hx0 := hcell 0 (by simp)
          simp only [List.getElem_cons_zero, Nat.add_zero] at hx0
          clear cT hcell
          have hcase : j = 0 ∨ j = 1 ∨ j = 2 ∨ j = 3 := by omega
          rcases hcase with rfl | rfl | rfl | rfl
          · rw [show (128 : Nat) ^ 0 = 1 from rfl] at hst hacc
            by_cases hx : x < 128
            · have hxz : (x : Int) < 128 := by omega
              by_cases hx0' : x = 0
              · subst hx0'
                have HN : Hid (R = .ok (acc + 0 * 1, l')) := by show _ = _; rw [hst, if_pos hx, if_neg (by omega)]
                clear hst
                go_wp2_with fail
                go_ret
                exact ⟨acc + 0 * 1, ret_eq (by omega), by omega, by rw [HN.out]; exact .ok hr1, fun y hy => (by rw [HN.out] at hy; cases hy; rfl), hch.trans hch1 (fun _ _ h => h)⟩
              · have hxn : ((x : Int) == 0) = false := by simp; omega
                have HN : Hid (R = .ok (acc + x * 1, l')) := by show _ = _; rw [hst, if_pos hx, if_neg (by omega)]
                clear hst
                go_wp2_with fail
                go_ret
                exact ⟨acc + x * 1, ret_eq (by omega), by omega, by rw [HN.out]; exact .ok hr1, fun y hy => (by rw [HN.out] at hy; cases hy; rfl), hch.trans hch1 (fun _ _ h => h)⟩
            · have hxz : ¬ (x : Int) < 128 := by omega
              have HN : Hid (R = numGo (4 - (0 + 1)) (0 + 1) (acc + x % 128 * 1) l') := by show _ = _; rw [hst, if_neg hx]
              clear hst
              go_wp2_with fail
              refine ⟨⟨1, acc + x % 128 * 1, l', by omega, rfl, val_eq (by omega), by rw [show (128 : Nat) ^ 1 = 128 from rfl]; omega, HN, hr1, hch.trans hch1 (fun _ _ h => h)⟩, by decide⟩
          · rw [show (128 : Nat) ^ 1 = 128 from rfl] at hst hacc
            by_cases hx : x < 128
            · have hxz : (x : Int) < 128 := by omega
              by_cases hx0' : x = 0
              · subst hx0'
                have HN : Hid (R = .error 4) := by show _ = _; rw [hst, if_pos hx, if_pos (by omega)]
                have cR := refuse_any w1 B b l' 0 4 hr1
                rw [if_pos rfl] at cR
                clear hst
                go_wp2_with fail
                refine cR.mono ?_
                rintro r w2 ⟨rfl, hr2, hch2⟩
                go_wp2_with fail
                go_ret
                exact ⟨acc, ret_eq (by omega), by omega, by rw [HN.out]; exact .bad (by decide) hr2, fun y hy => (by rw [HN.out] at hy; cases hy), (hch.trans hch1 (fun _ _ h => h)).trans hch2 (fun _ _ h => h)⟩
              · have hxn : ((x : Int) == 0) = false := by simp; omega
                have HN : Hid (R = .ok (acc + x * 128, l')) := by show _ = _; rw [hst, if_pos hx, if_neg (by omega)]
                clear hst
                go_wp2_with fail
                go_ret
                exact ⟨acc + x * 128, ret_eq (by omega), by omega, by rw [HN.out]; exact .ok hr1, fun y hy => (by rw [HN.out] at hy; cases hy; rfl), hch.trans hch1 (fun _ _ h => h)⟩
            · have hxz : ¬ (x : Int) < 128 := by omega
              have HN : Hid (R = numGo (4 - (1 + 1)) (1 + 1) (acc + x % 128 * 128) l') := by show _ = _; rw [hst, if_neg hx]
              clear hst
              go_wp2_with fail
              refine ⟨⟨2, acc + x % 128 * 128, l', by omega, rfl, val_eq (by omega), by rw [show (128 : Nat) ^ 2 = 16384 from rfl]; omega, HN, hr1, hch.trans hch1 (fun _ _ h => h)⟩, by decide⟩
          · rw [show (128 : Nat) ^ 2 = 16384 from rfl] at hst hacc
            by_cases hx : x < 128
            · have hxz : (x : Int) < 128 := by omega
              by_cases hx0' : x = 0
              · subst hx0'
                have HN : Hid (R = .error 4) := by show _ = _; rw [hst, if_pos hx, if_pos (by omega)]
                have cR := refuse_any w1 B b l' 0 4 hr1
                rw [if_pos rfl] at cR
                clear hst
                go_wp2_with fail
                refine cR.mono ?_
                rintro r w2 ⟨rfl, hr2, hch2⟩
                go_wp2_with fail
                go_ret
                exact ⟨acc, ret_eq (by omega), by omega, by rw [HN.out]; exact .bad (by decide) hr2, fun y hy => (by rw [HN.out] at hy; cases hy), (hch.trans hch1 (fun _ _ h => h)).trans hch2 (fun _ _ h => h)⟩
              · have hxn : ((x : Int) == 0) = false := by simp; omega
                have HN : Hid (R = .ok (acc + x * 16384, l')) := by show _ = _; rw [hst, if_pos hx, if_neg (by omega)]
                clear hst
                go_wp2_with fail
                go_ret
                exact ⟨acc + x * 16384, ret_eq (by omega), by omega, by rw [HN.out]; exact .ok hr1, fun y hy => (by rw [HN.out] at hy; cases hy; rfl), hch.trans hch1 (fun _ _ h => h)⟩
            · have hxz : ¬ (x : Int) < 128 := by omega
              have HN : Hid (R = numGo (4 - (2 + 1)) (2 + 1) (acc + x % 128 * 16384) l') := by show _ = _; rw [hst, if_neg hx]
              clear hst
              go_wp2_with fail
              refine ⟨⟨3, acc + x % 128 * 16384, l', by omega, rfl, val_eq (by omega), by rw [show (128 : Nat) ^ 3 = 2097152 from rfl]; omega, HN, hr1, hch.trans hch1 (fun _ _ h => h)⟩, by decide⟩
          · rw [show (128 : Nat) ^ 3 = 2097152 from rfl] at hst hacc
            by_cases hx : x < 128
            · have hxz : (x : Int) < 128 := by omega
              by_cases hx0' : x = 0
              · subst hx0'
                have HN : Hid (R = .error 4) := by show _ = _; rw [hst, if_pos hx, if_pos (by omega)]
                have cR := refuse_any w1 B b l' 0 4 hr1
                rw [if_pos rfl] at cR
                clear hst
                go_wp2_with fail
                refine cR.mono ?_
                rintro r w2 ⟨rfl, hr2, hch2⟩
                go_wp2_with fail
                go_ret
                exact ⟨acc, ret_eq (by omega), by omega, by rw [HN.out]; exact .bad (by decide) hr2, fun y hy => (by rw [HN.out] at hy; cases hy), (hch.trans hch1 (fun _ _ h => h)).trans hch2 (fun _ _ h => h)⟩
              · have hxn : ((x : Int) == 0) = false := by simp; omega
                have HN : Hid (R = .ok (acc + x * 2097152, l')) := by show _ = _; rw [hst, if_pos hx, if_neg (by omega)]
                clear hst
                go_wp2_with fail
                go_ret
                exact ⟨acc + x * 2097152, ret_eq (by omega), by omega, by rw [HN.out]; exact .ok hr1, fun y hy => (by rw [HN.out] at hy; cases hy; rfl), hch.trans hch1 (fun _ _ h => h)⟩
            · have hxz : ¬ (x : Int) < 128 := by omega
              have HN : Hid (R = numGo (4 - (3 + 1)) (3 + 1) (acc + x % 128 * 2097152) l') := by show _ = _; rw [hst, if_neg hx]
              clear hst
              go_wp2_with fail
              refine ⟨⟨4, acc + x % 128 * 2097152, l', by omega, rfl, val_eq (by omega), by rw [show (128 : Nat) ^ 4 = 268435456 from rfl]; omega, HN, hr1, hch.trans hch1 (fun _ _ h => h)⟩, by decide⟩
    · obtain rfl : j = 4 := by omega
      have HN : Hid (R = .error 4) := by show _ = _; rw [HJ.out]; rfl
      clear HJ
      have cR := refuse_any wr B b l' 0 4 hrd
      rw [if_pos rfl] at cR
      go_wp2_with fail
      refine cR.mono ?_
      rintro r w1 ⟨rfl, hr1, hc1⟩
      go_wp2_with fail
      go_ret
      exact ⟨0, rfl, by omega, by rw [HN.out]; exact .bad (by decide) hr1, fun x hx => (by rw [HN.out] at hx; cases hx), hch.trans hc1 (fun _ _ h => h)⟩

end Go.Proofs.YtknjnfknalfbdaaDoor
