/-
  Walk: wherryref.opBytes.
-/
import Derived.Test.YtknjnfknalfbdaaDoorTextBytes
namespace Go.Proofs.YtknjnfknalfbdaaDoor
open Go.RowKit Go.Lib

theorem flat_take {ps : List Part} {i : Nat} (h : i < ps.length) : (ps.take (i + 1)).flatMap partW = (ps.take i).flatMap partW ++ partW ps[i] := by
  rw [List.take_add_one, List.getElem?_eq_getElem h, List.flatMap_append]
  simp
theorem flat_bound : ∀ (ps : List Part), (∀ p ∈ ps, (partW p).length ≤ 1100000) → (ps.flatMap partW).length ≤ ps.length * 1100000
  | [], _ => by simp
  | p :: ps, h => by
    rw [List.flatMap_cons, List.length_append, List.length_cons, Nat.add_mul, Nat.one_mul]
    have h1 := h p (List.mem_cons_self ..)
    have h2 := flat_bound ps (fun q hq => h q (List.mem_cons_of_mem _ hq))
    omega

theorem ob_keep {b off i : Nat} {kd nn : Nat} {tx : ByteArray} {wr w' w'' : World} (h : (fun w' => w'.cell? ⟨b, off + i * 3, none⟩ = some (.int .i64 (kd : Int)) ∧ w'.cell? ⟨b, off + i * 3 + 1, none⟩ = some (.int .i64 (nn : Int)) ∧ w'.cell? ⟨b, off + i * 3 + 2, none⟩ = some (.string tx) ∧ Below wr.heap.size wr w') w') (hb : Below w'.heap.size w' w'') (hl : b < wr.heap.size) : (fun w' => w'.cell? ⟨b, off + i * 3, none⟩ = some (.int .i64 (kd : Int)) ∧ w'.cell? ⟨b, off + i * 3 + 1, none⟩ = some (.int .i64 (nn : Int)) ∧ w'.cell? ⟨b, off + i * 3 + 2, none⟩ = some (.string tx) ∧ Below wr.heap.size wr w') w'' :=
  have hl' : b < w'.heap.size := Nat.lt_of_lt_of_le hl h.2.2.2.size
  ⟨(hb.cell (p := ⟨b, off + i * 3, none⟩) hl').trans h.1, (hb.cell (p := ⟨b, off + i * 3 + 1, none⟩) hl').trans h.2.1, (hb.cell (p := ⟨b, off + i * 3 + 2, none⟩) hl').trans h.2.2.1, below_two h.2.2.2 hb (Nat.le_refl _)⟩

theorem join3 {w0 wz wy : World} {B : Nat} {Q X Y Q2 : List Nat} (he : Hid (Q2 = Q ++ (X ++ Y))) {oa az ay : Option Addr} {oc cz cy : Nat} (hq : w0.ownsRow B 5 1 (.slice oa Q.length oc) Q.length (octs Q)) (hbz : Below w0.heap.size w0 wz) (hx : wz.ownsRow w0.heap.size 5 1 (.slice az X.length cz) X.length (octs X)) (hby : Below wz.heap.size wz wy) (hy : wy.ownsRow wz.heap.size 5 1 (.slice ay Y.length cy) Y.length (octs Y)) (hB : B ≤ w0.heap.size) (hl : Q2.length ≤ 50000000000) :
    Calls Tryd.prog 82 #[.slice (some ⟨wy.heap.size, 0, none⟩) 3 3] (wy.alloc (.cells #[.slice oa Q.length oc, .slice az X.length cz, .slice ay Y.length cy] 75)) fun r w' => ∃ a c, r = .returned (.slice a Q2.length c) ∧ w'.ownsRow B 5 1 (.slice a Q2.length c) Q2.length (octs Q2) ∧ Below w0.heap.size w0 w' := by
  have hba := (Below.refl wy.heap.size wy).alloc (Nat.le_refl _) (.cells #[.slice oa Q.length oc, .slice az X.length cz, .slice ay Y.length cy] 75)
  have h3 := heap_alloc_new wy (.cells #[.slice oa Q.length oc, .slice az X.length cz, .slice ay Y.length cy] 75)
  have hzy := below_two hbz hby (Nat.le_refl _)
  have hzb := below_two hzy hba (Nat.le_refl _)
  have g : ∀ {w : World} {B : Nat} {a : Option Addr} {l : List Nat} {c : Nat}, w.ownsRow B 5 1 (.slice a l.length c) l.length (octs l) → Bytes w a l := fun h => by
    obtain ⟨a', c', e, _, h2, _⟩ := srcB_own h
    simp only [Value.slice.injEq, true_and] at e
    obtain ⟨rfl, rfl⟩ := e
    exact h2
  have hL := lists_three h3 ((g hq).below hzb) (((g hx).below hby).below hba) ((g hy).below hba)
  have e : [Q, X, Y].flatten = Q2 := by rw [he.out]; simp
  have := joined_any [Q, X, Y] _ 3 _ hL (by rw [e]; exact hl) (by simp)
  rw [e] at this
  refine this.mono ?_
  rintro r w' ⟨v, rfl, ho, hb⟩
  obtain ⟨a, c, rfl⟩ := own_form ho
  exact ⟨a, c, rfl, own_base ho (Nat.le_trans hB hzb.size), below_two hzb hb (Nat.le_refl _)⟩

set_option maxRecDepth 100000 in
set_option maxHeartbeats 4000000 in
theorem opBytes_any (ps : List Part) (a : Option Addr) (c : Nat) (w : World) (hop : OpAt w a ps) (hps : ps.length ≤ 10000) (hpw : ∀ p ∈ ps, PartW p) (htot : (opW ps).length ≤ 50000000000) :
    Calls Tryd.prog 83 #[.slice a ps.length c] w fun r w' => ∃ v, r = .returned v ∧ w'.ownsRow w.heap.size 5 1 v (opW ps).length (octs (opW ps)) ∧ Below w.heap.size w w' := by
  have cS := sevens_any ps.length w (by omega)
  obtain ⟨R, hR⟩ : ∃ R, R = opW ps := ⟨_, rfl⟩
  rw [← hR] at htot ⊢
  have HR : Hid (R = sev ps.length ++ ps.flatMap partW) := hR
  have hrl : ∀ i, (sev ps.length ++ (ps.take i).flatMap partW).length ≤ R.length := fun i => by
    have h1 : ps.flatMap partW = (ps.take i).flatMap partW ++ (ps.drop i).flatMap partW := by rw [← List.flatMap_append, List.take_append_drop]
    rw [HR.out, h1]
    simp only [List.length_append]
    omega
  clear hR
  go_enter Tryd.func83, Tryd.ntmps83
  go_wp2_with fail
  refine cS.mono ?_
  rintro r w1 ⟨v1, rfl, hown1, hb1⟩
  clear cS
  generalize hM : sev ps.length = M at *
  clear hM
  go_wp2_with fail
  go_loopg [3, 4] ps.length (fun g ov iv wr => ∃ i : Nat, i + g = ps.length ∧ iv = .int .i64 (i : Int) ∧ wr.ownsRow w.heap.size 5 1 ov (M ++ (ps.take i).flatMap partW).length (octs (M ++ (ps.take i).flatMap partW)) ∧ Below w.heap.size w wr)
  case atStart => exact ⟨0, by omega, rfl, by simpa using hown1, hb1⟩
  case round =>
    clear hown1 hb1
    obtain ⟨i, hi, rfl, hown, hb⟩ := hrel
    obtain ⟨oa, oc, rfl⟩ := own_form hown
    by_cases hlt : i < ps.length
    · have hiz : (i : Int) < (ps.length : Int) := by omega
      have hi0 : (0 : Int) ≤ (i : Int) := by omega
      have hpi := hpw _ (List.getElem_mem hlt)
      have HS : Hid (M ++ (ps.take (i + 1)).flatMap partW = (M ++ (ps.take i).flatMap partW) ++ partW ps[i]) := by show _ = _; rw [flat_take hlt, List.append_assoc]
      have hl1 := hrl (i + 1)
      have hl0 := hrl i
      rcases hop with h0 | ⟨b, off, rfl, hbl, hc⟩
      · subst h0; simp at hlt
      · obtain ⟨q0, q1, q2⟩ := hc i hlt
        have e : ∀ j, wr.cell? ⟨b, j, none⟩ = w.cell? ⟨b, j, none⟩ := fun j => hb.cell (p := ⟨b, j, none⟩) hbl
        rw [← e] at q0 q1 q2
        rw [HS.out] at hl1
        clear hc e
        generalize ps[i] = p at *
        obtain ⟨kd, nn, tx⟩ := p
        obtain ⟨⟨k1, k2⟩, ⟨n1, n2⟩, t1⟩ := hpi
        simp only at q0 q1 q2 k1 k2 n1 n2 t1
        obtain ⟨kd, rfl⟩ : ∃ m : Nat, kd = (m : Int) := ⟨kd.toNat, by omega⟩
        obtain ⟨nn, rfl⟩ : ∃ m : Nat, nn = (m : Int) := ⟨nn.toNat, by omega⟩
        have hz := hb.size
        have hbr : b < wr.heap.size := by omega
        generalize M ++ (ps.take i).flatMap partW = Q at *
        have hS0 : (fun w' => w'.cell? ⟨b, off + i * 3, none⟩ = some (.int .i64 (kd : Int)) ∧ w'.cell? ⟨b, off + i * 3 + 1, none⟩ = some (.int .i64 (nn : Int)) ∧ w'.cell? ⟨b, off + i * 3 + 2, none⟩ = some (.string tx) ∧ Below wr.heap.size wr w') wr.drew := ⟨q0, q1, q2, ⟨rfl, rfl, rfl, Nat.le_refl _, fun _ _ => rfl⟩⟩
        by_cases h2 : kd = 2
        · have g2 : ((kd : Int) == 2) = true := by simp; omega
          have HP : Hid (partW ⟨(kd : Int), (nn : Int), tx⟩ = sev 2 ++ (sev tx.size ++ sbytes tx)) := by show _ = _; rw [h2]; unfold partW; simp
          clear h2
          rw [HP.out] at HS hl1
          have c2 := fun wx => sevens_any 2 wx (by decide)
          have cT := fun wx => textBytes_any tx wx (by omega)
          have hl1' : Q.length + (sev 2 ++ (sev tx.size ++ sbytes tx)).length ≤ 50000000000 := by rw [List.length_append] at hl1; omega
          clear hl1
          generalize sev tx.size ++ sbytes tx = Y at *
          generalize sev 2 = X at *
          obtain ⟨Q2, hQ2⟩ : ∃ Q2, Q2 = Q ++ (X ++ Y) := ⟨_, rfl⟩
          have HQ2 : Hid (Q2 = Q ++ (X ++ Y)) := hQ2
          have hl2 : Q2.length ≤ 50000000000 := by rw [hQ2, List.length_append]; exact hl1'
          have hzd : w.heap.size ≤ wr.drew.heap.size := hz
          clear hQ2 hl1'
          go_wp2_with fail
          go_region_held3 (fun w' => w'.cell? ⟨b, off + i * 3, none⟩ = some (.int .i64 (kd : Int)) ∧ w'.cell? ⟨b, off + i * 3 + 1, none⟩ = some (.int .i64 (nn : Int)) ∧ w'.cell? ⟨b, off + i * 3 + 2, none⟩ = some (.string tx) ∧ Below wr.heap.size wr w') (with_reducible first | exact hS0 | assumption | exact ob_keep (by assumption) hbz hbr | exact ob_keep (by assumption) hby hbr | exact ob_keep (by assumption) ((Below.refl _ _).alloc (Nat.le_refl _) _) hbr | exact ob_keep hS0 hbj hbr) (first | (go_at_call 81; with_reducible refine Calls.mono (c2 _) ?_; rintro e wz ⟨vz, rfl, hox, hbz⟩; have hof := own_form hox; obtain ⟨az, cz, rfl⟩ := hof) | (go_at_call 105; with_reducible refine Calls.mono (cT _) ?_; rintro e wy ⟨vy, rfl, hoy, hby⟩; have hof := own_form hoy; obtain ⟨ay, cy, rfl⟩ := hof) | (go_at_call 82; with_reducible refine Calls.mono (join3 HQ2 (own_drew hown) hbz hox hby hoy hzd hl2) ?_; rintro e wj ⟨aj, cj, rfl, hoj, hbj⟩))
          go_wp2_with fail
          go_roundg (ps.length - i - 1)
          case measure => omega
          case rel => exact ⟨i + 1, by omega, by go_num, by rw [HS.out, ← HQ2.out]; exact hoj, hb.trans ⟨hbj.os, hbj.tape, hbj.output, hbj.size, fun k hk => hbj.block k (show k < wr.heap.size by omega)⟩⟩
        · have g2 : ((kd : Int) == 2) = false := by simp; omega
          have HP : Hid (partW ⟨(kd : Int), (nn : Int), tx⟩ = sev kd ++ sev nn) := by
            show _ = _
            unfold partW
            simp only
            rw [if_neg (by omega), show ((kd : Int)).toNat = kd by omega, show ((nn : Int)).toNat = nn by omega]
          rw [HP.out] at HS hl1
          have c2 := fun wx => sevens_any kd wx (by omega)
          have cT := fun wx => sevens_any nn wx (by omega)
          have hl1' : Q.length + (sev kd ++ sev nn).length ≤ 50000000000 := by rw [List.length_append] at hl1; omega
          clear hl1
          generalize hYY : sev nn = Y at *
          clear hYY
          generalize hXX : sev kd = X at *
          clear hXX
          obtain ⟨Q2, hQ2⟩ : ∃ Q2, Q2 = Q ++ (X ++ Y) := ⟨_, rfl⟩
          have HQ2 : Hid (Q2 = Q ++ (X ++ Y)) := hQ2
          have hl2 : Q2.length ≤ 50000000000 := by rw [hQ2, List.length_append]; exact hl1'
          have hzd : w.heap.size ≤ wr.drew.heap.size := hz
          clear hQ2 hl1'
          go_wp2_with fail
          go_region_held3 (fun w' => w'.cell? ⟨b, off + i * 3, none⟩ = some (.int .i64 (kd : Int)) ∧ w'.cell? ⟨b, off + i * 3 + 1, none⟩ = some (.int .i64 (nn : Int)) ∧ w'.cell? ⟨b, off + i * 3 + 2, none⟩ = some (.string tx) ∧ Below wr.heap.size wr w') (with_reducible first | exact hS0 | assumption | exact ob_keep (by assumption) hbz hbr | exact ob_keep (by assumption) hby hbr | exact ob_keep (by assumption) ((Below.refl _ _).alloc (Nat.le_refl _) _) hbr | exact ob_keep hS0 hbj hbr) (first | (go_at_call 81; with_reducible refine Calls.mono (c2 _) ?_; rintro e wz ⟨vz, rfl, hox, hbz⟩; have hof := own_form hox; obtain ⟨az, cz, rfl⟩ := hof) | (go_at_call 81; with_reducible refine Calls.mono (cT _) ?_; rintro e wy ⟨vy, rfl, hoy, hby⟩; have hof := own_form hoy; obtain ⟨ay, cy, rfl⟩ := hof) | (go_at_call 82; with_reducible refine Calls.mono (join3 HQ2 (own_drew hown) hbz hox hby hoy hzd hl2) ?_; rintro e wj ⟨aj, cj, rfl, hoj, hbj⟩))
          go_wp2_with fail
          go_roundg (ps.length - i - 1)
          case measure => omega
          case rel => exact ⟨i + 1, by omega, by go_num, by rw [HS.out, ← HQ2.out]; exact hoj, hb.trans ⟨hbj.os, hbj.tape, hbj.output, hbj.size, fun k hk => hbj.block k (show k < wr.heap.size by omega)⟩⟩
    · have hiz : ¬ (i : Int) < (ps.length : Int) := by omega
      have HQ : Hid (M ++ (ps.take i).flatMap partW = R) := by show _ = _; rw [HR.out, List.take_of_length_le (by omega)]
      generalize M ++ (ps.take i).flatMap partW = Q at *
      go_wp2_with fail
      go_ret
      exact ⟨_, rfl, by rw [← HQ.out]; exact hown, hb⟩

end Go.Proofs.YtknjnfknalfbdaaDoor
