/-
  Walks: node.eachNeighbour, node.eachSide, for whatever function.
-/
import Derived.Test.YtpgcjpiabciekaaDoorNodeMem
namespace Go.Proofs.YtpgcjpiabciekaaDoor
open Go.RowKit Go.Lib

theorem kidsL_step (me : Int) {T : List Int} {i : Nat} (h : i < T.length) : kidsL me i (T.drop i) = if T[i] = me then (i : Int) :: kidsL me (i + 1) (T.drop (i + 1)) else kidsL me (i + 1) (T.drop (i + 1)) := by
  rw [List.drop_eq_getElem_cons h]
  rfl
set_option maxRecDepth 100000 in
set_option maxHeartbeats 1000000 in
theorem eachNeighbour_any (T : List Int) (a : Option Addr) (c : Nat) (me : Int) (fid : Nat) (caps : Array Value) (w : World) (P : Nat → World → Prop)
    (eg : ∀ args w, (callFunc fid args).run Tryd.prog w = .ok (.enter fid args) w) (hme : 0 ≤ me ∧ me < (T.length : Int)) (hl : T.length ≤ 7)
    (hrd : ∀ i wr, P i wr → Ints wr a T) (hP0 : P 0 w)
    (hst : ∀ i (h : i < (peersL T me).length) wr, P i wr → Calls Tryd.prog fid (#[.int .i64 (peersL T me)[i]] ++ caps) wr fun e w' => e = .returned (.tuple #[]) ∧ P (i + 1) w') :
    Calls Tryd.prog 117 #[.slice a T.length c, .int .i64 me, .func (.func fid) #[] caps] w fun e w' => e = .returned (.tuple #[]) ∧ P (peersL T me).length w' := by
  have hmn : me.toNat < T.length := by omega
  obtain ⟨m, hm⟩ : ∃ m : Nat, me = (m : Int) := ⟨me.toNat, by omega⟩
  have hpre : preL T me = if m = 0 then [] else [T[m]'(by omega)] := by
    unfold preL
    by_cases h : m = 0
    · rw [if_pos h, if_pos (by omega)]
    · rw [if_neg h, if_neg (by omega)]
      have : me.toNat = m := by omega
      rw [this, getD_get (by omega)]
  have hst' : ∀ (D R : List Int) (x : Int) wr, D ++ x :: R = peersL T me → P D.length wr → Calls Tryd.prog fid (#[.int .i64 x] ++ caps) wr fun e w' => e = .returned (.tuple #[]) ∧ P (D ++ [x]).length w' := fun D R x wr hD hP => by
    have hlt : D.length < (peersL T me).length := by rw [← hD]; simp
    have hx : (peersL T me)[D.length] = x := by
      have := List.getElem_of_eq hD.symm hlt
      rw [this]
      simp
    have := hst D.length hlt wr hP
    rw [hx] at this
    simpa using this
  have hlen : ∀ D : List Int, D = peersL T me → ∀ wr, P D.length wr → P (peersL T me).length wr := fun D hD wr h => by rw [← hD]; exact h
  have hLu : peersL T me = preL T me ++ kidsL me 0 T := rfl
  generalize peersL T me = L at *
  have HST : Hid (∀ (D R : List Int) (x : Int) wr, D ++ x :: R = L → P D.length wr → Calls Tryd.prog fid (#[.int .i64 x] ++ caps) wr fun e w' => e = .returned (.tuple #[]) ∧ P (D ++ [x]).length w') := hst'
  have HLEN : Hid (∀ D : List Int, D = L → ∀ wr, P D.length wr → P L.length wr) := hlen
  clear hst hst' hlen
  have hmz : 0 ≤ (m : Int) ∧ (m : Int) < (T.length : Int) := by omega
  subst hm
  by_cases h0 : m = 0
  · rw [if_pos h0] at hpre
    rw [hpre] at hLu
    have HD0 : Hid (([] : List Int) ++ kidsL (m : Int) 0 (T.drop 0) = L) := hLu.symm
    subst h0
    clear hpre hLu hmn
    go_enter Tryd.func117, Tryd.ntmps117
    go_wp2_with fail
    go_loopg [18] T.length (fun g iv wr => ∃ (i : Nat) (D : List Int), i + g = T.length ∧ iv = .int .i64 (i : Int) ∧ Hid (D ++ kidsL 0 i (T.drop i) = L) ∧ P D.length wr)
    case atStart => exact ⟨0, [], by omega, rfl, HD0, hP0⟩
    case round =>
      obtain ⟨i, D, hi, rfl, HD, hP⟩ := hrel
      by_cases hlt : i < T.length
      · have hiz : (i : Int) < (T.length : Int) := by omega
        have hi0 : (0 : Int) ≤ (i : Int) := by omega
        have hin := hrd _ _ hP
        obtain ⟨b, off, ea, hb, hc⟩ := hin.resolve_left (by rintro rfl; simp at hlt)
        cases ea
        have hci := hc i hlt
        have hk := kidsL_step 0 hlt
        by_cases he : T[i] = 0
        · rw [if_pos he] at hk
          rw [he] at hci
          have HD2 : Hid ((D ++ [(i : Int)]) ++ kidsL 0 (i + 1) (T.drop (i + 1)) = L) := by show _ = _; rw [← HD.out, hk, List.append_assoc]; rfl
          have cS := HST.out D (kidsL 0 (i + 1) (T.drop (i + 1))) (i : Int) wr (by rw [← HD.out, hk]) hP
          clear hk HD hc hin he
          go_wp2_with (go_at_fn fid; refine cS.mono ?_; rintro r w1 ⟨rfl, hP3⟩)
          go_wp2_with fail
          go_roundg (T.length - i - 1)
          case measure => omega
          case rel => exact ⟨i + 1, _, by omega, by go_num, HD2, hP3⟩
        · rw [if_neg he] at hk
          have HD2 : Hid (D ++ kidsL 0 (i + 1) (T.drop (i + 1)) = L) := by show _ = _; rw [← HD.out, hk]
          have ge : (T[i] == 0) = false := by simpa using he
          generalize T[i] = p at *
          clear hk HD hc hin he
          go_wp2_with fail
          go_roundg (T.length - i - 1)
          case measure => omega
          case rel => exact ⟨i + 1, D, by omega, by go_num, HD2, hP⟩
      · obtain rfl : i = T.length := by omega
        have hiz : ¬ (T.length : Int) < (T.length : Int) := by omega
        have hPL := HLEN.out D (by rw [← HD.out, List.drop_of_length_le (Nat.le_refl _)]; simp [kidsL]) _ hP
        clear HD
        go_wp2_with fail
        go_end0
        exact ⟨rfl, hPL⟩
  · rw [if_neg h0] at hpre
    rw [hpre] at hLu
    have g0 : ((m : Int) != 0) = true := by simpa using h0
    have hin := hrd _ _ hP0
    have hml : m < T.length := by omega
    obtain ⟨b, off, rfl, hb, hc⟩ : ∃ b off, a = some ⟨b, off, none⟩ ∧ b < w.heap.size ∧ ∀ i (h : i < T.length), w.cell? ⟨b, off + i, none⟩ = some (.int .i64 T[i]) := hin.resolve_left (by rintro rfl; simp at hml)
    have hcm := hc m hml
    have cS := HST.out [] (kidsL (m : Int) 0 T) T[m] w hLu.symm hP0
    have HD0 : Hid (([] ++ [T[m]] : List Int) ++ kidsL (m : Int) 0 (T.drop 0) = L) := hLu.symm
    generalize T[m] = pm at *
    clear hpre hLu hmn hc hin
    have hm0 : (0 : Int) ≤ (m : Int) := by omega
    go_enter Tryd.func117, Tryd.ntmps117
    go_wp2_with (go_at_fn fid; refine cS.mono ?_; rintro r w1 ⟨rfl, hP1⟩)
    clear cS
    go_wp2_with fail
    go_loopg [18] T.length (fun g iv wr => ∃ (i : Nat) (D : List Int), i + g = T.length ∧ iv = .int .i64 (i : Int) ∧ Hid (D ++ kidsL (m : Int) i (T.drop i) = L) ∧ P D.length wr)
    case atStart => exact ⟨0, [] ++ [pm], by omega, rfl, HD0, hP1⟩
    case round =>
      obtain ⟨i, D, hi, rfl, HD, hP⟩ := hrel
      by_cases hlt : i < T.length
      · have hiz : (i : Int) < (T.length : Int) := by omega
        have hi0 : (0 : Int) ≤ (i : Int) := by omega
        have hin := hrd _ _ hP
        obtain ⟨b, off, ea, hb, hc⟩ := hin.resolve_left (by rintro rfl; simp at hlt)
        cases ea
        have hci := hc i hlt
        have hk := kidsL_step (m : Int) hlt
        by_cases he : T[i] = (m : Int)
        · rw [if_pos he] at hk
          rw [he] at hci
          have HD2 : Hid ((D ++ [(i : Int)]) ++ kidsL (m : Int) (i + 1) (T.drop (i + 1)) = L) := by show _ = _; rw [← HD.out, hk, List.append_assoc]; rfl
          have cS := HST.out D (kidsL (m : Int) (i + 1) (T.drop (i + 1))) (i : Int) wr (by rw [← HD.out, hk]) hP
          clear hk HD hc hin he
          go_wp2_with (go_at_fn fid; refine cS.mono ?_; rintro r w1 ⟨rfl, hP3⟩)
          go_wp2_with fail
          go_roundg (T.length - i - 1)
          case measure => omega
          case rel => exact ⟨i + 1, _, by omega, by go_num, HD2, hP3⟩
        · rw [if_neg he] at hk
          have HD2 : Hid (D ++ kidsL (m : Int) (i + 1) (T.drop (i + 1)) = L) := by show _ = _; rw [← HD.out, hk]
          have ge : (T[i] == (m : Int)) = false := by simpa using he
          generalize T[i] = p at *
          clear hk HD hc hin he
          go_wp2_with fail
          go_roundg (T.length - i - 1)
          case measure => omega
          case rel => exact ⟨i + 1, D, by omega, by go_num, HD2, hP⟩
      · obtain rfl : i = T.length := by omega
        have hiz : ¬ (T.length : Int) < (T.length : Int) := by omega
        have hPL := HLEN.out D (by rw [← HD.out, List.drop_of_length_le (Nat.le_refl _)]; simp [kidsL]) _ hP
        clear HD
        go_wp2_with fail
        go_end0
        exact ⟨rfl, hPL⟩

set_option maxRecDepth 100000 in
set_option maxHeartbeats 1000000 in
theorem eachSide_any (me ep up : Int) (ready : Bool) (text : ByteArray) (sa ua ma : Option Addr) (sc un uc mn mc : Nat) (K : List SideV) (fid : Nat) (caps : Array Value) (w : World) (P : Nat → World → Prop)
    (eg : ∀ args w, (callFunc fid args).run Tryd.prog w = .ok (.enter fid args) w) (hl : K.length ≤ 1048576)
    (hrd : ∀ i wr, P i wr → SidesAt wr sa sc K) (hal : ∀ i wr o, P i wr → P i (wr.alloc o)) (hP0 : P 0 w)
    (hst : ∀ i (h : i < K.length) wr, P i wr → Calls Tryd.prog fid (#[.int .i64 (i : Int), .agg #[.int .i64 K[i].peer, .bool K[i].joined, .int .i64 K[i].sent, .int .i64 K[i].heard, .slice K[i].pa K[i].pend.length K[i].pc, .int .i64 K[i].ep, .int .i64 K[i].nx, K[i].sv, K[i].qv, .int .i64 K[i].hd]] ++ caps) wr fun e w' => e = .returned (.tuple #[]) ∧ P (i + 1) w') :
    Calls Tryd.prog 84 #[.agg #[.int .i64 me, .int .i64 ep, .int .i64 up, .bool ready, .string text, .slice sa K.length sc, .slice ua un uc, .slice ma mn mc], .func (.func fid) #[] caps] w fun e w' => e = .returned (.tuple #[]) ∧ P K.length w' := by
  have hn := heap_alloc_new w (.cells #[.int .i64 me, .int .i64 ep, .int .i64 up, .bool ready, .string text, .slice sa K.length sc, .slice ua un uc, .slice ma mn mc] 74)
  have hP1 := hal 0 w (.cells #[.int .i64 me, .int .i64 ep, .int .i64 up, .bool ready, .string text, .slice sa K.length sc, .slice ua un uc, .slice ma mn mc] 74) hP0
  obtain ⟨n0, nl0, _⟩ := blk hn
  clear hP0
  go_enter Tryd.func84, Tryd.ntmps84
  go_wp2_with fail
  generalize (w.alloc (.cells #[.int .i64 me, .int .i64 ep, .int .i64 up, .bool ready, .string text, .slice sa K.length sc, .slice ua un uc, .slice ma mn mc] 74)) = w0 at *
  go_loopg [9] K.length (fun g iv wr => ∃ i : Nat, i + g = K.length ∧ iv = .int .i64 (i : Int) ∧ P i wr)
  case atStart => exact ⟨0, by omega, rfl, hP1⟩
  case round =>
    obtain ⟨i, hi, rfl, hPi⟩ := hrel
    by_cases hlt : i < K.length
    · have hiz : (i : Int) < (K.length : Int) := by omega
      have hi0 : (0 : Int) ≤ (i : Int) := by omega
      have hsd := hrd i wr hPi
      obtain ⟨b, off, ea, hb, hcell⟩ := hsd.get hlt
      subst ea
      have hone := hsd.each K[i] (List.getElem_mem hlt)
      have cW := hst i hlt
      clear hst hsd hrd
      generalize K[i] = s at *
      obtain ⟨qsa, qsc, esv, _⟩ := hone.inS.row
      obtain ⟨qqa, qqc, eqv, _⟩ := hone.inQ.row
      clear hone
      obtain ⟨peer, joined, sent, heard, pend, pvs, pa, pc, sep, snx, shd, Sf, Qf, sv, qv⟩ := s
      simp only at *
      subst esv eqv
      have k0 : wr.cell? ⟨b, off + i * 10, none⟩ = some (.int .i64 peer) := hcell 0 _ rfl
      have k1 := hcell 1 _ rfl
      have k2 := hcell 2 _ rfl
      have k3 := hcell 3 _ rfl
      have k4 := hcell 4 _ rfl
      have k5 := hcell 5 _ rfl
      have k6 := hcell 6 _ rfl
      have k7 := hcell 7 _ rfl
      have k8 := hcell 8 _ rfl
      have k9 := hcell 9 _ rfl
      have hP2 := hal i wr (.cells #[.int .i64 peer, .bool joined, .int .i64 sent, .int .i64 heard, .slice pa pend.length pc, .int .i64 sep, .int .i64 snx, .slice qsa Sf.length qsc, .slice qqa Qf.length qqc, .int .i64 shd] 140) hPi
      have cW2 := cW _ hP2
      have hs1 := heap_alloc_new wr (.cells #[.int .i64 peer, .bool joined, .int .i64 sent, .int .i64 heard, .slice pa pend.length pc, .int .i64 sep, .int .i64 snx, .slice qsa Sf.length qsc, .slice qqa Qf.length qqc, .int .i64 shd] 140)
      obtain ⟨s0, sl0, _⟩ := blk hs1
      clear hcell cW hP2 hal n0 nl0
      go_wp2_with (go_at_fn fid; refine cW2.mono ?_; rintro r w1 ⟨rfl, hP3⟩)
      go_wp2_with fail
      go_roundg (K.length - i - 1)
      case measure => omega
      case rel => exact ⟨i + 1, by omega, by go_num, hP3⟩
    · obtain rfl : i = K.length := by omega
      have hiz : ¬ (K.length : Int) < (K.length : Int) := by omega
      clear hst hal hrd n0 nl0
      go_wp2_with fail
      go_end0
      exact ⟨rfl, hPi⟩

end Go.Proofs.YtpgcjpiabciekaaDoor
