/-
  Walks: wherryref.PacketBytes; wire.EncodePacket of what may not be.
-/
import Derived.Test.YtmdehfomogfmlaaDoorRecBytes
import Derived.Test.YtmdehfomogfmlaaDoorWirePkB
namespace Go.Proofs.YtmdehfomogfmlaaDoor
open Go.RowKit Go.Lib

theorem below_drew {w w' : World} (h : Below w.heap.size w w') : Below w.drew.heap.size w.drew w' := ⟨h.os, h.tape, h.output, h.size, h.block⟩
theorem own_bytesOf {w : World} {B : Nat} {a : Option Addr} {l : List Nat} {c : Nat} (h : w.ownsRow B 5 1 (.slice a l.length c) l.length (octs l)) : Bytes w a l := by
  obtain ⟨a', c', e, _, h2, _⟩ := srcB_own h
  simp only [Value.slice.injEq, true_and] at e
  obtain ⟨rfl, rfl⟩ := e
  exact h2
theorem lists_four {w : World} {b : Nat} {T : TypeId} {x y z u : List Nat} {a1 a2 a3 a4 : Option Addr} {c1 c2 c3 c4 : Nat} (h : w.heap[b]? = some (.cells #[.slice a1 x.length c1, .slice a2 y.length c2, .slice a3 z.length c3, .slice a4 u.length c4] T (0, 0))) (h1 : Bytes w a1 x) (h2 : Bytes w a2 y) (h3 : Bytes w a3 z) (h4 : Bytes w a4 u) : ListsAt w (some ⟨b, 0, none⟩) [x, y, z, u] := by
  refine .inr ⟨b, 0, rfl, lt_of_heap h, fun i hi => ?_⟩
  have h0 : i = 0 ∨ i = 1 ∨ i = 2 ∨ i = 3 := by simp at hi; omega
  rcases h0 with rfl | rfl | rfl | rfl
  · exact ⟨a1, c1, by rw [cell_of_row _ _ _ _ _ _ h]; rfl, h1⟩
  · exact ⟨a2, c2, by rw [cell_of_row _ _ _ _ _ _ h]; rfl, h2⟩
  · exact ⟨a3, c3, by rw [cell_of_row _ _ _ _ _ _ h]; rfl, h3⟩
  · exact ⟨a4, c4, by rw [cell_of_row _ _ _ _ _ _ h]; rfl, h4⟩
theorem joinB3 {wy : World} {X Y Z Q2 : List Nat} (he : Hid (Q2 = X ++ (Y ++ Z))) {a1 a2 a3 : Option Addr} {c1 c2 c3 : Nat} (h1 : Bytes wy a1 X) (h2 : Bytes wy a2 Y) (h3 : Bytes wy a3 Z) (hl : Q2.length ≤ 50000000000) :
    Calls Tryd.prog 80 #[.slice (some ⟨wy.heap.size, 0, none⟩) 3 3] (wy.alloc (.cells #[.slice a1 X.length c1, .slice a2 Y.length c2, .slice a3 Z.length c3] 80)) fun r w' => ∃ a c, r = .returned (.slice a Q2.length c) ∧ w'.ownsRow wy.heap.size 5 1 (.slice a Q2.length c) Q2.length (octs Q2) ∧ Below wy.heap.size wy w' := by
  have hba := (Below.refl wy.heap.size wy).alloc (Nat.le_refl _) (.cells #[.slice a1 X.length c1, .slice a2 Y.length c2, .slice a3 Z.length c3] 80)
  have h := heap_alloc_new wy (.cells #[.slice a1 X.length c1, .slice a2 Y.length c2, .slice a3 Z.length c3] 80)
  have e : [X, Y, Z].flatten = Q2 := by rw [he.out]; simp
  have := joined_any [X, Y, Z] _ 3 _ (lists_three h (h1.below hba) (h2.below hba) (h3.below hba)) (by rw [e]; exact hl) (by simp)
  rw [e] at this
  refine this.mono ?_
  rintro r w' ⟨v, rfl, ho, hb⟩
  obtain ⟨a, c, rfl⟩ := own_form ho
  exact ⟨a, c, rfl, own_base ho hba.size, below_two hba hb (Nat.le_refl _)⟩
theorem joinB4 {wy : World} {X Y Z U Q2 : List Nat} (he : Hid (Q2 = X ++ (Y ++ (Z ++ U)))) {a1 a2 a3 a4 : Option Addr} {c1 c2 c3 c4 : Nat} (h1 : Bytes wy a1 X) (h2 : Bytes wy a2 Y) (h3 : Bytes wy a3 Z) (h4 : Bytes wy a4 U) (hl : Q2.length ≤ 50000000000) :
    Calls Tryd.prog 80 #[.slice (some ⟨wy.heap.size, 0, none⟩) 4 4] (wy.alloc (.cells #[.slice a1 X.length c1, .slice a2 Y.length c2, .slice a3 Z.length c3, .slice a4 U.length c4] 80)) fun r w' => ∃ a c, r = .returned (.slice a Q2.length c) ∧ w'.ownsRow wy.heap.size 5 1 (.slice a Q2.length c) Q2.length (octs Q2) ∧ Below wy.heap.size wy w' := by
  have hba := (Below.refl wy.heap.size wy).alloc (Nat.le_refl _) (.cells #[.slice a1 X.length c1, .slice a2 Y.length c2, .slice a3 Z.length c3, .slice a4 U.length c4] 80)
  have h := heap_alloc_new wy (.cells #[.slice a1 X.length c1, .slice a2 Y.length c2, .slice a3 Z.length c3, .slice a4 U.length c4] 80)
  have e : [X, Y, Z, U].flatten = Q2 := by rw [he.out]; simp
  have := joined_any [X, Y, Z, U] _ 4 _ (lists_four h (h1.below hba) (h2.below hba) (h3.below hba) (h4.below hba)) (by rw [e]; exact hl) (by simp)
  rw [e] at this
  refine this.mono ?_
  rintro r w' ⟨v, rfl, ho, hb⟩
  obtain ⟨a, c, rfl⟩ := own_form ho
  exact ⟨a, c, rfl, own_base ho hba.size, below_two hba hb (Nat.le_refl _)⟩

set_option maxRecDepth 100000 in
set_option maxHeartbeats 2000000 in
theorem packetBytes_bad (ep num : Int) (bare : Bool) (ack k h e : Int) (ps : List Part) (a : Option Addr) (c : Nat) (tx : ByteArray) (w : World) (hop : OpAt w a ps) (hn : ps.length ≤ 9223372036854775806) (hs : ∀ p ∈ ps, p.text.size ≤ 70368744177664) (hx : tx.size ≤ 70368744177664) (hT : Tabs w) (herr : packetErr ep num bare ack k h e ps tx ≠ 0) :
    Calls Tryd.prog 40 #[.agg #[.int .i64 ep, .int .i64 num, .bool bare, .int .i64 ack, .int .i64 k, .int .i64 h, .int .i64 e, .slice a ps.length c, .string tx]] w fun r w' => r = .returned (.tuple #[.slice none 0 0, .int .i64 (packetErr ep num bare ack k h e ps tx)]) ∧ Below w.heap.size w w' := by
  have hb0 := (Below.refl w.heap.size w).alloc (Nat.le_refl _) (.cells #[.int .i64 ep, .int .i64 num, .bool bare, .int .i64 ack, .int .i64 k, .int .i64 h, .int .i64 e, .slice a ps.length c, .string tx] 79)
  have cF := packetFault_any ep num bare ack k h e ps a c tx _ (hop.below hb0) hn hs hx (hT.below hb0)
  have hpb := heap_alloc_new w (.cells #[.int .i64 ep, .int .i64 num, .bool bare, .int .i64 ack, .int .i64 k, .int .i64 h, .int .i64 e, .slice a ps.length c, .string tx] 79)
  obtain ⟨q0, _, _⟩ := blk hpb
  have g : (packetErr ep num bare ack k h e ps tx != 0) = true := by simpa using herr
  generalize packetErr ep num bare ack k h e ps tx = er at *
  clear hop hs hT
  go_enter Tryd.func40, Tryd.ntmps40
  go_wp2_with fail
  refine cF.mono ?_
  rintro r w1 ⟨rfl, hb1⟩
  go_wp2_with fail
  go_ret2
  exact ⟨rfl, below_two hb0 hb1 (Nat.le_refl _)⟩

set_option maxRecDepth 100000 in
set_option maxHeartbeats 2000000 in
theorem encodePacket_bad (ep num : Int) (bare : Bool) (ack k h e : Int) (ps : List Part) (a : Option Addr) (c : Nat) (tx : ByteArray) (w : World) (hop : OpAt w a ps) (hn : ps.length ≤ 9223372036854775806) (hs : ∀ p ∈ ps, p.text.size ≤ 70368744177664) (hx : tx.size ≤ 70368744177664) (hT : Tabs w) (herr : packetErr ep num bare ack k h e ps tx ≠ 0) :
    Calls Tryd.prog 39 #[.agg #[.int .i64 ep, .int .i64 num, .bool bare, .int .i64 ack, .int .i64 k, .int .i64 h, .int .i64 e, .slice a ps.length c, .string tx]] w fun r w' => r = .returned (.tuple #[.slice none 0 0, .int .i64 (packetErr ep num bare ack k h e ps tx)]) ∧ Below w.heap.size w w' := by
  have hb0 := (Below.refl w.heap.size w).alloc (Nat.le_refl _) (.cells #[.int .i64 ep, .int .i64 num, .bool bare, .int .i64 ack, .int .i64 k, .int .i64 h, .int .i64 e, .slice a ps.length c, .string tx] 79)
  have cF := checkPacket_any ep num bare ack k h e ps a c tx _ (hop.below hb0) hn hs hx (hT.below hb0)
  have hpb := heap_alloc_new w (.cells #[.int .i64 ep, .int .i64 num, .bool bare, .int .i64 ack, .int .i64 k, .int .i64 h, .int .i64 e, .slice a ps.length c, .string tx] 79)
  obtain ⟨q0, _, _⟩ := blk hpb
  have g : (packetErr ep num bare ack k h e ps tx != 0) = true := by simpa using herr
  generalize packetErr ep num bare ack k h e ps tx = er at *
  clear hop hs hT
  go_enter Tryd.func39, Tryd.ntmps39
  go_wp2_with fail
  refine cF.mono ?_
  rintro r w1 ⟨rfl, hb1⟩
  go_wp2_with fail
  go_ret2
  exact ⟨rfl, below_two hb0 hb1 (Nat.le_refl _)⟩

set_option maxRecDepth 100000 in
set_option maxHeartbeats 8000000 in
theorem packetBytes_ok (p : PacketV) (a : Option Addr) (c : Nat) (w : World) (hop : OpAt w a p.frame.op) (hs : ∀ q ∈ p.frame.op, q.text.size ≤ 1048576) (hm : p.frame.op.length ≤ 9223372036854775806) (hx : p.frame.text.size ≤ 1048576) (hT : Tabs w) (herr : pkErr p = 0) :
    Calls Tryd.prog 40 #[pkVal p (.slice a p.frame.op.length c)] w fun r w' => ∃ v, r = .returned (.tuple #[v, .int .i64 0]) ∧ w'.ownsRow w.heap.size 5 1 v (packetW p).length (octs (packetW p)) ∧ Below w.heap.size w w' := by
  have hB := pkErr_bare herr hs hx
  obtain ⟨⟨he1, he2, he3, hfw⟩, hyes, hno⟩ := hB
  have hperr : packetErr p.epoch p.number p.bare p.ack p.frame.kind p.frame.heard p.frame.epoch p.frame.op p.frame.text = 0 := herr
  obtain ⟨R, hR⟩ : ∃ R, R = packetW p := ⟨_, rfl⟩
  rw [← hR]
  unfold pkVal
  obtain ⟨ep, num, bare, ack, ⟨fk, fh, fe, ps, tx⟩⟩ := p
  simp only at hop hs hm hx he1 he2 he3 hfw hyes hno hperr ⊢
  have hb0 := (Below.refl w.heap.size w).alloc (Nat.le_refl _) (.cells #[.int .i64 (ep : Int), .int .i64 (num : Int), .bool bare, .int .i64 (ack : Int), .int .i64 (fk : Int), .int .i64 (fh : Int), .int .i64 (fe : Int), .slice a ps.length c, .string tx] 79)
  have hpb := heap_alloc_new w (.cells #[.int .i64 (ep : Int), .int .i64 (num : Int), .bool bare, .int .i64 (ack : Int), .int .i64 (fk : Int), .int .i64 (fh : Int), .int .i64 (fe : Int), .slice a ps.length c, .string tx] 79)
  have cF := packetFault_any ep num bare ack fk fh fe ps a c tx _ (hop.below hb0) hm (fun p hp => by have := hs p hp; omega) (by omega) (hT.below hb0)
  rw [hperr] at cF
  obtain ⟨q0, ql0, _⟩ := blk hpb
  have l1 := sev_le he1
  have l2 := sev_le he2
  have l3 := sev_le he3
  go_enter Tryd.func40, Tryd.ntmps40
  go_wp2_with fail
  refine cF.mono ?_
  rintro r w1 ⟨rfl, hb1⟩
  have HB1 := below_two hb0 hb1 (Nat.le_refl _)
  have hp1 := (hb1.block _ ql0).trans hpb
  clear cF q0 ql0 hpb hb0 hb1 hperr herr
  obtain ⟨q1, ql1, _⟩ := blk hp1
  have c1 := fun wx => sevens_any ep wx he1
  have c2 := fun wx => sevens_any ack wx he3
  have c3 := fun wx => sevens_any num wx he2
  obtain ⟨H, hH⟩ : ∃ H, H = sev ep ++ (sev ack ++ sev num) := ⟨_, rfl⟩
  have HH : Hid (H = sev ep ++ (sev ack ++ sev num)) := hH
  have hhl : H.length ≤ 12 := by rw [hH]; simp only [List.length_append]; omega
  have HRH : Hid (R = H ++ (if bare = true then [] else frameW ⟨fk, fh, fe, ps, tx⟩)) := by show _ = _; rw [hR, hH]; unfold packetW; simp [List.append_assoc]
  clear hR hH l1 l2 l3
  have hS0 : (fun w' => w'.cell? ⟨w.heap.size, 0, none⟩ = some (.int .i64 (ep : Int)) ∧ w'.cell? ⟨w.heap.size, 1, none⟩ = some (.int .i64 (num : Int)) ∧ w'.cell? ⟨w.heap.size, 3, none⟩ = some (.int .i64 (ack : Int)) ∧ Below w1.heap.size w1 w') w1.drew := ⟨by show w1.cell? _ = _; rw [q1]; rfl, by show w1.cell? _ = _; rw [q1]; rfl, by show w1.cell? _ = _; rw [q1]; rfl, ⟨rfl, rfl, rfl, Nat.le_refl _, fun _ _ => rfl⟩⟩
  have keep : ∀ {w' w'' : World}, (fun w' => w'.cell? ⟨w.heap.size, 0, none⟩ = some (.int .i64 (ep : Int)) ∧ w'.cell? ⟨w.heap.size, 1, none⟩ = some (.int .i64 (num : Int)) ∧ w'.cell? ⟨w.heap.size, 3, none⟩ = some (.int .i64 (ack : Int)) ∧ Below w1.heap.size w1 w') w' → Below w'.heap.size w' w'' → (fun w' => w'.cell? ⟨w.heap.size, 0, none⟩ = some (.int .i64 (ep : Int)) ∧ w'.cell? ⟨w.heap.size, 1, none⟩ = some (.int .i64 (num : Int)) ∧ w'.cell? ⟨w.heap.size, 3, none⟩ = some (.int .i64 (ack : Int)) ∧ Below w1.heap.size w1 w') w'' := fun {w' w''} h hb => ⟨(hb.cell (p := ⟨w.heap.size, 0, none⟩) (Nat.lt_of_lt_of_le ql1 h.2.2.2.size)).trans h.1, (hb.cell (p := ⟨w.heap.size, 1, none⟩) (Nat.lt_of_lt_of_le ql1 h.2.2.2.size)).trans h.2.1, (hb.cell (p := ⟨w.heap.size, 3, none⟩) (Nat.lt_of_lt_of_le ql1 h.2.2.2.size)).trans h.2.2.1, below_two h.2.2.2 hb (Nat.le_refl _)⟩
  generalize sev ep = X at *
  generalize sev ack = Y at *
  generalize sev num = Z at *
  go_wp2_with fail
  go_region_held3 (fun w' => w'.cell? ⟨w.heap.size, 0, none⟩ = some (.int .i64 (ep : Int)) ∧ w'.cell? ⟨w.heap.size, 1, none⟩ = some (.int .i64 (num : Int)) ∧ w'.cell? ⟨w.heap.size, 3, none⟩ = some (.int .i64 (ack : Int)) ∧ Below w1.heap.size w1 w') (with_reducible first | exact hS0 | assumption | exact keep (by assumption) hbx | exact keep (by assumption) hby | exact keep (by assumption) hbz | exact keep (by assumption) ((Below.refl _ _).alloc (Nat.le_refl _) _) | exact keep hS0 tjd) (first | (go_at_call 81; with_reducible refine Calls.mono (c1 _) ?_; rintro e wx ⟨vx, rfl, hox, hbx⟩; have hof := own_form hox; obtain ⟨ax, cx, rfl⟩ := hof; have bx := own_bytesOf hox; have tx1 := below_two hS0.2.2.2 hbx (Nat.le_refl _)) | (go_at_call 81; with_reducible refine Calls.mono (c2 _) ?_; rintro e wy ⟨vy, rfl, hoy, hby⟩; have hof := own_form hoy; obtain ⟨ay, cy, rfl⟩ := hof; have by1 := own_bytesOf hoy; have bx1 := bx.below hby; have ty1 := below_two tx1 hby (Nat.le_refl _)) | (go_at_call 81; with_reducible refine Calls.mono (c3 _) ?_; rintro e wz ⟨vz, rfl, hoz, hbz⟩; have hof := own_form hoz; obtain ⟨az, cz, rfl⟩ := hof; have bz := own_bytesOf hoz; have bx2 := bx1.below hbz; have by2 := by1.below hbz; have tz1 := below_two ty1 hbz (Nat.le_refl _)) | (go_at_call 80; with_reducible refine Calls.mono (joinB3 HH bx2 by2 bz (by omega)) ?_; rintro e wj ⟨aj, cj, rfl, hoj, hbj⟩; have tj1 := below_two tz1 hbj (Nat.le_refl _); have tjd := below_drew tj1))
  have HBj := below_two HB1 tj1 (Nat.le_refl _)
  have HBz := below_two HB1 tz1 (Nat.le_refl _)
  have hoj1 := own_base hoj HBz.size
  have hpj := (tj1.block _ ql1).trans hp1
  clear hS0 keep c1 c2 c3 HH hox hoy hoz hbx hby hbz bx by1 bz bx1 bx2 by2 tx1 ty1 tz1 tjd tj1 hoj hbj q1 ql1 hp1 HBz
  obtain ⟨qj, qlj, _⟩ := blk hpj
  generalize hw2 : wj = w2 at *
  clear hw2
  cases bare with
  | true =>
    obtain ⟨_, hfr⟩ := hyes rfl
    simp only [frame0, FrameV.mk.injEq] at hfr
    obtain ⟨rfl, rfl, rfl, rfl, rfl⟩ := hfr
    have HRX : Hid (R = H) := by show _ = _; rw [HRH.out]; simp
    clear hno hfw HRH
    have hb3 := (Below.refl w2.heap.size w2).alloc (Nat.le_refl _) (.cells #[.int .i64 0, .int .i64 0, .int .i64 0, .slice a 0 c, .string ByteArray.empty] 74)
    have hf3 := heap_alloc_new w2 (.cells #[.int .i64 0, .int .i64 0, .int .i64 0, .slice a 0 c, .string ByteArray.empty] 74)
    have HB3 := below_two HBj hb3 (Nat.le_refl _)
    have hoj3 := own_below hoj1 hb3
    obtain ⟨k3, kl3, _⟩ := blk hf3
    go_wp2_with fail
    go_ret2
    exact ⟨_, rfl, by rw [HRX.out]; exact hoj3, HB3⟩
  | false =>
    obtain ⟨_, hfb⟩ := hno rfl
    have hfw' := hfb.w
    obtain ⟨hkk, hh1, he4, hm1, hpw, htx⟩ := hfw'
    have h11 := hfb.one
    simp only at hkk hh1 he4 hm1 hpw htx
    have HRX : Hid (R = H ++ frameW ⟨fk, fh, fe, ps, tx⟩) := by show _ = _; rw [HRH.out]; simp
    clear hyes hno hfw HRH hfb h11
    have s1 := sev_le (n := fh) hh1
    have s2 := sev_le (n := fe) he4
    have s3 := sev_le (n := tx.size) (by omega)
    have s4 := sbytes_length tx
    have hob := opW_bound hm1 hpw
    rcases hkk with rfl | rfl | rfl
    · have HQ : Hid (R = H ++ (sev 1 ++ (sev fh ++ opW ps))) := by show _ = _; rw [HRX.out]; unfold frameW; simp
      have s0 := sev_le (n := 1) (by decide)
      have hrl : R.length ≤ 50000000000 := by rw [HQ.out]; simp only [List.length_append]; omega
      have d1 := fun wx => sevens_any 1 wx (by decide)
      have d2 := fun wx => sevens_any fh wx (by omega)
      have hb3 := (Below.refl w2.heap.size w2).alloc (Nat.le_refl _) (.cells #[.int .i64 1, .int .i64 (fh : Int), .int .i64 (fe : Int), .slice a ps.length c, .string tx] 74)
      have hf3 := heap_alloc_new w2 (.cells #[.int .i64 1, .int .i64 (fh : Int), .int .i64 (fe : Int), .slice a ps.length c, .string tx] 74)
      have HB3 := below_two HBj hb3 (Nat.le_refl _)
      have hoj3 := own_below hoj1 hb3
      have hop3 := hop.below HB3
      obtain ⟨k3, kl3, _⟩ := blk hf3
      go_wp2_with fail
      generalize (w2.alloc (.cells #[.int .i64 1, .int .i64 (fh : Int), .int .i64 (fe : Int), .slice a ps.length c, .string tx] 74)) = w3 at *
      have hS0 : (fun w' => w'.cell? ⟨w2.heap.size, 1, none⟩ = some (.int .i64 (fh : Int)) ∧ w'.cell? ⟨w2.heap.size, 2, none⟩ = some (.int .i64 (fe : Int)) ∧ w'.cell? ⟨w2.heap.size, 3, none⟩ = some (.slice a ps.length c) ∧ w'.cell? ⟨w2.heap.size, 4, none⟩ = some (.string tx) ∧ Below w3.heap.size w3 w') w3.drew := ⟨by show w3.cell? _ = _; rw [k3]; rfl, by show w3.cell? _ = _; rw [k3]; rfl, by show w3.cell? _ = _; rw [k3]; rfl, by show w3.cell? _ = _; rw [k3]; rfl, ⟨rfl, rfl, rfl, Nat.le_refl _, fun _ _ => rfl⟩⟩
      have keep : ∀ {w' w'' : World}, (fun w' => w'.cell? ⟨w2.heap.size, 1, none⟩ = some (.int .i64 (fh : Int)) ∧ w'.cell? ⟨w2.heap.size, 2, none⟩ = some (.int .i64 (fe : Int)) ∧ w'.cell? ⟨w2.heap.size, 3, none⟩ = some (.slice a ps.length c) ∧ w'.cell? ⟨w2.heap.size, 4, none⟩ = some (.string tx) ∧ Below w3.heap.size w3 w') w' → Below w'.heap.size w' w'' → (fun w' => w'.cell? ⟨w2.heap.size, 1, none⟩ = some (.int .i64 (fh : Int)) ∧ w'.cell? ⟨w2.heap.size, 2, none⟩ = some (.int .i64 (fe : Int)) ∧ w'.cell? ⟨w2.heap.size, 3, none⟩ = some (.slice a ps.length c) ∧ w'.cell? ⟨w2.heap.size, 4, none⟩ = some (.string tx) ∧ Below w3.heap.size w3 w') w'' := fun {w' w''} h hb => ⟨(hb.cell (p := ⟨w2.heap.size, 1, none⟩) (Nat.lt_of_lt_of_le kl3 h.2.2.2.2.size)).trans h.1, (hb.cell (p := ⟨w2.heap.size, 2, none⟩) (Nat.lt_of_lt_of_le kl3 h.2.2.2.2.size)).trans h.2.1, (hb.cell (p := ⟨w2.heap.size, 3, none⟩) (Nat.lt_of_lt_of_le kl3 h.2.2.2.2.size)).trans h.2.2.1, (hb.cell (p := ⟨w2.heap.size, 4, none⟩) (Nat.lt_of_lt_of_le kl3 h.2.2.2.2.size)).trans h.2.2.2.1, below_two h.2.2.2.2 hb (Nat.le_refl _)⟩
      have d3 := (fun (wx : World) (hx : Below w3.heap.size w3 wx) => opBytes_any ps a c wx (hop3.below hx) hm1 hpw (by omega))
      have bH := own_bytesOf hoj3
      generalize opW ps = U at *
      generalize hZZ : sev fh = Z at *
      generalize hYY : sev 1 = Y at *
      clear hZZ hYY HRX s0
      go_region_held3 (fun w' => w'.cell? ⟨w2.heap.size, 1, none⟩ = some (.int .i64 (fh : Int)) ∧ w'.cell? ⟨w2.heap.size, 2, none⟩ = some (.int .i64 (fe : Int)) ∧ w'.cell? ⟨w2.heap.size, 3, none⟩ = some (.slice a ps.length c) ∧ w'.cell? ⟨w2.heap.size, 4, none⟩ = some (.string tx) ∧ Below w3.heap.size w3 w') (with_reducible first | exact hS0 | assumption | exact keep (by assumption) hbx | exact keep (by assumption) hby | exact keep (by assumption) hbz | exact keep (by assumption) ((Below.refl _ _).alloc (Nat.le_refl _) _) | exact keep hS0 tjd) (first | (go_at_call 81; with_reducible refine Calls.mono (d1 _) ?_; rintro e wx ⟨vx, rfl, hox, hbx⟩; have hof := own_form hox; obtain ⟨ax, cx, rfl⟩ := hof; have bx := own_bytesOf hox; have tx1 := below_two hS0.2.2.2.2 hbx (Nat.le_refl _)) | (go_at_call 81; with_reducible refine Calls.mono (d2 _) ?_; rintro e wy ⟨vy, rfl, hoy, hby⟩; have hof := own_form hoy; obtain ⟨ay, cy, rfl⟩ := hof; have by1 := own_bytesOf hoy; have bx1 := bx.below hby; have ty1 := below_two tx1 hby (Nat.le_refl _)) | (go_at_call 82; with_reducible refine Calls.mono (d3 _ ty1) ?_; rintro e wz ⟨vz, rfl, hoz, hbz⟩; have hof := own_form hoz; obtain ⟨az, cz, rfl⟩ := hof; have bz := own_bytesOf hoz; have bx2 := bx1.below hbz; have by2 := by1.below hbz; have tz1 := below_two ty1 hbz (Nat.le_refl _)) | (go_at_call 80; with_reducible refine Calls.mono (joinB4 HQ (bH.below tz1) bx2 by2 bz hrl) ?_; rintro e wk ⟨aj, cj, rfl, hok, hbk⟩; have tj1 := below_two tz1 hbk (Nat.le_refl _); have tjd := below_drew tj1))
      have HBk := below_two HB3 tj1 (Nat.le_refl _)
      have HBz := below_two HB3 tz1 (Nat.le_refl _)
      have hok1 := own_base hok HBz.size
      go_wp2_with fail
      go_ret2
      exact ⟨_, rfl, hok1, HBk⟩
    · have HQ : Hid (R = H ++ (sev 2 ++ (sev fe ++ sev fh))) := by show _ = _; rw [HRX.out]; unfold frameW; simp
      have s0 := sev_le (n := 2) (by decide)
      have hrl : R.length ≤ 50000000000 := by rw [HQ.out]; simp only [List.length_append]; omega
      have d1 := fun wx => sevens_any 2 wx (by decide)
      have d2 := fun wx => sevens_any fe wx (by omega)
      have hb3 := (Below.refl w2.heap.size w2).alloc (Nat.le_refl _) (.cells #[.int .i64 2, .int .i64 (fh : Int), .int .i64 (fe : Int), .slice a ps.length c, .string tx] 74)
      have hf3 := heap_alloc_new w2 (.cells #[.int .i64 2, .int .i64 (fh : Int), .int .i64 (fe : Int), .slice a ps.length c, .string tx] 74)
      have HB3 := below_two HBj hb3 (Nat.le_refl _)
      have hoj3 := own_below hoj1 hb3
      have hop3 := hop.below HB3
      obtain ⟨k3, kl3, _⟩ := blk hf3
      go_wp2_with fail
      generalize (w2.alloc (.cells #[.int .i64 2, .int .i64 (fh : Int), .int .i64 (fe : Int), .slice a ps.length c, .string tx] 74)) = w3 at *
      have hS0 : (fun w' => w'.cell? ⟨w2.heap.size, 1, none⟩ = some (.int .i64 (fh : Int)) ∧ w'.cell? ⟨w2.heap.size, 2, none⟩ = some (.int .i64 (fe : Int)) ∧ w'.cell? ⟨w2.heap.size, 3, none⟩ = some (.slice a ps.length c) ∧ w'.cell? ⟨w2.heap.size, 4, none⟩ = some (.string tx) ∧ Below w3.heap.size w3 w') w3.drew := ⟨by show w3.cell? _ = _; rw [k3]; rfl, by show w3.cell? _ = _; rw [k3]; rfl, by show w3.cell? _ = _; rw [k3]; rfl, by show w3.cell? _ = _; rw [k3]; rfl, ⟨rfl, rfl, rfl, Nat.le_refl _, fun _ _ => rfl⟩⟩
      have keep : ∀ {w' w'' : World}, (fun w' => w'.cell? ⟨w2.heap.size, 1, none⟩ = some (.int .i64 (fh : Int)) ∧ w'.cell? ⟨w2.heap.size, 2, none⟩ = some (.int .i64 (fe : Int)) ∧ w'.cell? ⟨w2.heap.size, 3, none⟩ = some (.slice a ps.length c) ∧ w'.cell? ⟨w2.heap.size, 4, none⟩ = some (.string tx) ∧ Below w3.heap.size w3 w') w' → Below w'.heap.size w' w'' → (fun w' => w'.cell? ⟨w2.heap.size, 1, none⟩ = some (.int .i64 (fh : Int)) ∧ w'.cell? ⟨w2.heap.size, 2, none⟩ = some (.int .i64 (fe : Int)) ∧ w'.cell? ⟨w2.heap.size, 3, none⟩ = some (.slice a ps.length c) ∧ w'.cell? ⟨w2.heap.size, 4, none⟩ = some (.string tx) ∧ Below w3.heap.size w3 w') w'' := fun {w' w''} h hb => ⟨(hb.cell (p := ⟨w2.heap.size, 1, none⟩) (Nat.lt_of_lt_of_le kl3 h.2.2.2.2.size)).trans h.1, (hb.cell (p := ⟨w2.heap.size, 2, none⟩) (Nat.lt_of_lt_of_le kl3 h.2.2.2.2.size)).trans h.2.1, (hb.cell (p := ⟨w2.heap.size, 3, none⟩) (Nat.lt_of_lt_of_le kl3 h.2.2.2.2.size)).trans h.2.2.1, (hb.cell (p := ⟨w2.heap.size, 4, none⟩) (Nat.lt_of_lt_of_le kl3 h.2.2.2.2.size)).trans h.2.2.2.1, below_two h.2.2.2.2 hb (Nat.le_refl _)⟩
      have d3 := (fun (wx : World) (_ : Below w3.heap.size w3 wx) => sevens_any fh wx hh1)
      have bH := own_bytesOf hoj3
      generalize sev fh = U at *
      generalize hZZ : sev fe = Z at *
      generalize hYY : sev 2 = Y at *
      clear hZZ hYY HRX s0
      go_region_held3 (fun w' => w'.cell? ⟨w2.heap.size, 1, none⟩ = some (.int .i64 (fh : Int)) ∧ w'.cell? ⟨w2.heap.size, 2, none⟩ = some (.int .i64 (fe : Int)) ∧ w'.cell? ⟨w2.heap.size, 3, none⟩ = some (.slice a ps.length c) ∧ w'.cell? ⟨w2.heap.size, 4, none⟩ = some (.string tx) ∧ Below w3.heap.size w3 w') (with_reducible first | exact hS0 | assumption | exact keep (by assumption) hbx | exact keep (by assumption) hby | exact keep (by assumption) hbz | exact keep (by assumption) ((Below.refl _ _).alloc (Nat.le_refl _) _) | exact keep hS0 tjd) (first | (go_at_call 81; with_reducible refine Calls.mono (d1 _) ?_; rintro e wx ⟨vx, rfl, hox, hbx⟩; have hof := own_form hox; obtain ⟨ax, cx, rfl⟩ := hof; have bx := own_bytesOf hox; have tx1 := below_two hS0.2.2.2.2 hbx (Nat.le_refl _)) | (go_at_call 81; with_reducible refine Calls.mono (d2 _) ?_; rintro e wy ⟨vy, rfl, hoy, hby⟩; have hof := own_form hoy; obtain ⟨ay, cy, rfl⟩ := hof; have by1 := own_bytesOf hoy; have bx1 := bx.below hby; have ty1 := below_two tx1 hby (Nat.le_refl _)) | (go_at_call 81; with_reducible refine Calls.mono (d3 _ ty1) ?_; rintro e wz ⟨vz, rfl, hoz, hbz⟩; have hof := own_form hoz; obtain ⟨az, cz, rfl⟩ := hof; have bz := own_bytesOf hoz; have bx2 := bx1.below hbz; have by2 := by1.below hbz; have tz1 := below_two ty1 hbz (Nat.le_refl _)) | (go_at_call 80; with_reducible refine Calls.mono (joinB4 HQ (bH.below tz1) bx2 by2 bz hrl) ?_; rintro e wk ⟨aj, cj, rfl, hok, hbk⟩; have tj1 := below_two tz1 hbk (Nat.le_refl _); have tjd := below_drew tj1))
      have HBk := below_two HB3 tj1 (Nat.le_refl _)
      have HBz := below_two HB3 tz1 (Nat.le_refl _)
      have hok1 := own_base hok HBz.size
      go_wp2_with fail
      go_ret2
      exact ⟨_, rfl, hok1, HBk⟩
    · have HQ : Hid (R = H ++ (sev 3 ++ (sev fe ++ (sev tx.size ++ sbytes tx)))) := by show _ = _; rw [HRX.out]; unfold frameW; simp
      have s0 := sev_le (n := 3) (by decide)
      have hrl : R.length ≤ 50000000000 := by rw [HQ.out]; simp only [List.length_append]; omega
      have d1 := fun wx => sevens_any 3 wx (by decide)
      have d2 := fun wx => sevens_any fe wx (by omega)
      have hb3 := (Below.refl w2.heap.size w2).alloc (Nat.le_refl _) (.cells #[.int .i64 3, .int .i64 (fh : Int), .int .i64 (fe : Int), .slice a ps.length c, .string tx] 74)
      have hf3 := heap_alloc_new w2 (.cells #[.int .i64 3, .int .i64 (fh : Int), .int .i64 (fe : Int), .slice a ps.length c, .string tx] 74)
      have HB3 := below_two HBj hb3 (Nat.le_refl _)
      have hoj3 := own_below hoj1 hb3
      have hop3 := hop.below HB3
      obtain ⟨k3, kl3, _⟩ := blk hf3
      go_wp2_with fail
      generalize (w2.alloc (.cells #[.int .i64 3, .int .i64 (fh : Int), .int .i64 (fe : Int), .slice a ps.length c, .string tx] 74)) = w3 at *
      have hS0 : (fun w' => w'.cell? ⟨w2.heap.size, 1, none⟩ = some (.int .i64 (fh : Int)) ∧ w'.cell? ⟨w2.heap.size, 2, none⟩ = some (.int .i64 (fe : Int)) ∧ w'.cell? ⟨w2.heap.size, 3, none⟩ = some (.slice a ps.length c) ∧ w'.cell? ⟨w2.heap.size, 4, none⟩ = some (.string tx) ∧ Below w3.heap.size w3 w') w3.drew := ⟨by show w3.cell? _ = _; rw [k3]; rfl, by show w3.cell? _ = _; rw [k3]; rfl, by show w3.cell? _ = _; rw [k3]; rfl, by show w3.cell? _ = _; rw [k3]; rfl, ⟨rfl, rfl, rfl, Nat.le_refl _, fun _ _ => rfl⟩⟩
      have keep : ∀ {w' w'' : World}, (fun w' => w'.cell? ⟨w2.heap.size, 1, none⟩ = some (.int .i64 (fh : Int)) ∧ w'.cell? ⟨w2.heap.size, 2, none⟩ = some (.int .i64 (fe : Int)) ∧ w'.cell? ⟨w2.heap.size, 3, none⟩ = some (.slice a ps.length c) ∧ w'.cell? ⟨w2.heap.size, 4, none⟩ = some (.string tx) ∧ Below w3.heap.size w3 w') w' → Below w'.heap.size w' w'' → (fun w' => w'.cell? ⟨w2.heap.size, 1, none⟩ = some (.int .i64 (fh : Int)) ∧ w'.cell? ⟨w2.heap.size, 2, none⟩ = some (.int .i64 (fe : Int)) ∧ w'.cell? ⟨w2.heap.size, 3, none⟩ = some (.slice a ps.length c) ∧ w'.cell? ⟨w2.heap.size, 4, none⟩ = some (.string tx) ∧ Below w3.heap.size w3 w') w'' := fun {w' w''} h hb => ⟨(hb.cell (p := ⟨w2.heap.size, 1, none⟩) (Nat.lt_of_lt_of_le kl3 h.2.2.2.2.size)).trans h.1, (hb.cell (p := ⟨w2.heap.size, 2, none⟩) (Nat.lt_of_lt_of_le kl3 h.2.2.2.2.size)).trans h.2.1, (hb.cell (p := ⟨w2.heap.size, 3, none⟩) (Nat.lt_of_lt_of_le kl3 h.2.2.2.2.size)).trans h.2.2.1, (hb.cell (p := ⟨w2.heap.size, 4, none⟩) (Nat.lt_of_lt_of_le kl3 h.2.2.2.2.size)).trans h.2.2.2.1, below_two h.2.2.2.2 hb (Nat.le_refl _)⟩
      have d3 := (fun (wx : World) (_ : Below w3.heap.size w3 wx) => textBytes_any tx wx (by omega))
      have bH := own_bytesOf hoj3
      generalize (sev tx.size ++ sbytes tx) = U at *
      generalize hZZ : sev fe = Z at *
      generalize hYY : sev 3 = Y at *
      clear hZZ hYY HRX s0
      go_region_held3 (fun w' => w'.cell? ⟨w2.heap.size, 1, none⟩ = some (.int .i64 (fh : Int)) ∧ w'.cell? ⟨w2.heap.size, 2, none⟩ = some (.int .i64 (fe : Int)) ∧ w'.cell? ⟨w2.heap.size, 3, none⟩ = some (.slice a ps.length c) ∧ w'.cell? ⟨w2.heap.size, 4, none⟩ = some (.string tx) ∧ Below w3.heap.size w3 w') (with_reducible first | exact hS0 | assumption | exact keep (by assumption) hbx | exact keep (by assumption) hby | exact keep (by assumption) hbz | exact keep (by assumption) ((Below.refl _ _).alloc (Nat.le_refl _) _) | exact keep hS0 tjd) (first | (go_at_call 81; with_reducible refine Calls.mono (d1 _) ?_; rintro e wx ⟨vx, rfl, hox, hbx⟩; have hof := own_form hox; obtain ⟨ax, cx, rfl⟩ := hof; have bx := own_bytesOf hox; have tx1 := below_two hS0.2.2.2.2 hbx (Nat.le_refl _)) | (go_at_call 81; with_reducible refine Calls.mono (d2 _) ?_; rintro e wy ⟨vy, rfl, hoy, hby⟩; have hof := own_form hoy; obtain ⟨ay, cy, rfl⟩ := hof; have by1 := own_bytesOf hoy; have bx1 := bx.below hby; have ty1 := below_two tx1 hby (Nat.le_refl _)) | (go_at_call 83; with_reducible refine Calls.mono (d3 _ ty1) ?_; rintro e wz ⟨vz, rfl, hoz, hbz⟩; have hof := own_form hoz; obtain ⟨az, cz, rfl⟩ := hof; have bz := own_bytesOf hoz; have bx2 := bx1.below hbz; have by2 := by1.below hbz; have tz1 := below_two ty1 hbz (Nat.le_refl _)) | (go_at_call 80; with_reducible refine Calls.mono (joinB4 HQ (bH.below tz1) bx2 by2 bz hrl) ?_; rintro e wk ⟨aj, cj, rfl, hok, hbk⟩; have tj1 := below_two tz1 hbk (Nat.le_refl _); have tjd := below_drew tj1))
      have HBk := below_two HB3 tj1 (Nat.le_refl _)
      have HBz := below_two HB3 tz1 (Nat.le_refl _)
      have hok1 := own_base hok HBz.size
      go_wp2_with fail
      go_ret2
      exact ⟨_, rfl, hok1, HBk⟩

end Go.Proofs.YtmdehfomogfmlaaDoor
