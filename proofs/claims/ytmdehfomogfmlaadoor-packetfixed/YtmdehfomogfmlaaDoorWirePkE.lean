/-
  Walks: wire.writer.frame, packet, wire.EncodePacket.
-/
import Derived.Test.YtmdehfomogfmlaaDoorWireEnc
import Derived.Test.YtmdehfomogfmlaaDoorWirePkD
namespace Go.Proofs.YtmdehfomogfmlaaDoor
open Go.RowKit Go.Lib

/-- P3.4: a frame as bytes -/
def frameW (f : FrameV) : List Nat := sev f.kind ++ (if f.kind = 1 then sev f.heard ++ opW f.op else if f.kind = 2 then sev f.epoch ++ sev f.heard else if f.kind = 3 then sev f.epoch ++ (sev f.text.size ++ sbytes f.text) else [])
/-- P3.5: a packet as bytes -/
def packetW (p : PacketV) : List Nat := sev p.epoch ++ (sev p.ack ++ (sev p.number ++ (if p.bare = true then [] else frameW p.frame)))
structure FrameW (f : FrameV) : Prop where
  kind : f.kind = 1 ∨ f.kind = 2 ∨ f.kind = 3
  heard : f.heard < 268435456
  epoch : f.epoch < 268435456
  many : f.op.length ≤ 10000
  parts : ∀ p ∈ f.op, PartW p
  text : f.text.size ≤ 1048576
theorem wr_row {w w' : World} {B b k : Nat} {wv wv' : Value} {l : List Nat} {cs : Array Value} {T : TypeId} (hs : WrStep w w' b wv wv') (hw : WrAt w B b wv l) (hp : w.heap[k]? = some (.cells cs T (0, 0))) (hk : k ≠ b) (hT : T ≠ 5) : w'.heap[k]? = some (.cells cs T (0, 0)) :=
  hs.chg.row hp (by
    rintro (e | e)
    · exact hk e
    · exact row_ne hw.own hp hT e.symm)

set_option maxRecDepth 100000 in
set_option maxHeartbeats 4000000 in
theorem wframe_any (f : FrameV) (a : Option Addr) (c : Nat) (w : World) (B b : Nat) (wv : Value) (l : List Nat) (h : WrAt w B b wv l) (hB : B ≤ w.heap.size) (hsrc : ∀ w', Below B w w' → OpAt w' a f.op) (hf : FrameW f) (hl : l.length ≤ 10000) :
    Calls Tryd.prog 107 #[.pointer (some ⟨b, 0, none⟩), .agg #[.int .i64 (f.kind : Int), .int .i64 (f.heard : Int), .int .i64 (f.epoch : Int), .slice a f.op.length c, .string f.text]] w fun r w' => r = .returned (.tuple #[]) ∧ (∃ wv', WrAt w' B b wv' (l ++ frameW f) ∧ WrStep w w' b wv wv') := by
  obtain ⟨k, fh, fe, ps, tx⟩ := f
  obtain ⟨hk, hh, he, hm, hpw, htx⟩ := hf
  simp only at hk hh he hm hpw htx hsrc ⊢
  have hbl := h.cells.2.1
  obtain ⟨R, hR⟩ : ∃ R, R = l ++ frameW ⟨k, fh, fe, ps, tx⟩ := ⟨_, rfl⟩
  rw [← hR]
  have s1 := sev_le (n := fh) hh
  have s2 := sev_le (n := fe) he
  have s3 := sev_le (n := tx.size) (by omega)
  rcases hk with rfl | rfl | rfl
  · have HR : Hid (R = (((l ++ sev 1) ++ sev fh) ++ opW ps)) := by show _ = _; rw [hR]; unfold frameW; simp [List.append_assoc]
    have s0 := sev_le (n := 1) (by decide)
    have hw : WrAt (w.alloc (.cells #[.int .i64 1, .int .i64 (fh : Int), .int .i64 (fe : Int), .slice a ps.length c, .string tx] 74)) B b wv l := h.below ((Below.refl _ w).alloc (Nat.le_refl _) _)
    have hp := heap_alloc_new w (.cells #[.int .i64 1, .int .i64 (fh : Int), .int .i64 (fe : Int), .slice a ps.length c, .string tx] 74)
    have hz : B ≤ (w.alloc (.cells #[.int .i64 1, .int .i64 (fh : Int), .int .i64 (fe : Int), .slice a ps.length c, .string tx] 74)).heap.size := by simp; omega
    have hb := (Below.refl B w).alloc hB (.cells #[.int .i64 1, .int .i64 (fh : Int), .int .i64 (fe : Int), .slice a ps.length c, .string tx] 74)
    have c1 := wnumber_any 1 _ B b wv l hw hz (by decide) (by omega)
    clear hR h
    obtain ⟨q0, ql0, qf0⟩ := blk hp
    go_enter Tryd.func107, Tryd.ntmps107
    go_wp2_with fail
    refine c1.mono ?_
    rintro r w1 ⟨rfl, wv1, hw1, hs1⟩
    have hz1 := Nat.le_trans hz hs1.chg.size
    have hb1 := hb.trans (hs1.below hw hz)
    have hp1 := wr_row hs1 hw hp (by omega) (by decide)
    replace hs1 := hs1.alloc
    clear c1 hp hw hb hz q0 ql0 qf0
    obtain ⟨q1, ql1, qf1⟩ := blk hp1
    have l1 : (l ++ sev 1).length ≤ 10004 := by rw [List.length_append]; omega
    have c2 := wnumber_any fh _ B b wv1 _ hw1 hz1 (by omega) (by omega)
    go_wp2_with fail
    refine c2.mono ?_
    rintro r w2 ⟨rfl, wv2, hw2, hs2⟩
    have hz2 := Nat.le_trans hz1 hs2.chg.size
    have hb2 := hb1.trans (hs2.below hw1 hz1)
    have hp2 := wr_row hs2 hw1 hp1 (by omega) (by decide)
    have hs12 := hs1.trans hs2
    clear c2 hp1 hw1 hb1 hz1 q1 ql1 qf1
    obtain ⟨q2, ql2, qf2⟩ := blk hp2
    have l2 : (l ++ sev 1 ++ sev fh).length ≤ 10008 := by rw [List.length_append]; omega
    have c3 := wop_any ps a c w2 B b wv2 _ hw2 hz2 (fun w' hb => hsrc w' (hb2.trans hb)) hm hpw (by omega)
    rw [← HR.out] at c3
    go_wp2_with fail
    refine c3.mono ?_
    rintro r w3 ⟨rfl, wv3, hw3, hs3⟩
    go_wp2_with fail
    go_end0
    exact ⟨rfl, wv3, hw3, hs12.trans hs3⟩
  · have HR : Hid (R = (((l ++ sev 2) ++ sev fe) ++ sev fh)) := by show _ = _; rw [hR]; unfold frameW; simp [List.append_assoc]
    have s0 := sev_le (n := 2) (by decide)
    have hw : WrAt (w.alloc (.cells #[.int .i64 2, .int .i64 (fh : Int), .int .i64 (fe : Int), .slice a ps.length c, .string tx] 74)) B b wv l := h.below ((Below.refl _ w).alloc (Nat.le_refl _) _)
    have hp := heap_alloc_new w (.cells #[.int .i64 2, .int .i64 (fh : Int), .int .i64 (fe : Int), .slice a ps.length c, .string tx] 74)
    have hz : B ≤ (w.alloc (.cells #[.int .i64 2, .int .i64 (fh : Int), .int .i64 (fe : Int), .slice a ps.length c, .string tx] 74)).heap.size := by simp; omega
    have hb := (Below.refl B w).alloc hB (.cells #[.int .i64 2, .int .i64 (fh : Int), .int .i64 (fe : Int), .slice a ps.length c, .string tx] 74)
    have c1 := wnumber_any 2 _ B b wv l hw hz (by decide) (by omega)
    clear hR h
    obtain ⟨q0, ql0, qf0⟩ := blk hp
    go_enter Tryd.func107, Tryd.ntmps107
    go_wp2_with fail
    refine c1.mono ?_
    rintro r w1 ⟨rfl, wv1, hw1, hs1⟩
    have hz1 := Nat.le_trans hz hs1.chg.size
    have hb1 := hb.trans (hs1.below hw hz)
    have hp1 := wr_row hs1 hw hp (by omega) (by decide)
    replace hs1 := hs1.alloc
    clear c1 hp hw hb hz q0 ql0 qf0
    obtain ⟨q1, ql1, qf1⟩ := blk hp1
    have l1 : (l ++ sev 2).length ≤ 10004 := by rw [List.length_append]; omega
    have c2 := wnumber_any fe _ B b wv1 _ hw1 hz1 (by omega) (by omega)
    go_wp2_with fail
    refine c2.mono ?_
    rintro r w2 ⟨rfl, wv2, hw2, hs2⟩
    have hz2 := Nat.le_trans hz1 hs2.chg.size
    have hb2 := hb1.trans (hs2.below hw1 hz1)
    have hp2 := wr_row hs2 hw1 hp1 (by omega) (by decide)
    have hs12 := hs1.trans hs2
    clear c2 hp1 hw1 hb1 hz1 q1 ql1 qf1
    obtain ⟨q2, ql2, qf2⟩ := blk hp2
    have l2 : (l ++ sev 2 ++ sev fe).length ≤ 10008 := by rw [List.length_append]; omega
    have c3 := wnumber_any fh _ B b wv2 _ hw2 hz2 (by omega) (by omega)
    rw [← HR.out] at c3
    go_wp2_with fail
    refine c3.mono ?_
    rintro r w3 ⟨rfl, wv3, hw3, hs3⟩
    go_wp2_with fail
    go_end0
    exact ⟨rfl, wv3, hw3, hs12.trans hs3⟩
  · have HR : Hid (R = (((l ++ sev 3) ++ sev fe) ++ sev tx.size ++ sbytes tx)) := by show _ = _; rw [hR]; unfold frameW; simp [List.append_assoc]
    have s0 := sev_le (n := 3) (by decide)
    have hw : WrAt (w.alloc (.cells #[.int .i64 3, .int .i64 (fh : Int), .int .i64 (fe : Int), .slice a ps.length c, .string tx] 74)) B b wv l := h.below ((Below.refl _ w).alloc (Nat.le_refl _) _)
    have hp := heap_alloc_new w (.cells #[.int .i64 3, .int .i64 (fh : Int), .int .i64 (fe : Int), .slice a ps.length c, .string tx] 74)
    have hz : B ≤ (w.alloc (.cells #[.int .i64 3, .int .i64 (fh : Int), .int .i64 (fe : Int), .slice a ps.length c, .string tx] 74)).heap.size := by simp; omega
    have hb := (Below.refl B w).alloc hB (.cells #[.int .i64 3, .int .i64 (fh : Int), .int .i64 (fe : Int), .slice a ps.length c, .string tx] 74)
    have c1 := wnumber_any 3 _ B b wv l hw hz (by decide) (by omega)
    clear hR h
    obtain ⟨q0, ql0, qf0⟩ := blk hp
    go_enter Tryd.func107, Tryd.ntmps107
    go_wp2_with fail
    refine c1.mono ?_
    rintro r w1 ⟨rfl, wv1, hw1, hs1⟩
    have hz1 := Nat.le_trans hz hs1.chg.size
    have hb1 := hb.trans (hs1.below hw hz)
    have hp1 := wr_row hs1 hw hp (by omega) (by decide)
    replace hs1 := hs1.alloc
    clear c1 hp hw hb hz q0 ql0 qf0
    obtain ⟨q1, ql1, qf1⟩ := blk hp1
    have l1 : (l ++ sev 3).length ≤ 10004 := by rw [List.length_append]; omega
    have c2 := wnumber_any fe _ B b wv1 _ hw1 hz1 (by omega) (by omega)
    go_wp2_with fail
    refine c2.mono ?_
    rintro r w2 ⟨rfl, wv2, hw2, hs2⟩
    have hz2 := Nat.le_trans hz1 hs2.chg.size
    have hb2 := hb1.trans (hs2.below hw1 hz1)
    have hp2 := wr_row hs2 hw1 hp1 (by omega) (by decide)
    have hs12 := hs1.trans hs2
    clear c2 hp1 hw1 hb1 hz1 q1 ql1 qf1
    obtain ⟨q2, ql2, qf2⟩ := blk hp2
    have l2 : (l ++ sev 3 ++ sev fe).length ≤ 10008 := by rw [List.length_append]; omega
    have c3 := wtext_any tx w2 B b wv2 _ hw2 hz2 (by omega) (by omega)
    rw [← HR.out] at c3
    go_wp2_with fail
    refine c3.mono ?_
    rintro r w3 ⟨rfl, wv3, hw3, hs3⟩
    go_wp2_with fail
    go_end0
    exact ⟨rfl, wv3, hw3, hs12.trans hs3⟩

structure PacketW (p : PacketV) : Prop where
  epoch : p.epoch < 268435456
  number : p.number < 268435456
  ack : p.ack < 268435456
  frame : p.bare = false → FrameW p.frame

set_option maxRecDepth 100000 in
set_option maxHeartbeats 4000000 in
theorem wpacket_any (p : PacketV) (a : Option Addr) (c : Nat) (w : World) (B b : Nat) (wv : Value) (h : WrAt w B b wv []) (hB : B ≤ w.heap.size) (hsrc : ∀ w', Below B w w' → OpAt w' a p.frame.op) (hp : PacketW p) :
    Calls Tryd.prog 78 #[.pointer (some ⟨b, 0, none⟩), pkVal p (.slice a p.frame.op.length c)] w fun r w' => r = .returned (.tuple #[]) ∧ (∃ wv', WrAt w' B b wv' (packetW p) ∧ WrStep w w' b wv wv') := by
  obtain ⟨ep, num, bare, ack, f⟩ := p
  obtain ⟨h1, h2, h3, hf⟩ := hp
  unfold pkVal
  simp only at h1 h2 h3 hf hsrc ⊢
  have hbl := h.cells.2.1
  obtain ⟨R, hR⟩ : ∃ R, R = packetW ⟨ep, num, bare, ack, f⟩ := ⟨_, rfl⟩
  rw [← hR]
  have s0 := sev_le (n := ep) h1
  have s1 := sev_le (n := ack) h3
  have s2 := sev_le (n := num) h2
  cases bare with
  | true =>
    have HR : Hid (R = [] ++ sev ep ++ sev ack ++ sev num) := by show _ = _; rw [hR]; unfold packetW; simp [List.append_assoc]
    have hw : WrAt (w.alloc (.cells #[.int .i64 (ep : Int), .int .i64 (num : Int), .bool true, .int .i64 (ack : Int), .int .i64 (f.kind : Int), .int .i64 (f.heard : Int), .int .i64 (f.epoch : Int), .slice a f.op.length c, .string f.text] 79)) B b wv [] := h.below ((Below.refl _ w).alloc (Nat.le_refl _) _)
    have hp := heap_alloc_new w (.cells #[.int .i64 (ep : Int), .int .i64 (num : Int), .bool true, .int .i64 (ack : Int), .int .i64 (f.kind : Int), .int .i64 (f.heard : Int), .int .i64 (f.epoch : Int), .slice a f.op.length c, .string f.text] 79)
    have hz : B ≤ (w.alloc (.cells #[.int .i64 (ep : Int), .int .i64 (num : Int), .bool true, .int .i64 (ack : Int), .int .i64 (f.kind : Int), .int .i64 (f.heard : Int), .int .i64 (f.epoch : Int), .slice a f.op.length c, .string f.text] 79)).heap.size := by simp; omega
    have hb := (Below.refl B w).alloc hB (.cells #[.int .i64 (ep : Int), .int .i64 (num : Int), .bool true, .int .i64 (ack : Int), .int .i64 (f.kind : Int), .int .i64 (f.heard : Int), .int .i64 (f.epoch : Int), .slice a f.op.length c, .string f.text] 79)
    have c1 := wnumber_any ep _ B b wv [] hw hz h1 (by simp)
    clear hR h
    obtain ⟨q0, ql0, qf0⟩ := blk hp
    go_enter Tryd.func78, Tryd.ntmps78
    go_wp2_with fail
    refine c1.mono ?_
    rintro r w1 ⟨rfl, wv1, hw1, hs1⟩
    have hz1 := Nat.le_trans hz hs1.chg.size
    have hb1 := hb.trans (hs1.below hw hz)
    have hp1 := wr_row hs1 hw hp (by omega) (by decide)
    replace hs1 := hs1.alloc
    clear c1 hp hw hb hz q0 ql0 qf0
    obtain ⟨q1, ql1, qf1⟩ := blk hp1
    have l1 : ([] ++ sev ep).length ≤ 4 := by simpa using s0
    have c2 := wnumber_any ack _ B b wv1 _ hw1 hz1 h3 (by omega)
    go_wp2_with fail
    refine c2.mono ?_
    rintro r w2 ⟨rfl, wv2, hw2, hs2⟩
    have hz2 := Nat.le_trans hz1 hs2.chg.size
    have hb2 := hb1.trans (hs2.below hw1 hz1)
    have hp2 := wr_row hs2 hw1 hp1 (by omega) (by decide)
    have hs12 := hs1.trans hs2
    clear c2 hp1 hw1 hb1 hz1 q1 ql1 qf1
    obtain ⟨q2, ql2, qf2⟩ := blk hp2
    have l2 : ([] ++ sev ep ++ sev ack).length ≤ 8 := by rw [List.length_append]; omega
    have c3 := wnumber_any num _ B b wv2 _ hw2 hz2 h2 (by omega)
    rw [← HR.out] at c3
    go_wp2_with fail
    refine c3.mono ?_
    rintro r w3 ⟨rfl, wv3, hw3, hs3⟩
    have hp3 := wr_row hs3 hw2 hp2 (by omega) (by decide)
    have hz3 := Nat.le_trans hz2 hs3.chg.size
    have hb3 := hb2.trans (hs3.below hw2 hz2)
    have hs13 := hs12.trans hs3
    clear c3 hp2 hw2 hb2 hz2 q2 ql2 qf2
    obtain ⟨q3, ql3, qf3⟩ := blk hp3
    go_wp2_with fail
    go_end0
    exact ⟨rfl, wv3, hw3, hs13⟩
  | false =>
    have HR : Hid (R = [] ++ sev ep ++ sev ack ++ sev num ++ frameW f) := by show _ = _; rw [hR]; unfold packetW; simp [List.append_assoc]
    have hw : WrAt (w.alloc (.cells #[.int .i64 (ep : Int), .int .i64 (num : Int), .bool false, .int .i64 (ack : Int), .int .i64 (f.kind : Int), .int .i64 (f.heard : Int), .int .i64 (f.epoch : Int), .slice a f.op.length c, .string f.text] 79)) B b wv [] := h.below ((Below.refl _ w).alloc (Nat.le_refl _) _)
    have hp := heap_alloc_new w (.cells #[.int .i64 (ep : Int), .int .i64 (num : Int), .bool false, .int .i64 (ack : Int), .int .i64 (f.kind : Int), .int .i64 (f.heard : Int), .int .i64 (f.epoch : Int), .slice a f.op.length c, .string f.text] 79)
    have hz : B ≤ (w.alloc (.cells #[.int .i64 (ep : Int), .int .i64 (num : Int), .bool false, .int .i64 (ack : Int), .int .i64 (f.kind : Int), .int .i64 (f.heard : Int), .int .i64 (f.epoch : Int), .slice a f.op.length c, .string f.text] 79)).heap.size := by simp; omega
    have hb := (Below.refl B w).alloc hB (.cells #[.int .i64 (ep : Int), .int .i64 (num : Int), .bool false, .int .i64 (ack : Int), .int .i64 (f.kind : Int), .int .i64 (f.heard : Int), .int .i64 (f.epoch : Int), .slice a f.op.length c, .string f.text] 79)
    have c1 := wnumber_any ep _ B b wv [] hw hz h1 (by simp)
    clear hR h
    obtain ⟨q0, ql0, qf0⟩ := blk hp
    go_enter Tryd.func78, Tryd.ntmps78
    go_wp2_with fail
    refine c1.mono ?_
    rintro r w1 ⟨rfl, wv1, hw1, hs1⟩
    have hz1 := Nat.le_trans hz hs1.chg.size
    have hb1 := hb.trans (hs1.below hw hz)
    have hp1 := wr_row hs1 hw hp (by omega) (by decide)
    replace hs1 := hs1.alloc
    clear c1 hp hw hb hz q0 ql0 qf0
    obtain ⟨q1, ql1, qf1⟩ := blk hp1
    have l1 : ([] ++ sev ep).length ≤ 4 := by simpa using s0
    have c2 := wnumber_any ack _ B b wv1 _ hw1 hz1 h3 (by omega)
    go_wp2_with fail
    refine c2.mono ?_
    rintro r w2 ⟨rfl, wv2, hw2, hs2⟩
    have hz2 := Nat.le_trans hz1 hs2.chg.size
    have hb2 := hb1.trans (hs2.below hw1 hz1)
    have hp2 := wr_row hs2 hw1 hp1 (by omega) (by decide)
    have hs12 := hs1.trans hs2
    clear c2 hp1 hw1 hb1 hz1 q1 ql1 qf1
    obtain ⟨q2, ql2, qf2⟩ := blk hp2
    have l2 : ([] ++ sev ep ++ sev ack).length ≤ 8 := by rw [List.length_append]; omega
    have c3 := wnumber_any num _ B b wv2 _ hw2 hz2 h2 (by omega)
    go_wp2_with fail
    refine c3.mono ?_
    rintro r w3 ⟨rfl, wv3, hw3, hs3⟩
    have hp3 := wr_row hs3 hw2 hp2 (by omega) (by decide)
    have hz3 := Nat.le_trans hz2 hs3.chg.size
    have hb3 := hb2.trans (hs3.below hw2 hz2)
    have hs13 := hs12.trans hs3
    clear c3 hp2 hw2 hb2 hz2 q2 ql2 qf2
    obtain ⟨q3, ql3, qf3⟩ := blk hp3
    have l3 : ([] ++ sev ep ++ sev ack ++ sev num).length ≤ 12 := by rw [List.length_append]; omega
    have c4 := wframe_any f a c w3 B b wv3 _ hw3 hz3 (fun w' hb => hsrc w' (hb3.trans hb)) (by first | exact hf rfl | exact hf trivial) (by omega)
    rw [← HR.out] at c4
    go_wp2_with fail
    refine c4.mono ?_
    rintro r w4 ⟨rfl, wv4, hw4, hs4⟩
    go_wp2_with fail
    go_end0
    exact ⟨rfl, wv4, hw4, hs13.trans hs4⟩

theorem pkErr_zero {p : PacketV} (h : pkErr p = 0) (hs : ∀ q ∈ p.frame.op, q.text.size ≤ 1048576) (hx : p.frame.text.size ≤ 1048576) : PacketW p := by
  unfold pkErr packetErr at h
  have i1 : inN p.epoch = true := by
    cases hi : inN p.epoch with
    | true => rfl
    | false => rw [hi] at h; simp at h
  have i2 : inN p.number = true := by
    cases hi : inN p.number with
    | true => rfl
    | false => rw [i1, hi] at h; simp at h
  have i3 : inN p.ack = true := by
    cases hi : inN p.ack with
    | true => rfl
    | false => rw [i1, i2, hi] at h; simp at h
  rw [i1, i2, i3] at h
  have j1 : 0 ≤ (p.epoch : Int) ∧ (p.epoch : Int) ≤ 1048576 := of_decide_eq_true i1
  have j2 : 0 ≤ (p.number : Int) ∧ (p.number : Int) ≤ 1048576 := of_decide_eq_true i2
  have j3 : 0 ≤ (p.ack : Int) ∧ (p.ack : Int) ≤ 1048576 := of_decide_eq_true i3
  refine ⟨by omega, by omega, by omega, fun hb => ?_⟩
  rw [hb] at h
  simp only [Bool.true_eq_false, Bool.false_eq_true, if_false] at h
  split at h
  · cases h
  split at h
  · cases h
  unfold frameErr at h
  split at h
  · cases h
  rename_i hk
  split at h
  · cases h
  rename_i hh
  split at h
  · cases h
  rename_i he
  split at h
  · rename_i h1; exact absurd h h1
  rename_i ho
  have jh : 0 ≤ (p.frame.heard : Int) ∧ (p.frame.heard : Int) ≤ 1048576 := of_decide_eq_true (show inN _ = true by simpa using hh)
  have je : 0 ≤ (p.frame.epoch : Int) ∧ (p.frame.epoch : Int) ≤ 1048576 := of_decide_eq_true (show inN _ = true by simpa using he)
  obtain ⟨hm, hp⟩ := opErr_parts (show opErr p.frame.op = 0 by simpa using ho) hs
  exact ⟨by omega, by omega, by omega, hm, hp, hx⟩

set_option maxRecDepth 100000 in
set_option maxHeartbeats 2000000 in
theorem encodePacket_ok (p : PacketV) (a : Option Addr) (c : Nat) (w : World) (hop : OpAt w a p.frame.op) (hs : ∀ q ∈ p.frame.op, q.text.size ≤ 1048576) (hm : p.frame.op.length ≤ 9223372036854775806) (hx : p.frame.text.size ≤ 1048576) (hT : Tabs w) (herr : pkErr p = 0) :
    Calls Tryd.prog 39 #[pkVal p (.slice a p.frame.op.length c)] w fun r w' => ∃ v, r = .returned (.tuple #[v, .int .i64 0]) ∧ w'.ownsRow w.heap.size 5 1 v (packetW p).length (octs (packetW p)) ∧ Below w.heap.size w w' := by
  have hpw := pkErr_zero herr hs hx
  have hb0 := (Below.refl w.heap.size w).alloc (Nat.le_refl _) (.cells #[.int .i64 (p.epoch : Int), .int .i64 (p.number : Int), .bool p.bare, .int .i64 (p.ack : Int), .int .i64 (p.frame.kind : Int), .int .i64 (p.frame.heard : Int), .int .i64 (p.frame.epoch : Int), .slice a p.frame.op.length c, .string p.frame.text] 79)
  have hpb := heap_alloc_new w (.cells #[.int .i64 (p.epoch : Int), .int .i64 (p.number : Int), .bool p.bare, .int .i64 (p.ack : Int), .int .i64 (p.frame.kind : Int), .int .i64 (p.frame.heard : Int), .int .i64 (p.frame.epoch : Int), .slice a p.frame.op.length c, .string p.frame.text] 79)
  have cC := checkPacket_any p.epoch p.number p.bare p.ack p.frame.kind p.frame.heard p.frame.epoch p.frame.op a c p.frame.text _ (hop.below hb0) hm (fun p hp => by have := hs p hp; omega) (by omega) (hT.below hb0)
  rw [show packetErr p.epoch p.number p.bare p.ack p.frame.kind p.frame.heard p.frame.epoch p.frame.op p.frame.text = 0 from herr] at cC
  obtain ⟨R, hR⟩ : ∃ R, R = packetW p := ⟨_, rfl⟩
  rw [← hR]
  have HR : Hid (R = packetW p) := hR
  clear hR
  have cW := fun (wx : World) (b : Nat) (hw : WrAt wx w.heap.size b (.slice none 0 0) []) (hz : w.heap.size ≤ wx.heap.size) (hB : Below w.heap.size w wx) => wpacket_any p a c wx w.heap.size b _ hw hz (fun w' hb => hop.below (hB.trans hb)) hpw
  rw [← HR.out] at cW
  unfold pkVal at cW ⊢
  clear HR hpw hs hx herr hm
  obtain ⟨ep, num, bare, ack, ⟨fk, fh, fe, ps, tx⟩⟩ := p
  simp only at cW cC hb0 hpb hop ⊢
  go_enter Tryd.func39, Tryd.ntmps39
  go_wp2_with fail
  refine cC.mono ?_
  rintro r w1 ⟨rfl, hb1⟩
  have HB1 := below_two hb0 hb1 (Nat.le_refl _)
  have hp1 := (hb1.block _ (Array.getElem?_eq_some_iff.1 hpb).1).trans hpb
  obtain ⟨q1, ql1, qf1⟩ := blk hp1
  clear cC
  have hzw : w.heap.size ≤ w1.heap.size := HB1.size
  have HB2 := HB1.alloc hzw (.cells #[.slice none 0 0] 128)
  have hwr : WrAt (w1.alloc (.cells #[.slice none 0 0] 128)) w.heap.size w1.heap.size (.slice none 0 0) [] := ⟨hzw, heap_alloc_new w1 _, World.ownsRow_nil _ _ _ _⟩
  have cW1 := cW _ _ hwr HB2.size HB2
  clear cW
  go_wp2_with fail
  refine cW1.mono ?_
  generalize (w1.alloc (.cells #[.slice none 0 0] 128)) = w2 at *
  rintro r w3 ⟨rfl, wv3, hw3, hs3⟩
  have HB3 := HB2.trans (hs3.below hwr HB2.size)
  obtain ⟨c0, _, _⟩ := hw3.cells
  obtain ⟨va, vc, rfl⟩ := own_form hw3.own
  clear cW1
  go_wp2_with fail
  go_ret2
  exact ⟨_, rfl, hw3.own, HB3⟩

end Go.Proofs.YtmdehfomogfmlaaDoor
