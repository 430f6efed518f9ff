/-
  Walk: wire.readPacket.
-/
import Derived.Test.YtmdehfomogfmlaaDoorWireFrm
namespace Go.Proofs.YtmdehfomogfmlaaDoor
open Go.RowKit Go.Lib

/-- a packet as a value -/
def pkVal (p : PacketV) (v : Value) : Value := .agg #[.int .i64 (p.epoch : Int), .int .i64 (p.number : Int), .bool p.bare, .int .i64 (p.ack : Int), .int .i64 (p.frame.kind : Int), .int .i64 (p.frame.heard : Int), .int .i64 (p.frame.epoch : Int), v, .string p.frame.text]
structure PacketSmall (p : PacketV) : Prop where
  epoch : p.epoch < 268435456
  number : p.number < 268435456
  ack : p.ack < 268435456
  frame : FrameSmall p.frame
theorem frame0_small : FrameSmall frame0 := ⟨by decide, by decide, by decide, by decide, by simp [frame0], by decide⟩

set_option maxRecDepth 100000 in
set_option maxHeartbeats 4000000 in
theorem readPacket_any (w : World) (B b : Nat) (st : Except Int (List Nat)) (h : RdSt w B b st) :
    Calls Tryd.prog 88 #[.pointer (some ⟨b, 0, none⟩)] w fun r w' => ∃ (p : PacketV) (v : Value), r = .returned (pkVal p v) ∧ w'.ownsRow w.heap.size 68 3 v p.frame.op.length (partCells p.frame.op) ∧ RdSt w' B b (rest (andR st packetP)) ∧ (∀ x, andR st packetP = .ok x → x.1 = p) ∧ PacketSmall p ∧ Chg (fun k => k = b) w w' := by
  have hb := h.base
  have hc : Chg (fun k => k = b) w ((w.alloc (.cells #[.int .i64 0, .int .i64 0, .bool false, .int .i64 0, .int .i64 0, .int .i64 0, .int .i64 0, .slice none 0 0, .string ⟨#[]⟩] 79)).alloc (.cells #[.int .i64 0, .int .i64 0, .bool false, .int .i64 0, .int .i64 0, .int .i64 0, .int .i64 0, .slice none 0 0, .string ⟨#[]⟩] 79)) := ((Chg.refl _ _).alloc _).alloc _
  have hres := row_old (heap_alloc_new w (.cells #[.int .i64 0, .int .i64 0, .bool false, .int .i64 0, .int .i64 0, .int .i64 0, .int .i64 0, .slice none 0 0, .string ⟨#[]⟩] 79)) (.cells #[.int .i64 0, .int .i64 0, .bool false, .int .i64 0, .int .i64 0, .int .i64 0, .int .i64 0, .slice none 0 0, .string ⟨#[]⟩] 79)
  have hp := heap_alloc_new (w.alloc (.cells #[.int .i64 0, .int .i64 0, .bool false, .int .i64 0, .int .i64 0, .int .i64 0, .int .i64 0, .slice none 0 0, .string ⟨#[]⟩] 79)) (.cells #[.int .i64 0, .int .i64 0, .bool false, .int .i64 0, .int .i64 0, .int .i64 0, .int .i64 0, .slice none 0 0, .string ⟨#[]⟩] 79)
  rw [show (w.alloc (.cells #[.int .i64 0, .int .i64 0, .bool false, .int .i64 0, .int .i64 0, .int .i64 0, .int .i64 0, .slice none 0 0, .string ⟨#[]⟩] 79)).heap.size = w.heap.size + 1 by simp] at hp
  have hz : w.heap.size + 2 ≤ ((w.alloc (.cells #[.int .i64 0, .int .i64 0, .bool false, .int .i64 0, .int .i64 0, .int .i64 0, .int .i64 0, .slice none 0 0, .string ⟨#[]⟩] 79)).alloc (.cells #[.int .i64 0, .int .i64 0, .bool false, .int .i64 0, .int .i64 0, .int .i64 0, .int .i64 0, .slice none 0 0, .string ⟨#[]⟩] 79)).heap.size := by simp
  have hst := h.chg (((Chg.refl (fun _ => False) w).alloc (.cells #[.int .i64 0, .int .i64 0, .bool false, .int .i64 0, .int .i64 0, .int .i64 0, .int .i64 0, .slice none 0 0, .string ⟨#[]⟩] 79)).alloc (.cells #[.int .i64 0, .int .i64 0, .bool false, .int .i64 0, .int .i64 0, .int .i64 0, .int .i64 0, .slice none 0 0, .string ⟨#[]⟩] 79)) (fun _ h => h.elim)
  have cN := number_any _ B b _ hst
  clear hst h
  obtain ⟨R, hR⟩ : ∃ R, R = andR st packetP := ⟨_, rfl⟩
  rw [← hR]
  have HK : Hid (R = andR st packetP) := hR
  clear hR
  go_enter Tryd.func88, Tryd.ntmps88
  go_wp2_with fail
  refine cN.mono ?_
  generalize ((w.alloc (.cells #[.int .i64 0, .int .i64 0, .bool false, .int .i64 0, .int .i64 0, .int .i64 0, .int .i64 0, .slice none 0 0, .string ⟨#[]⟩] 79)).alloc (.cells #[.int .i64 0, .int .i64 0, .bool false, .int .i64 0, .int .i64 0, .int .i64 0, .int .i64 0, .slice none 0 0, .string ⟨#[]⟩] 79)) = w0 at *
  rintro r w1 ⟨ep, rfl, hn0, hst, hx, hc1⟩
  replace HK : Hid (R = andR (rest (andR st numP)) (seqP numP fun ack => seqP numP fun num => if num = 0 then pureP ⟨ep, 0, true, ack, frame0⟩ else seqP frameP fun f => pureP ⟨ep, num, false, ack, f⟩)) := HK.out.trans (seq_at hx)
  generalize rest (andR st numP) = st1 at *
  replace hres := hc1.row hres (by omega)
  replace hp := hc1.row hp (by omega)
  replace hc := hc.trans hc1 (fun _ _ h => h)
  replace hz := Nat.le_trans hz hc1.size
  clear cN hx hc1
  obtain ⟨p1, pl1, pf1⟩ := blk hp
  have hs := (blk_put hp 0 (.int .i64 (ep : Int))).2
  replace hp : (w1.setCell ⟨w.heap.size + 1, 0, none⟩ (.int .i64 (ep : Int))).heap[w.heap.size + 1]? = some (.cells #[.int .i64 (ep : Int), .int .i64 0, .bool false, .int .i64 0, .int .i64 0, .int .i64 0, .int .i64 0, .slice none 0 0, .string ⟨#[]⟩] 79 (0, 0)) := (blk_put hp 0 (.int .i64 (ep : Int))).1
  replace hres := hs.row hres (by omega)
  replace hst := hst.chg hs (fun k hk => by omega)
  replace hc := hc.trans hs (fun i hi h => by omega)
  replace hz := Nat.le_trans hz hs.size
  have cN := number_any _ B b _ hst
  clear hst hs
  go_wp2_with fail
  refine cN.mono ?_
  generalize (w1.setCell ⟨w.heap.size + 1, 0, none⟩ (.int .i64 (ep : Int))) = w1x at *
  rintro r w2 ⟨ack, rfl, hn1, hst, hx, hc1⟩
  replace HK : Hid (R = andR (rest (andR st1 numP)) (seqP numP fun num => if num = 0 then pureP ⟨ep, 0, true, ack, frame0⟩ else seqP frameP fun f => pureP ⟨ep, num, false, ack, f⟩)) := HK.out.trans (seq_at hx)
  generalize rest (andR st1 numP) = st2 at *
  replace hres := hc1.row hres (by omega)
  replace hp := hc1.row hp (by omega)
  replace hc := hc.trans hc1 (fun _ _ h => h)
  replace hz := Nat.le_trans hz hc1.size
  clear p1 pl1 pf1
  clear cN hx hc1
  obtain ⟨p2, pl2, pf2⟩ := blk hp
  have hs := (blk_put hp 3 (.int .i64 (ack : Int))).2
  replace hp : (w2.setCell ⟨w.heap.size + 1, 3, none⟩ (.int .i64 (ack : Int))).heap[w.heap.size + 1]? = some (.cells #[.int .i64 (ep : Int), .int .i64 0, .bool false, .int .i64 (ack : Int), .int .i64 0, .int .i64 0, .int .i64 0, .slice none 0 0, .string ⟨#[]⟩] 79 (0, 0)) := (blk_put hp 3 (.int .i64 (ack : Int))).1
  replace hres := hs.row hres (by omega)
  replace hst := hst.chg hs (fun k hk => by omega)
  replace hc := hc.trans hs (fun i hi h => by omega)
  replace hz := Nat.le_trans hz hs.size
  have cN := number_any _ B b _ hst
  clear hst hs
  go_wp2_with fail
  refine cN.mono ?_
  generalize (w2.setCell ⟨w.heap.size + 1, 3, none⟩ (.int .i64 (ack : Int))) = w2x at *
  rintro r w3 ⟨num, rfl, hn2, hst, hx, hc1⟩
  replace HK : Hid (R = andR (rest (andR st2 numP)) (if num = 0 then pureP ⟨ep, 0, true, ack, frame0⟩ else seqP frameP fun f => pureP ⟨ep, num, false, ack, f⟩)) := HK.out.trans (seq_at hx)
  generalize rest (andR st2 numP) = st3 at *
  replace hres := hc1.row hres (by omega)
  replace hp := hc1.row hp (by omega)
  replace hc := hc.trans hc1 (fun _ _ h => h)
  replace hz := Nat.le_trans hz hc1.size
  clear p2 pl2 pf2
  clear cN hx hc1
  obtain ⟨p3, pl3, pf3⟩ := blk hp
  by_cases h0 : num = 0
  · subst h0
    rw [if_pos rfl] at HK
    have hq : (w3.setCell ⟨w.heap.size + 1, 1, none⟩ (.int .i64 0)).heap[w.heap.size + 1]? = some (.cells #[.int .i64 (ep : Int), .int .i64 0, .bool false, .int .i64 (ack : Int), .int .i64 0, .int .i64 0, .int .i64 0, .slice none 0 0, .string ⟨#[]⟩] 79 (0, 0)) := (blk_put hp 1 (.int .i64 0)).1
    have hs := (blk_put hp 1 (.int .i64 0)).2
    have hp2 : ((w3.setCell ⟨w.heap.size + 1, 1, none⟩ (.int .i64 0)).setCell ⟨w.heap.size + 1, 2, none⟩ (.bool true)).heap[w.heap.size + 1]? = some (.cells #[.int .i64 (ep : Int), .int .i64 0, .bool true, .int .i64 (ack : Int), .int .i64 0, .int .i64 0, .int .i64 0, .slice none 0 0, .string ⟨#[]⟩] 79 (0, 0)) := (blk_put hq 2 (.bool true)).1
    have hs2 := hs.trans (blk_put hq 2 (.bool true)).2 (fun _ _ h => h)
    have hres2 := hs2.row hres (by omega)
    have hst2 := hst.chg hs2 (fun k hk => by omega)
    have hc2 := hc.trans hs2 (fun i hi h => by omega)
    have hz2 := Nat.le_trans hz hs2.size
    obtain ⟨q1, ql1, qf1⟩ := blk hq
    obtain ⟨q2, ql2, qf2⟩ := blk hp2
    obtain ⟨r2, rl2, rf2⟩ := blk hres2
    obtain ⟨hfin, hch⟩ := puts_all hres2 [.int .i64 (ep : Int), .int .i64 0, .bool true, .int .i64 (ack : Int), .int .i64 0, .int .i64 0, .int .i64 0, .slice none 0 0, .string ⟨#[]⟩] rfl
    simp only [puts, Nat.zero_add, Nat.reduceAdd] at hfin hch
    have hst6 := hst2.chg hch (fun k hk => by omega)
    have hc6 := hc2.trans hch (fun i hi h => by omega)
    clear hp hq hp2 hres hres2 hs hs2 hst hst2 hc hc2 hch
    go_wp2_with fail
    generalize (((((((((((w3.setCell ⟨w.heap.size + 1, 1, none⟩ (.int .i64 0)).setCell ⟨w.heap.size + 1, 2, none⟩ (.bool true)).setCell ⟨w.heap.size, 0, none⟩ (.int .i64 (ep : Int))).setCell ⟨w.heap.size, 1, none⟩ (.int .i64 0)).setCell ⟨w.heap.size, 2, none⟩ (.bool true)).setCell ⟨w.heap.size, 3, none⟩ (.int .i64 (ack : Int))).setCell ⟨w.heap.size, 4, none⟩ (.int .i64 0)).setCell ⟨w.heap.size, 5, none⟩ (.int .i64 0)).setCell ⟨w.heap.size, 6, none⟩ (.int .i64 0)).setCell ⟨w.heap.size, 7, none⟩ (.slice none 0 0)).setCell ⟨w.heap.size, 8, none⟩ (.string ⟨#[]⟩)) = w9 at *
    obtain ⟨t9, _, _⟩ := blk hfin
    refine bodyPost_ret (v := .agg #[.int .i64 (ep : Int), .int .i64 0, .bool true, .int .i64 (ack : Int), .int .i64 0, .int .i64 0, .int .i64 0, .slice none 0 0, .string ⟨#[]⟩]) (by simp [results, Tryd.results88, go_sem, t9]) rfl ⟨⟨ep, 0, true, ack, frame0⟩, .slice none 0 0, rfl, World.ownsRow_nil _ _ _ _, ?_, ?_, ⟨by simp only; omega, by simp, by simp only; omega, frame0_small⟩, hc6⟩
    · rw [HK.out, pure_rest]; exact hst6
    · rw [HK.out]; exact pure_val _ _
  · rw [if_neg h0] at HK
    have g0 : ((num : Int) == 0) = false := by simp; omega
    have hq : (w3.setCell ⟨w.heap.size + 1, 1, none⟩ (.int .i64 (num : Int))).heap[w.heap.size + 1]? = some (.cells #[.int .i64 (ep : Int), .int .i64 (num : Int), .bool false, .int .i64 (ack : Int), .int .i64 0, .int .i64 0, .int .i64 0, .slice none 0 0, .string ⟨#[]⟩] 79 (0, 0)) := (blk_put hp 1 (.int .i64 (num : Int))).1
    have hs := (blk_put hp 1 (.int .i64 (num : Int))).2
    have hp2 : ((w3.setCell ⟨w.heap.size + 1, 1, none⟩ (.int .i64 (num : Int))).setCell ⟨w.heap.size + 1, 2, none⟩ (.bool false)).heap[w.heap.size + 1]? = some (.cells #[.int .i64 (ep : Int), .int .i64 (num : Int), .bool false, .int .i64 (ack : Int), .int .i64 0, .int .i64 0, .int .i64 0, .slice none 0 0, .string ⟨#[]⟩] 79 (0, 0)) := (blk_put hq 2 (.bool false)).1
    have hs2 := hs.trans (blk_put hq 2 (.bool false)).2 (fun _ _ h => h)
    have hres2 := hs2.row hres (by omega)
    have hst2 := hst.chg hs2 (fun k hk => by omega)
    have hc2 := hc.trans hs2 (fun i hi h => by omega)
    have hz2 := Nat.le_trans hz hs2.size
    obtain ⟨q1, ql1, qf1⟩ := blk hq
    obtain ⟨q2, ql2, qf2⟩ := blk hp2
    have cF := frame_any _ B b _ hst2
    clear hp hq hres hs hs2 hst hst2 hc
    go_wp2_with fail
    refine cF.mono ?_
    clear p3 pl3 pf3 q1 ql1 qf1 q2 ql2 qf2 cF
    generalize ((w3.setCell ⟨w.heap.size + 1, 1, none⟩ (.int .i64 (num : Int))).setCell ⟨w.heap.size + 1, 2, none⟩ (.bool false)) = w3x at *
    rintro r w4 ⟨f, fv, rfl, hown, hst, hx, hsm, hc1⟩
    obtain ⟨va, vc, rfl⟩ := own_form hown
    replace HK : Hid (R = andR (rest (andR st3 frameP)) (pureP ⟨ep, num, false, ack, f⟩)) := HK.out.trans (seq_at hx)
    generalize rest (andR st3 frameP) = st4 at *
    have hres := hc1.row hres2 (by omega)
    have hp := hc1.row hp2 (by omega)
    have hc := hc2.trans hc1 (fun _ _ h => h)
    replace hz := Nat.le_trans hz2 hc1.size
    clear hx hc1 hc2 hres2 hp2
    obtain ⟨fk, fh, fe, ps, tx⟩ := f
    simp only at hown
    generalize hpn : ps.length = pn at *
    have HPN : Hid (ps.length = pn) := hpn
    clear hpn
    obtain ⟨p4, pl4, pf4⟩ := blk hp
    have hp5 : (w4.setCell ⟨w.heap.size + 1, 4, none⟩ (.int .i64 (fk : Int))).heap[w.heap.size + 1]? = some (.cells #[.int .i64 (ep : Int), .int .i64 (num : Int), .bool false, .int .i64 (ack : Int), .int .i64 (fk : Int), .int .i64 0, .int .i64 0, .slice none 0 0, .string ⟨#[]⟩] 79 (0, 0)) := (blk_put hp 4 (.int .i64 (fk : Int))).1
    have hs5 := (blk_put hp 4 (.int .i64 (fk : Int))).2
    have hp6 : ((w4.setCell ⟨w.heap.size + 1, 4, none⟩ (.int .i64 (fk : Int))).setCell ⟨w.heap.size + 1, 5, none⟩ (.int .i64 (fh : Int))).heap[w.heap.size + 1]? = some (.cells #[.int .i64 (ep : Int), .int .i64 (num : Int), .bool false, .int .i64 (ack : Int), .int .i64 (fk : Int), .int .i64 (fh : Int), .int .i64 0, .slice none 0 0, .string ⟨#[]⟩] 79 (0, 0)) := (blk_put hp5 5 (.int .i64 (fh : Int))).1
    have hs6 := hs5.trans (blk_put hp5 5 (.int .i64 (fh : Int))).2 (fun _ _ h => h)
    have hp7 : (((w4.setCell ⟨w.heap.size + 1, 4, none⟩ (.int .i64 (fk : Int))).setCell ⟨w.heap.size + 1, 5, none⟩ (.int .i64 (fh : Int))).setCell ⟨w.heap.size + 1, 6, none⟩ (.int .i64 (fe : Int))).heap[w.heap.size + 1]? = some (.cells #[.int .i64 (ep : Int), .int .i64 (num : Int), .bool false, .int .i64 (ack : Int), .int .i64 (fk : Int), .int .i64 (fh : Int), .int .i64 (fe : Int), .slice none 0 0, .string ⟨#[]⟩] 79 (0, 0)) := (blk_put hp6 6 (.int .i64 (fe : Int))).1
    have hs7 := hs6.trans (blk_put hp6 6 (.int .i64 (fe : Int))).2 (fun _ _ h => h)
    have hp8 : ((((w4.setCell ⟨w.heap.size + 1, 4, none⟩ (.int .i64 (fk : Int))).setCell ⟨w.heap.size + 1, 5, none⟩ (.int .i64 (fh : Int))).setCell ⟨w.heap.size + 1, 6, none⟩ (.int .i64 (fe : Int))).setCell ⟨w.heap.size + 1, 7, none⟩ (.slice va pn vc)).heap[w.heap.size + 1]? = some (.cells #[.int .i64 (ep : Int), .int .i64 (num : Int), .bool false, .int .i64 (ack : Int), .int .i64 (fk : Int), .int .i64 (fh : Int), .int .i64 (fe : Int), .slice va pn vc, .string ⟨#[]⟩] 79 (0, 0)) := (blk_put hp7 7 (.slice va pn vc)).1
    have hs8 := hs7.trans (blk_put hp7 7 (.slice va pn vc)).2 (fun _ _ h => h)
    have hp9 : (((((w4.setCell ⟨w.heap.size + 1, 4, none⟩ (.int .i64 (fk : Int))).setCell ⟨w.heap.size + 1, 5, none⟩ (.int .i64 (fh : Int))).setCell ⟨w.heap.size + 1, 6, none⟩ (.int .i64 (fe : Int))).setCell ⟨w.heap.size + 1, 7, none⟩ (.slice va pn vc)).setCell ⟨w.heap.size + 1, 8, none⟩ (.string tx)).heap[w.heap.size + 1]? = some (.cells #[.int .i64 (ep : Int), .int .i64 (num : Int), .bool false, .int .i64 (ack : Int), .int .i64 (fk : Int), .int .i64 (fh : Int), .int .i64 (fe : Int), .slice va pn vc, .string tx] 79 (0, 0)) := (blk_put hp8 8 (.string tx)).1
    have hs9 := hs8.trans (blk_put hp8 8 (.string tx)).2 (fun _ _ h => h)
    have hres5 := hs9.row hres (by omega)
    obtain ⟨p5, pl5, pf5⟩ := blk hp9
    obtain ⟨r5, rl5, rf5⟩ := blk hres5
    obtain ⟨hfin, hch6⟩ := puts_all hres5 [.int .i64 (ep : Int), .int .i64 (num : Int), .bool false, .int .i64 (ack : Int), .int .i64 (fk : Int), .int .i64 (fh : Int), .int .i64 (fe : Int), .slice va pn vc, .string tx] rfl
    simp only [puts, Nat.zero_add, Nat.reduceAdd] at hfin hch6
    have hst6 := (hst.chg hs9 (fun k hk => by omega)).chg hch6 (fun k hk => by omega)
    have hc6 := (hc.trans hs9 (fun i hi h => by omega)).trans hch6 (fun i hi h => by omega)
    have hown5 := own_chg hown hs9 (fun k hk e => row_ne hown hp (by decide) (by rw [← e]; exact hk.symm))
    have hown6 := own_base (own_chg hown5 hch6 (fun k hk e => row_ne hown5 hres5 (by decide) (by rw [← e]; exact hk.symm))) (show w.heap.size ≤ w3x.heap.size by omega)
    clear hp hp5 hp6 hp7 hp8 hp9 hs5 hs6 hs7 hs8 hs9 hres hres5 hch6 hst hc hown hown5
    go_wp2_with fail
    generalize ((((((((((((((w4.setCell ⟨w.heap.size + 1, 4, none⟩ (.int .i64 (fk : Int))).setCell ⟨w.heap.size + 1, 5, none⟩ (.int .i64 (fh : Int))).setCell ⟨w.heap.size + 1, 6, none⟩ (.int .i64 (fe : Int))).setCell ⟨w.heap.size + 1, 7, none⟩ (.slice va pn vc)).setCell ⟨w.heap.size + 1, 8, none⟩ (.string tx)).setCell ⟨w.heap.size, 0, none⟩ (.int .i64 (ep : Int))).setCell ⟨w.heap.size, 1, none⟩ (.int .i64 (num : Int))).setCell ⟨w.heap.size, 2, none⟩ (.bool false)).setCell ⟨w.heap.size, 3, none⟩ (.int .i64 (ack : Int))).setCell ⟨w.heap.size, 4, none⟩ (.int .i64 (fk : Int))).setCell ⟨w.heap.size, 5, none⟩ (.int .i64 (fh : Int))).setCell ⟨w.heap.size, 6, none⟩ (.int .i64 (fe : Int))).setCell ⟨w.heap.size, 7, none⟩ (.slice va pn vc)).setCell ⟨w.heap.size, 8, none⟩ (.string tx)) = w9 at *
    obtain ⟨t9, _, _⟩ := blk hfin
    refine bodyPost_ret (v := .agg #[.int .i64 (ep : Int), .int .i64 (num : Int), .bool false, .int .i64 (ack : Int), .int .i64 (fk : Int), .int .i64 (fh : Int), .int .i64 (fe : Int), .slice va pn vc, .string tx]) (by simp [results, Tryd.results88, go_sem, t9]) rfl ⟨⟨ep, num, false, ack, ⟨fk, fh, fe, ps, tx⟩⟩, .slice va pn vc, rfl, by simp only; rw [HPN.out]; exact hown6, ?_, ?_, ⟨by simp only; omega, by simp only; omega, by simp only; omega, hsm⟩, hc6⟩
    · rw [HK.out, pure_rest]; exact hst6
    · rw [HK.out]; exact pure_val _ _

end Go.Proofs.YtmdehfomogfmlaaDoor
