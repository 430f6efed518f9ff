/-
  Walk: wire.DecodePacket.
-/
import Derived.Test.YtmdehfomogfmlaaDoorWirePkt
import Derived.Test.YtmdehfomogfmlaaDoorWireDec
namespace Go.Proofs.YtmdehfomogfmlaaDoor
open Go.RowKit Go.Lib

def pkErr (p : PacketV) : Int := packetErr p.epoch p.number p.bare p.ack p.frame.kind p.frame.heard p.frame.epoch p.frame.op p.frame.text
/-- P3.7: what is wrong with the bytes of a packet -/
def pkFault (l : List Nat) : Int := if 50000 < l.length then 1 else if endE (rest (packetP l)) ≠ 0 then endE (rest (packetP l)) else match packetP l with
  | .ok x => pkErr x.1
  | .error e => e
def pkOf (l : List Nat) : PacketV := if pkFault l ≠ 0 then packet0 else match packetP l with
  | .ok x => x.1
  | .error _ => packet0

set_option maxRecDepth 100000 in
set_option maxHeartbeats 4000000 in
theorem decP_any (l : List Nat) (a : Option Addr) (c : Nat) (w : World) (hb : Bytes w a l) (hl : ∀ x ∈ l, x < 256) (hc : l.length ≤ c) (hT : Tabs w) :
    Calls Tryd.prog 87 #[.slice a l.length c, .func (.func 88) #[] #[], .func (.func 51) #[] #[]] w fun r w' => ∃ (v : Value), r = .returned (.tuple #[pkVal (pkOf l) v, .int .i64 (pkFault l)]) ∧ w'.ownsRow w.heap.size 68 3 v (pkOf l).frame.op.length (partCells (pkOf l).frame.op) ∧ Below w.heap.size w w' := by
  obtain ⟨E, hE⟩ : ∃ E, E = pkFault l := ⟨_, rfl⟩
  obtain ⟨O, hO⟩ : ∃ O, O = pkOf l := ⟨_, rfl⟩
  rw [← hE, ← hO]
  have HE0 : Hid (E = pkFault l) := hE
  have HO0 : Hid (O = pkOf l) := hO
  clear hE hO
  by_cases h5 : 50000 < l.length
  · have h5z : (50000 : Int) < (l.length : Int) := by omega
    have HE : Hid (E = 1) := by show _ = _; rw [HE0.out]; unfold pkFault; rw [if_pos h5]
    have HO : Hid (O = packet0) := by show _ = _; rw [HO0.out]; unfold pkOf; rw [← HE0.out, HE.out, if_pos (by decide)]
    have hb0 := (Below.refl w.heap.size w).alloc (Nat.le_refl _) (.cells #[.int .i64 0, .int .i64 0, .bool false, .int .i64 0, .int .i64 0, .int .i64 0, .int .i64 0, .slice none 0 0, .string ⟨#[]⟩] 79)
    have HB := hb0.alloc hb0.size (.cells #[.int .i64 0, .int .i64 0, .bool false, .int .i64 0, .int .i64 0, .int .i64 0, .int .i64 0, .slice none 0 0, .string ⟨#[]⟩] 79)
    have hres := row_old (heap_alloc_new w (.cells #[.int .i64 0, .int .i64 0, .bool false, .int .i64 0, .int .i64 0, .int .i64 0, .int .i64 0, .slice none 0 0, .string ⟨#[]⟩] 79)) (.cells #[.int .i64 0, .int .i64 0, .bool false, .int .i64 0, .int .i64 0, .int .i64 0, .int .i64 0, .slice none 0 0, .string ⟨#[]⟩] 79)
    clear HE0 HO0 hb hb0
    generalize l.length = ll at *
    obtain ⟨t9, _, _⟩ := blk hres
    go_enter Tryd.func87, Tryd.ntmps87
    go_wp2_with fail
    generalize ((w.alloc (.cells #[.int .i64 0, .int .i64 0, .bool false, .int .i64 0, .int .i64 0, .int .i64 0, .int .i64 0, .slice none 0 0, .string ⟨#[]⟩] 79)).alloc (.cells #[.int .i64 0, .int .i64 0, .bool false, .int .i64 0, .int .i64 0, .int .i64 0, .int .i64 0, .slice none 0 0, .string ⟨#[]⟩] 79)) = w9 at *
    refine bodyPost_ret (v := .tuple #[.agg #[.int .i64 0, .int .i64 0, .bool false, .int .i64 0, .int .i64 0, .int .i64 0, .int .i64 0, .slice none 0 0, .string ⟨#[]⟩], .int .i64 1]) (by simp [results, Tryd.results87, go_sem, t9]) rfl ⟨.slice none 0 0, ?_, ?_, HB⟩
    · rw [HE.out, HO.out]; rfl
    · rw [HO.out]; exact World.ownsRow_nil _ _ _ _
  · have h5z : ¬ (50000 : Int) < (l.length : Int) := by omega
    have HE1 : Hid (E = if endE (rest (packetP l)) ≠ 0 then endE (rest (packetP l)) else match packetP l with | .ok x => pkErr x.1 | .error e => e) := by show _ = _; rw [HE0.out]; unfold pkFault; rw [if_neg h5]
    have HO1 : Hid (O = if E ≠ 0 then packet0 else match packetP l with | .ok x => x.1 | .error _ => packet0) := by show _ = _; rw [HO0.out, HE0.out]; rfl
    have hb0 := (Below.refl w.heap.size w).alloc (Nat.le_refl _) (.cells #[.int .i64 0, .int .i64 0, .bool false, .int .i64 0, .int .i64 0, .int .i64 0, .int .i64 0, .slice none 0 0, .string ⟨#[]⟩] 79)
    have hb1 := hb0.alloc hb0.size (.cells #[.int .i64 0, .int .i64 0, .bool false, .int .i64 0, .int .i64 0, .int .i64 0, .int .i64 0, .slice none 0 0, .string ⟨#[]⟩] 79)
    have HB0 := hb1.alloc hb1.size (.cells #[.slice a l.length c, .int .i64 0] 161)
    have hres := row_old (row_old (heap_alloc_new w (.cells #[.int .i64 0, .int .i64 0, .bool false, .int .i64 0, .int .i64 0, .int .i64 0, .int .i64 0, .slice none 0 0, .string ⟨#[]⟩] 79)) (.cells #[.int .i64 0, .int .i64 0, .bool false, .int .i64 0, .int .i64 0, .int .i64 0, .int .i64 0, .slice none 0 0, .string ⟨#[]⟩] 79)) (.cells #[.slice a l.length c, .int .i64 0] 161)
    have hnone := row_old (heap_alloc_new (w.alloc (.cells #[.int .i64 0, .int .i64 0, .bool false, .int .i64 0, .int .i64 0, .int .i64 0, .int .i64 0, .slice none 0 0, .string ⟨#[]⟩] 79)) (.cells #[.int .i64 0, .int .i64 0, .bool false, .int .i64 0, .int .i64 0, .int .i64 0, .int .i64 0, .slice none 0 0, .string ⟨#[]⟩] 79)) (.cells #[.slice a l.length c, .int .i64 0] 161)
    have hrd := heap_alloc_new ((w.alloc (.cells #[.int .i64 0, .int .i64 0, .bool false, .int .i64 0, .int .i64 0, .int .i64 0, .int .i64 0, .slice none 0 0, .string ⟨#[]⟩] 79)).alloc (.cells #[.int .i64 0, .int .i64 0, .bool false, .int .i64 0, .int .i64 0, .int .i64 0, .int .i64 0, .slice none 0 0, .string ⟨#[]⟩] 79)) (.cells #[.slice a l.length c, .int .i64 0] 161)
    rw [show (w.alloc (.cells #[.int .i64 0, .int .i64 0, .bool false, .int .i64 0, .int .i64 0, .int .i64 0, .int .i64 0, .slice none 0 0, .string ⟨#[]⟩] 79)).heap.size = w.heap.size + 1 by simp] at hnone
    rw [show ((w.alloc (.cells #[.int .i64 0, .int .i64 0, .bool false, .int .i64 0, .int .i64 0, .int .i64 0, .int .i64 0, .slice none 0 0, .string ⟨#[]⟩] 79)).alloc (.cells #[.int .i64 0, .int .i64 0, .bool false, .int .i64 0, .int .i64 0, .int .i64 0, .int .i64 0, .slice none 0 0, .string ⟨#[]⟩] 79)).heap.size = w.heap.size + 1 + 1 by simp] at hrd
    have hsz : (((w.alloc (.cells #[.int .i64 0, .int .i64 0, .bool false, .int .i64 0, .int .i64 0, .int .i64 0, .int .i64 0, .slice none 0 0, .string ⟨#[]⟩] 79)).alloc (.cells #[.int .i64 0, .int .i64 0, .bool false, .int .i64 0, .int .i64 0, .int .i64 0, .int .i64 0, .slice none 0 0, .string ⟨#[]⟩] 79)).alloc (.cells #[.slice a l.length c, .int .i64 0] 161)).heap.size = w.heap.size + 3 := by simp
    have hRd : RdSt (((w.alloc (.cells #[.int .i64 0, .int .i64 0, .bool false, .int .i64 0, .int .i64 0, .int .i64 0, .int .i64 0, .slice none 0 0, .string ⟨#[]⟩] 79)).alloc (.cells #[.int .i64 0, .int .i64 0, .bool false, .int .i64 0, .int .i64 0, .int .i64 0, .int .i64 0, .slice none 0 0, .string ⟨#[]⟩] 79)).alloc (.cells #[.slice a l.length c, .int .i64 0] 161)) (w.heap.size + 3) (w.heap.size + 1 + 1) (.ok l) := .ok ⟨⟨a, c, hrd, hc, by
      rcases hb with rfl | ⟨g, off, rfl, hg, hx⟩
      · exact .inl rfl
      · refine .inr ⟨g, off, rfl, by omega, by omega, fun i hi => ?_⟩
        rw [HB0.cell (p := ⟨g, off + i, none⟩) hg]
        exact hx i hi⟩, ⟨by omega, by omega⟩, hl, by omega⟩
    have cR := readPacket_any _ _ _ _ hRd
    rw [show andR (.ok l) packetP = packetP l from rfl] at cR
    clear HE0 HO0 hb hb0 hb1 hRd hrd
    generalize packetP l = P at *
    generalize l.length = ll at *
    go_enter Tryd.func87, Tryd.ntmps87
    go_wp2_with fail
    generalize (((w.alloc (.cells #[.int .i64 0, .int .i64 0, .bool false, .int .i64 0, .int .i64 0, .int .i64 0, .int .i64 0, .slice none 0 0, .string ⟨#[]⟩] 79)).alloc (.cells #[.int .i64 0, .int .i64 0, .bool false, .int .i64 0, .int .i64 0, .int .i64 0, .int .i64 0, .slice none 0 0, .string ⟨#[]⟩] 79)).alloc (.cells #[.slice a ll c, .int .i64 0] 161)) = w0 at *
    refine cR.mono ?_
    rintro r w1 ⟨p, v, rfl, hown, hst, hx, hsm, hc1⟩
    obtain ⟨va, vc, rfl⟩ := own_form hown
    obtain ⟨ep, num, bare, ack, ⟨fk, fh, fe, ps, tx⟩⟩ := p
    simp only at hown
    unfold pkVal
    simp only
    generalize hpn : ps.length = pn at *
    have HPN : Hid (ps.length = pn) := hpn
    clear hpn
    have hz1 := hc1.size
    have hres1 := row_old (hc1.row hres (by omega)) (.cells #[.int .i64 (ep : Int), .int .i64 (num : Int), .bool bare, .int .i64 (ack : Int), .int .i64 (fk : Int), .int .i64 (fh : Int), .int .i64 (fe : Int), .slice va pn vc, .string tx] 79)
    have hnone1 := row_old (hc1.row hnone (by omega)) (.cells #[.int .i64 (ep : Int), .int .i64 (num : Int), .bool bare, .int .i64 (ack : Int), .int .i64 (fk : Int), .int .i64 (fh : Int), .int .i64 (fe : Int), .slice va pn vc, .string tx] 79)
    have hth1 := heap_alloc_new w1 (.cells #[.int .i64 (ep : Int), .int .i64 (num : Int), .bool bare, .int .i64 (ack : Int), .int .i64 (fk : Int), .int .i64 (fh : Int), .int .i64 (fe : Int), .slice va pn vc, .string tx] 79)
    have HB1 := HB0.trans ((hc1.below (B := w.heap.size) (fun k e => by omega) (by omega)).alloc (by omega) (.cells #[.int .i64 (ep : Int), .int .i64 (num : Int), .bool bare, .int .i64 (ack : Int), .int .i64 (fk : Int), .int .i64 (fh : Int), .int .i64 (fe : Int), .slice va pn vc, .string tx] 79))
    have cE := end_any _ _ _ _ (hst.chg ((Chg.refl (fun _ => False) w1).alloc (.cells #[.int .i64 (ep : Int), .int .i64 (num : Int), .bool bare, .int .i64 (ack : Int), .int .i64 (fk : Int), .int .i64 (fh : Int), .int .i64 (fe : Int), .slice va pn vc, .string tx] 79)) (fun _ h => h.elim))
    have hown1 := hown.alloc (.cells #[.int .i64 (ep : Int), .int .i64 (num : Int), .bool bare, .int .i64 (ack : Int), .int .i64 (fk : Int), .int .i64 (fh : Int), .int .i64 (fe : Int), .slice va pn vc, .string tx] 79)
    have hsz1 : (w1.alloc (.cells #[.int .i64 (ep : Int), .int .i64 (num : Int), .bool bare, .int .i64 (ack : Int), .int .i64 (fk : Int), .int .i64 (fh : Int), .int .i64 (fe : Int), .slice va pn vc, .string tx] 79)).heap.size = w1.heap.size + 1 := by simp
    obtain ⟨EE, hEE⟩ : ∃ EE, EE = endE (rest P) := ⟨_, rfl⟩
    rw [← hEE] at cE
    have HEE : Hid (EE = endE (rest P)) := hEE
    clear hEE cR
    by_cases h6 : EE = 0
    · subst h6
      obtain ⟨x, hP⟩ := endE_zero hst HEE.out.symm
      have hxe : x = ⟨ep, num, bare, ack, ⟨fk, fh, fe, ps, tx⟩⟩ := hx (x, []) hP
      have HE : Hid (E = packetErr ep num bare ack fk fh fe ps tx) := by show _ = _; rw [HE1.out, ← HEE.out, if_neg (by simp), hP, hxe]; rfl
      have HOx : Hid (O = if E ≠ 0 then packet0 else ⟨ep, num, bare, ack, ⟨fk, fh, fe, ps, tx⟩⟩) := by show _ = _; rw [HO1.out, hP, hxe]
      clear HE1 HO1 hxe hP hst hx HEE
      go_wp2_with fail
      refine cE.mono ?_
      generalize (w1.alloc (.cells #[.int .i64 (ep : Int), .int .i64 (num : Int), .bool bare, .int .i64 (ack : Int), .int .i64 (fk : Int), .int .i64 (fh : Int), .int .i64 (fe : Int), .slice va pn vc, .string tx] 79)) = w2 at *
      rintro r w3 ⟨rfl, hc3⟩
      have hres3 := hc3.row hres1 (by omega)
      have hnone3 := hc3.row hnone1 (by omega)
      have hth3 := hc3.row hth1 (by omega)
      have HB3 := HB1.trans (hc3.below (B := w.heap.size) (fun k e => by omega) (by omega))
      have hown3 := own_chg hown1 hc3 (fun k hk e => by have := (hown1.lt k hk).1; omega)
      have hz3 := hc3.size
      clear cE hres1 hnone1 hth1 hres hnone hown hown1
      obtain ⟨q3, ql3, qf3⟩ := blk hth3
      have hopA : OpAt w3 va ps := by
        have h' := hown3
        rw [← HPN.out] at h'
        obtain ⟨a', c', e', ho, _⟩ := own_opAt' h'
        simp only [Value.slice.injEq, true_and] at e'
        obtain ⟨rfl, rfl⟩ := e'
        exact ho
      have cC := checkPacket_any ep num bare ack fk fh fe ps va vc tx w3 hopA (by have := hsm.frame.many; simp only at this; omega) (fun p hp => by have := (hsm.frame.parts p hp).2.2; omega) (by have := hsm.frame.text; simp only at this; omega) (hT.below HB3)
      rw [HPN.out] at cC
      generalize packetErr ep num bare ack fk fh fe ps tx = er at *
      by_cases h7 : er = 0
      · subst h7
        have HO : Hid (O = ⟨ep, num, bare, ack, ⟨fk, fh, fe, ps, tx⟩⟩) := by show _ = _; rw [HOx.out, HE.out, if_neg (by simp)]
        clear HOx
        go_wp2_with fail
        refine cC.mono ?_
        rintro r w4 ⟨rfl, hb4⟩
        have hk4 : ∀ {k : Nat} {o : Obj}, w3.heap[k]? = some o → w4.heap[k]? = some o := fun h => (hb4.block _ (Array.getElem?_eq_some_iff.1 h).1).trans h
        have hres4 := hk4 hres3
        have hth4 := hk4 hth3
        have hown4 := own_below hown3 hb4
        have HB4 := below_two HB3 hb4 (Nat.le_refl _)
        clear cC hres3 hnone3 hth3 q3 ql3 qf3 hk4
        obtain ⟨s4, sl4, sf4⟩ := blk hth4
        obtain ⟨r4, rl4, rf4⟩ := blk hres4
        obtain ⟨hfin, hch4⟩ := puts_all hres4 [.int .i64 (ep : Int), .int .i64 (num : Int), .bool bare, .int .i64 (ack : Int), .int .i64 (fk : Int), .int .i64 (fh : Int), .int .i64 (fe : Int), .slice va pn vc, .string tx] rfl
        simp only [puts, Nat.zero_add, Nat.reduceAdd] at hfin hch4
        have HB5 := HB4.trans (hch4.below (fun k e => by omega) HB4.size)
        have hown5 := own_base (own_chg hown4 hch4 (fun k hk e => row_ne hown4 hres4 (by decide) (by rw [← e]; exact hk.symm))) (show w.heap.size ≤ w0.heap.size by omega)
        clear hth4 hown4
        clear hch4 HB4 hres4
        go_wp2_with fail
        generalize (((((((((w4.setCell ⟨w.heap.size, 0, none⟩ (.int .i64 (ep : Int))).setCell ⟨w.heap.size, 1, none⟩ (.int .i64 (num : Int))).setCell ⟨w.heap.size, 2, none⟩ (.bool bare)).setCell ⟨w.heap.size, 3, none⟩ (.int .i64 (ack : Int))).setCell ⟨w.heap.size, 4, none⟩ (.int .i64 (fk : Int))).setCell ⟨w.heap.size, 5, none⟩ (.int .i64 (fh : Int))).setCell ⟨w.heap.size, 6, none⟩ (.int .i64 (fe : Int))).setCell ⟨w.heap.size, 7, none⟩ (.slice va pn vc)).setCell ⟨w.heap.size, 8, none⟩ (.string tx)) = w9 at *
        obtain ⟨t9, _, _⟩ := blk hfin
        refine bodyPost_ret (v := .tuple #[.agg #[.int .i64 (ep : Int), .int .i64 (num : Int), .bool bare, .int .i64 (ack : Int), .int .i64 (fk : Int), .int .i64 (fh : Int), .int .i64 (fe : Int), .slice va pn vc, .string tx], .int .i64 0]) (by simp [results, Tryd.results87, go_sem, t9]) rfl ⟨.slice va pn vc, ?_, ?_, HB5⟩
        · rw [HE.out, HO.out]; rfl
        · rw [HO.out]
          simp only
          rw [HPN.out]
          exact hown5
      · have g7 : (er != 0) = true := by simpa using h7
        have HO : Hid (O = packet0) := by show _ = _; rw [HOx.out, HE.out, if_pos h7]
        clear HOx
        go_wp2_with fail
        refine cC.mono ?_
        rintro r w4 ⟨rfl, hb4⟩
        have hk4 : ∀ {k : Nat} {o : Obj}, w3.heap[k]? = some o → w4.heap[k]? = some o := fun h => (hb4.block _ (Array.getElem?_eq_some_iff.1 h).1).trans h
        have hres4 := hk4 hres3
        have hnone4 := hk4 hnone3
        have HB4 := below_two HB3 hb4 (Nat.le_refl _)
        clear cC hres3 hnone3 hth3 q3 ql3 qf3 hk4
        obtain ⟨s4, sl4, sf4⟩ := blk hnone4
        obtain ⟨r4, rl4, rf4⟩ := blk hres4
        obtain ⟨hfin, hch4⟩ := puts_all hres4 [.int .i64 0, .int .i64 0, .bool false, .int .i64 0, .int .i64 0, .int .i64 0, .int .i64 0, .slice none 0 0, .string ⟨#[]⟩] rfl
        simp only [puts, Nat.zero_add, Nat.reduceAdd] at hfin hch4
        have HB5 := HB4.trans (hch4.below (fun k e => by omega) HB4.size)
        clear hch4 HB4 hres4
        go_wp2_with fail
        generalize (((((((((w4.setCell ⟨w.heap.size, 0, none⟩ (.int .i64 0)).setCell ⟨w.heap.size, 1, none⟩ (.int .i64 0)).setCell ⟨w.heap.size, 2, none⟩ (.bool false)).setCell ⟨w.heap.size, 3, none⟩ (.int .i64 0)).setCell ⟨w.heap.size, 4, none⟩ (.int .i64 0)).setCell ⟨w.heap.size, 5, none⟩ (.int .i64 0)).setCell ⟨w.heap.size, 6, none⟩ (.int .i64 0)).setCell ⟨w.heap.size, 7, none⟩ (.slice none 0 0)).setCell ⟨w.heap.size, 8, none⟩ (.string ⟨#[]⟩)) = w9 at *
        obtain ⟨t9, _, _⟩ := blk hfin
        refine bodyPost_ret (v := .tuple #[.agg #[.int .i64 0, .int .i64 0, .bool false, .int .i64 0, .int .i64 0, .int .i64 0, .int .i64 0, .slice none 0 0, .string ⟨#[]⟩], .int .i64 er]) (by simp [results, Tryd.results87, go_sem, t9]) rfl ⟨.slice none 0 0, ?_, ?_, HB5⟩
        · rw [HE.out, HO.out]; rfl
        · rw [HO.out]; exact World.ownsRow_nil _ _ _ _
    · have g6 : (EE != 0) = true := by simpa using h6
      have HE : Hid (E = EE) := by show _ = _; rw [HE1.out, ← HEE.out, if_pos h6]
      have HO : Hid (O = packet0) := by show _ = _; rw [HO1.out, if_pos (by rw [HE.out]; exact h6)]
      clear HE1 HO1 HEE
      go_wp2_with fail
      refine cE.mono ?_
      generalize (w1.alloc (.cells #[.int .i64 (ep : Int), .int .i64 (num : Int), .bool bare, .int .i64 (ack : Int), .int .i64 (fk : Int), .int .i64 (fh : Int), .int .i64 (fe : Int), .slice va pn vc, .string tx] 79)) = w2 at *
      rintro r w4 ⟨rfl, hc3⟩
      have hres4 := hc3.row hres1 (by omega)
      have hnone4 := hc3.row hnone1 (by omega)
      have HB4 := HB1.trans (hc3.below (B := w.heap.size) (fun k e => by omega) (by omega))
      clear cE hres1 hnone1 hth1 hres hnone hown hown1
      generalize EE = er at *
      obtain ⟨s4, sl4, sf4⟩ := blk hnone4
      obtain ⟨r4, rl4, rf4⟩ := blk hres4
      obtain ⟨hfin, hch4⟩ := puts_all hres4 [.int .i64 0, .int .i64 0, .bool false, .int .i64 0, .int .i64 0, .int .i64 0, .int .i64 0, .slice none 0 0, .string ⟨#[]⟩] rfl
      simp only [puts, Nat.zero_add, Nat.reduceAdd] at hfin hch4
      have HB5 := HB4.trans (hch4.below (fun k e => by omega) HB4.size)
      clear hch4 HB4 hres4
      go_wp2_with fail
      generalize (((((((((w4.setCell ⟨w.heap.size, 0, none⟩ (.int .i64 0)).setCell ⟨w.heap.size, 1, none⟩ (.int .i64 0)).setCell ⟨w.heap.size, 2, none⟩ (.bool false)).setCell ⟨w.heap.size, 3, none⟩ (.int .i64 0)).setCell ⟨w.heap.size, 4, none⟩ (.int .i64 0)).setCell ⟨w.heap.size, 5, none⟩ (.int .i64 0)).setCell ⟨w.heap.size, 6, none⟩ (.int .i64 0)).setCell ⟨w.heap.size, 7, none⟩ (.slice none 0 0)).setCell ⟨w.heap.size, 8, none⟩ (.string ⟨#[]⟩)) = w9 at *
      obtain ⟨t9, _, _⟩ := blk hfin
      refine bodyPost_ret (v := .tuple #[.agg #[.int .i64 0, .int .i64 0, .bool false, .int .i64 0, .int .i64 0, .int .i64 0, .int .i64 0, .slice none 0 0, .string ⟨#[]⟩], .int .i64 er]) (by simp [results, Tryd.results87, go_sem, t9]) rfl ⟨.slice none 0 0, ?_, ?_, HB5⟩
      · rw [HE.out, HO.out]; rfl
      · rw [HO.out]; exact World.ownsRow_nil _ _ _ _

set_option maxRecDepth 100000 in
set_option maxHeartbeats 2000000 in
theorem decodePacket_any (l : List Nat) (a : Option Addr) (c : Nat) (w : World) (hb : Bytes w a l) (hl : ∀ x ∈ l, x < 256) (hc : l.length ≤ c) (hT : Tabs w) :
    Calls Tryd.prog 43 #[.slice a l.length c] w fun r w' => ∃ (v : Value), r = .returned (.tuple #[pkVal (pkOf l) v, .int .i64 (pkFault l)]) ∧ w'.ownsRow w.heap.size 68 3 v (pkOf l).frame.op.length (partCells (pkOf l).frame.op) ∧ Below w.heap.size w w' := by
  have hb0 := (Below.refl w.heap.size w).alloc (Nat.le_refl _) (.cells #[.int .i64 0, .int .i64 0, .bool false, .int .i64 0, .int .i64 0, .int .i64 0, .int .i64 0, .slice none 0 0, .string ⟨#[]⟩] 79)
  have hres := heap_alloc_new w (.cells #[.int .i64 0, .int .i64 0, .bool false, .int .i64 0, .int .i64 0, .int .i64 0, .int .i64 0, .slice none 0 0, .string ⟨#[]⟩] 79)
  have cD := decP_any l a c (w.alloc (.cells #[.int .i64 0, .int .i64 0, .bool false, .int .i64 0, .int .i64 0, .int .i64 0, .int .i64 0, .slice none 0 0, .string ⟨#[]⟩] 79)) (by
    rcases hb with rfl | ⟨g, off, rfl, hg, hx⟩
    · exact .inl rfl
    · exact .inr ⟨g, off, rfl, Nat.lt_of_lt_of_le hg hb0.size, fun i hi => (hb0.cell (p := ⟨g, off + i, none⟩) hg).trans (hx i hi)⟩) hl hc (hT.below hb0)
  generalize pkOf l = O at *
  generalize pkFault l = E at *
  clear hb
  generalize l.length = ll at *
  go_enter Tryd.func43, Tryd.ntmps43
  go_wp2_with fail
  refine cD.mono ?_
  rintro r w4 ⟨v, rfl, hown, hb1⟩
  obtain ⟨va, vc, rfl⟩ := own_form hown
  obtain ⟨ep, num, bare, ack, ⟨fk, fh, fe, ps, tx⟩⟩ := O
  simp only at hown
  unfold pkVal
  simp only
  generalize hpn : ps.length = pn at *
  have HPN : Hid (ps.length = pn) := hpn
  clear hpn
  have hres4 := (hb1.block _ (Array.getElem?_eq_some_iff.1 hres).1).trans hres
  have HB4 := below_two hb0 hb1 (Nat.le_refl _)
  clear cD hres
  obtain ⟨r4, rl4, rf4⟩ := blk hres4
  obtain ⟨hfin, hch4⟩ := puts_all hres4 [.int .i64 (ep : Int), .int .i64 (num : Int), .bool bare, .int .i64 (ack : Int), .int .i64 (fk : Int), .int .i64 (fh : Int), .int .i64 (fe : Int), .slice va pn vc, .string tx] rfl
  simp only [puts, Nat.zero_add, Nat.reduceAdd] at hfin hch4
  have HB5 := HB4.trans (hch4.below (fun k e => by omega) HB4.size)
  have hown5 := own_base (own_chg hown hch4 (fun k hk e => row_ne hown hres4 (by decide) (by rw [← e]; exact hk.symm))) (show w.heap.size ≤ (w.alloc (.cells #[.int .i64 0, .int .i64 0, .bool false, .int .i64 0, .int .i64 0, .int .i64 0, .int .i64 0, .slice none 0 0, .string ⟨#[]⟩] 79)).heap.size by simp)
  clear hown
  clear hch4 HB4 hres4
  go_wp2_with fail
  generalize (((((((((w4.setCell ⟨w.heap.size, 0, none⟩ (.int .i64 (ep : Int))).setCell ⟨w.heap.size, 1, none⟩ (.int .i64 (num : Int))).setCell ⟨w.heap.size, 2, none⟩ (.bool bare)).setCell ⟨w.heap.size, 3, none⟩ (.int .i64 (ack : Int))).setCell ⟨w.heap.size, 4, none⟩ (.int .i64 (fk : Int))).setCell ⟨w.heap.size, 5, none⟩ (.int .i64 (fh : Int))).setCell ⟨w.heap.size, 6, none⟩ (.int .i64 (fe : Int))).setCell ⟨w.heap.size, 7, none⟩ (.slice va pn vc)).setCell ⟨w.heap.size, 8, none⟩ (.string tx)) = w9 at *
  obtain ⟨t9, _, _⟩ := blk hfin
  refine bodyPost_ret (v := .tuple #[.agg #[.int .i64 (ep : Int), .int .i64 (num : Int), .bool bare, .int .i64 (ack : Int), .int .i64 (fk : Int), .int .i64 (fh : Int), .int .i64 (fe : Int), .slice va pn vc, .string tx], .int .i64 E]) (by simp [results, Tryd.results43, go_sem, t9]) rfl ⟨.slice va pn vc, rfl, ?_, HB5⟩
  rw [HPN.out]
  exact hown5

end Go.Proofs.YtmdehfomogfmlaaDoor
