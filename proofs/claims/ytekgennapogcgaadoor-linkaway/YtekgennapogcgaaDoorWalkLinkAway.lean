/-
  Walk: wherrykeep.LinkAway.
-/
import Derived.Test.YtekgennapogcgaaDoorLinkHear
import Derived.Test.YtekgennapogcgaaDoorKPacket
namespace Go.Proofs.YtekgennapogcgaaDoor
open Go.RowKit Go.Lib

def PacketV.toI (p : PacketV) : PkI := ⟨p.epoch, p.number, p.bare, p.ack, ⟨p.frame.kind, p.frame.heard, p.frame.epoch, p.frame.op, p.frame.text⟩⟩
theorem open_ok {ep : Int} (h : 1 ≤ ep ∧ ep ≤ 1048576) : linkErr (mkL ep 1 0 [] []) = 0 := by
  rw [linkErr_eq]
  have h1 : inN ep = true := decide_eq_true (by omega)
  have h2 : inN 0 = true := by decide
  have h3 : inN 1 = true := by decide
  rw [h1, h2, h3]
  rw [if_neg (by decide), if_neg (by decide), if_neg (by decide), if_neg (by decide), if_neg (by decide), if_neg (by decide), if_neg (by decide), if_neg (by simp), if_neg (by decide), if_neg (by decide)]
theorem frameErr_op {k h e : Int} {ps : List Part} {tx : ByteArray} (he : frameErr k h e ps tx = 0) : opErr ps = 0 := by
  unfold frameErr at he
  by_cases ho : opErr ps = 0
  · exact ho
  · rw [if_pos ho] at he
    repeat' split at he
    all_goals first | (cases he) | exact he
theorem pk_opErr {p : PacketV} (h : PkOk p) : opErr p.frame.op = 0 := by
  have e := h.err
  unfold pkErr packetErr at e
  by_cases hb : p.bare = true
  · rw [if_pos hb] at e
    have h0 : p.frame.op.length = 0 := by
      by_cases g : (p.number : Int) = 0 ∧ emptyB p.frame.kind p.frame.heard p.frame.epoch p.frame.op.length p.frame.text = true
      · have := g.2
        unfold emptyB at this
        simp at this
        simp [this]
      · rw [if_neg g] at e
        repeat' split at e
        all_goals cases e
    rw [List.length_eq_zero_iff.1 h0]
    decide +kernel
  · rw [if_neg hb] at e
    repeat' split at e
    all_goals first | (cases e; done) | exact frameErr_op e
theorem opErr_small {ps : List Part} (h : opErr ps = 0) (ht : ∀ q ∈ ps, q.text.size ≤ 1048576) (hl : ps.length ≤ 1048576) : OpSmall ps := by
  obtain ⟨_, h2⟩ := opErr_parts h ht
  exact ⟨hl, fun q hq => by
    have g := h2 q hq
    have gk := g.1
    have gn := g.2.1
    exact ⟨by omega, by omega, ht q hq⟩⟩

theorem kept_newE {X W' : World} {cs : Array Value} {T : TypeId} (hb : Below (X.alloc (.cells cs T)).heap.size (X.alloc (.cells cs T)) W') : W'.heap[X.heap.size]? = some (.cells cs T (0, 0)) := (hb.block _ (by simp)).trans (heap_alloc_new X _)
theorem kept_drewE {X W' : World} {cs : Array Value} {T : TypeId} (hb : Below (X.alloc (.cells cs T)).drew.heap.size (X.alloc (.cells cs T)).drew W') : W'.heap[X.heap.size]? = some (.cells cs T (0, 0)) := (hb.block X.heap.size (show X.heap.size < (X.alloc (.cells cs T)).heap.size by simp)).trans (heap_alloc_new X _)

set_option maxRecDepth 100000 in
set_option maxHeartbeats 2000000 in
theorem linkAway_walk (r : RawV) (rs : List RawV) (a : Option Addr) (cap : Nat) (more : Int) (w : World) (hk : RawOk r) (hr : RawsAt w a rs) (hok : ∀ r ∈ rs, RawOk r) (hlen : rs.length ≤ 9223372036854775807) (hm : I64 more) (hT : Tabs w) :
    Calls Tryd.prog 15 #[.agg #[.int .i64 r.kind, .int .i64 r.a, .int .i64 r.b, .int .i64 r.c, .string r.text], .slice a rs.length cap, .int .i64 more] w fun e w' => e = .returned (.bool true) ∧ Below w.heap.size w w' := by
  have hb0 := (Below.refl w.heap.size w).alloc (Nat.le_refl _) (.cells #[.int .i64 r.kind, .int .i64 r.a, .int .i64 r.b, .int .i64 r.c, .string r.text] 53)
  have hraw := heap_alloc_new w (.cells #[.int .i64 r.kind, .int .i64 r.a, .int .i64 r.b, .int .i64 r.c, .string r.text] 53)
  have cP := kpacket_any r rs a cap (w.alloc (.cells #[.int .i64 r.kind, .int .i64 r.a, .int .i64 r.b, .int .i64 r.c, .string r.text] 53)) hk (hr.below hb0 (Nat.le_refl _)) hok hlen
  have cM := fun wx => picked_same more 9 wx hm (by omega) (by omega)
  have hpm := pick_lt more 9 (by omega)
  generalize pick more 9 = pm at *
  obtain ⟨q0, ql0, _⟩ := blk hraw
  go_enter Tryd.func15, Tryd.ntmps15
  go_wp2_with fail
  refine cP.mono ?_
  generalize (w.alloc (.cells #[.int .i64 r.kind, .int .i64 r.a, .int .i64 r.b, .int .i64 r.c, .string r.text] 53)) = w0 at *
  rintro e w1 ⟨p, v, rfl, hov, hpk, ⟨hpl, hpe⟩, hb1⟩
  obtain ⟨va, vc, rfl⟩ := own_form hov
  have HB1 := below_two hb0 hb1 (Nat.le_refl _)
  unfold pkVal
  have hbp := (Below.refl w1.heap.size w1).alloc (Nat.le_refl _) (.cells #[.int .i64 (p.epoch : Int), .int .i64 (p.number : Int), .bool p.bare, .int .i64 (p.ack : Int), .int .i64 (p.frame.kind : Int), .int .i64 (p.frame.heard : Int), .int .i64 (p.frame.epoch : Int), .slice va p.frame.op.length vc, .string p.frame.text] 88)
  have hp1 := heap_alloc_new w1 (.cells #[.int .i64 (p.epoch : Int), .int .i64 (p.number : Int), .bool p.bare, .int .i64 (p.ack : Int), .int .i64 (p.frame.kind : Int), .int .i64 (p.frame.heard : Int), .int .i64 (p.frame.epoch : Int), .slice va p.frame.op.length vc, .string p.frame.text] 88)
  have ho1 := own_below hov hbp
  have HB2 := below_two HB1 hbp (Nat.le_refl _)
  obtain ⟨p0, pl0, _⟩ := blk hp1
  clear cP q0 ql0 hraw hb1 hbp
  go_wp2_with fail
  generalize (w1.alloc (.cells #[.int .i64 (p.epoch : Int), .int .i64 (p.number : Int), .bool p.bare, .int .i64 (p.ack : Int), .int .i64 (p.frame.kind : Int), .int .i64 (p.frame.heard : Int), .int .i64 (p.frame.epoch : Int), .slice va p.frame.op.length vc, .string p.frame.text] 88)) = w2 at *
  have hdd : Below w2.heap.size w2 w2.drew := ⟨rfl, rfl, rfl, Nat.le_refl _, fun _ _ => rfl⟩
  have hS0 : (fun w' => w'.cell? ⟨w1.heap.size, 0, none⟩ = some (.int .i64 (p.epoch : Int)) ∧ Below w2.heap.size w2 w') w2.drew := ⟨p0 0, hdd⟩
  obtain ⟨EP, hEP⟩ : ∃ EP, EP = (p.epoch : Int) + 1 + (pm : Int) := ⟨_, rfl⟩
  have hEb : 1 ≤ EP ∧ EP ≤ 1048576 ∧ (p.epoch : Int) < EP := by omega
  have cX : ∀ wx, Calls Tryd.prog 54 #[.int .i64 (IntKind.i64.wrap (IntKind.i64.wrap ((p.epoch : Int) + 1) + (pm : Int)))] wx fun r w' => r = .returned (.tuple #[.agg #[.int .i64 EP, .int .i64 1, .slice none 0 0, .slice none 0 0, .int .i64 0], .int .i64 0]) ∧ Below wx.heap.size wx w' := fun wx => by
    have hw : IntKind.i64.wrap (IntKind.i64.wrap ((p.epoch : Int) + 1) + (pm : Int)) = EP := by rw [IntKind.wrap_i64, IntKind.wrap_i64]; omega
    rw [hw]
    have := linkOpen_any EP wx
    rw [if_pos ⟨hEb.1, hEb.2.1⟩] at this
    exact this
  have HEP : Hid (EP = (p.epoch : Int) + 1 + (pm : Int)) := hEP
  clear hEP
  have hsm : FrSmall p.toI.frame := ⟨opErr_small (pk_opErr hpk) hpk.parts (by show p.frame.op.length ≤ _; omega), hpk.text⟩
  have e12 : lhearErr (mkL EP 1 0 [] []) p.toI = 12 := by
    unfold lhearErr
    rw [open_ok ⟨hEb.1, hEb.2.1⟩]
    have h1 : p.toI.err = 0 := hpk.err
    rw [h1, if_neg (by decide), if_neg (by decide), if_pos]
    right
    show (p.epoch : Int) ≠ EP
    omega
  have c0 := fun wx => linkOpen_any 0 wx
  rw [if_neg (by decide)] at c0
  have cS : ∀ wx, Below w.heap.size w wx → Calls Tryd.prog 37 #[.agg #[.int .i64 0, .int .i64 1, .slice none 0 0, .slice none 0 0, .int .i64 0], .agg #[.int .i64 2, .int .i64 0, .int .i64 1, .slice none 0 0, .string ⟨#[]⟩]] wx fun r w' => (∃ sa sn sc qa qn qc pa pn pc, r = .returned (.tuple #[.agg #[.int .i64 0, .int .i64 0, .slice sa sn sc, .slice qa qn qc, .int .i64 0], .slice pa pn pc, .int .i64 12])) ∧ Below wx.heap.size wx w' := fun wx hb => by
    have h := lsend_any 0 1 0 [] [] (.slice none 0 0) (.slice none 0 0) ⟨2, 0, 1, [], ⟨#[]⟩⟩ (.slice none 0 0) wx (inK_nil frS _ 0) (inK_nil frS _ 0) (by simp) (by simp) (by simp) (by simp) (opVal_own (B := 0) (World.ownsRow_nil _ _ _ _)) ⟨⟨Nat.zero_le _, fun p hp => by simp at hp⟩, by decide⟩ (hT.below hb)
    have hR : sendR (mkL 0 1 0 [] []) ⟨2, 0, 1, [], ⟨#[]⟩⟩ = ((link0, []), 12) := by
      have he : lsendErr (mkL 0 1 0 [] []) ⟨2, 0, 1, [], ⟨#[]⟩⟩ = 12 := by
        unfold lsendErr
        have h0 : linkErr (mkL 0 1 0 [] []) = 0 := by rw [linkErr_eq]; simp [inN, framesB]
        rw [h0, if_neg (by decide), if_pos (show (mkL 0 1 0 [] []).epoch = 0 from rfl)]
      unfold sendR
      rw [he, if_neg (by decide)]
    rw [hR] at h
    refine Calls.mono h ?_
    rintro r w' ⟨sv, qv, pv, rfl, hG, hb'⟩
    obtain ⟨K, Q, P, q1, _, q3, _, q5, _⟩ := hG.ex
    obtain ⟨sa, sc, rfl, _⟩ := q1.row
    obtain ⟨qa, qc, rfl, _⟩ := q3.row
    obtain ⟨pa, pc, rfl⟩ := own_form q5.row
    exact ⟨⟨_, _, _, _, _, _, _, _, _, rfl⟩, hb'⟩
  have toB : ∀ w', (fun w' => w'.cell? ⟨w1.heap.size, 0, none⟩ = some (.int .i64 (p.epoch : Int)) ∧ Below w2.heap.size w2 w') w' → Below w2.heap.size w2 w' := fun _ h => h.2
  have keepB : ∀ {w' w'' : World}, (fun w' => w'.cell? ⟨w1.heap.size, 0, none⟩ = some (.int .i64 (p.epoch : Int)) ∧ Below w2.heap.size w2 w') w' → Below w2.heap.size w' w'' → (fun w' => w'.cell? ⟨w1.heap.size, 0, none⟩ = some (.int .i64 (p.epoch : Int)) ∧ Below w2.heap.size w2 w') w'' := fun {w' w''} h hb => ⟨(hb.cell (p := ⟨w1.heap.size, 0, none⟩) pl0).trans h.1, h.2.trans hb⟩
  have keepC : ∀ {w' w'' : World}, (fun w' => w'.cell? ⟨w1.heap.size, 0, none⟩ = some (.int .i64 (p.epoch : Int)) ∧ Below w2.heap.size w2 w') w' → Below w'.heap.size w' w'' → (fun w' => w'.cell? ⟨w1.heap.size, 0, none⟩ = some (.int .i64 (p.epoch : Int)) ∧ Below w2.heap.size w2 w') w'' := fun {w' w''} h hb => keepB h ⟨hb.os, hb.tape, hb.output, hb.size, fun k hk => hb.block k (Nat.lt_of_lt_of_le hk h.2.size)⟩
  have keepA : ∀ {w' : World} (o : Obj), (fun w' => w'.cell? ⟨w1.heap.size, 0, none⟩ = some (.int .i64 (p.epoch : Int)) ∧ Below w2.heap.size w2 w') w' → (fun w' => w'.cell? ⟨w1.heap.size, 0, none⟩ = some (.int .i64 (p.epoch : Int)) ∧ Below w2.heap.size w2 w') (w'.alloc o) := fun {w'} o h => keepC h ((Below.refl _ w').alloc (Nat.le_refl _) o)
  have keepD : ∀ {w' : World} (o : Obj), (fun w' => w'.cell? ⟨w1.heap.size, 0, none⟩ = some (.int .i64 (p.epoch : Int)) ∧ Below w2.heap.size w2 w') w'.drew → (fun w' => w'.cell? ⟨w1.heap.size, 0, none⟩ = some (.int .i64 (p.epoch : Int)) ∧ Below w2.heap.size w2 w') (w'.alloc o).drew := fun {w'} o h => keepC h ⟨rfl, rfl, rfl, by show w'.heap.size ≤ (w'.alloc o).heap.size; simp, fun k hk => Below.heap_alloc w' o k hk⟩
  have szd : w2.heap.size ≤ w2.drew.heap.size := Nat.le_refl _
  have szd2 : w2.heap.size ≤ w2.heap.size := Nat.le_refl _
  go_region_held3 (fun w' => w'.cell? ⟨w1.heap.size, 0, none⟩ = some (.int .i64 (p.epoch : Int)) ∧ Below w2.heap.size w2 w') (with_reducible first | exact hS0 | exact keepD _ hS0 | assumption | exact keepC (by assumption) hbv | exact keepA _ (by assumption) | exact keepA _ hSv | exact keepB (by assumption) ((((((Below.refl _ _).setCell (by first | exact szv | exact szd | exact szd2) _).setCell (by first | exact szv | exact szd | exact szd2) _).setCell (by first | exact szv | exact szd | exact szd2) _).setCell (by first | exact szv | exact szd | exact szd2) _).setCell (by first | exact szv | exact szd | exact szd2) _)) (first | (go_at_call 21; with_reducible refine Calls.mono (cM _) ?_; rintro e wz ⟨rfl, rfl⟩) | (go_at_call 54; with_reducible refine Calls.mono (cX _) ?_; rintro e wv ⟨rfl, hbv⟩; have hSv := keepC (by assumption) hbv; have szv := (toB _ hSv).size; (first | have nv := kept_newE hbv | have nv := kept_drewE hbv | skip); (first | (have hnf := blk nv; obtain ⟨n0, nl, nf⟩ := hnf) | skip)))
  · have hX := heap_alloc_new wv (.cells #[.int .i64 EP, .int .i64 1, .slice none 0 0, .slice none 0 0, .int .i64 0] 74)
    have HBW : Below w2.heap.size w2 (wv.alloc (.cells #[.int .i64 EP, .int .i64 1, .slice none 0 0, .slice none 0 0, .int .i64 0] 74)) := (keepA _ hSv).2
    generalize (wv.alloc (.cells #[.int .i64 EP, .int .i64 1, .slice none 0 0, .slice none 0 0, .int .i64 0] 74)) = w6 at *
    have hp6 := (HBW.block _ pl0).trans hp1
    have HB6 := below_two HB2 HBW (Nat.le_refl _)
    have cH := lhear_bad EP 1 0 [] [] (.slice none 0 0) (.slice none 0 0) p.toI (.slice va p.frame.op.length vc) w6 (inK_nil frS _ 0) (inK_nil frS _ 0) (by simp) (by simp) (by simp) (by simp) (opVal_own (own_below ho1 HBW)) hsm (hT.below HB6) (by rw [e12]; decide)
    rw [e12] at cH
    obtain ⟨x6, xl6, _⟩ := blk hX
    obtain ⟨p6, pl6, _⟩ := blk hp6
    clear cX cM keepA keepB keepC keepD toB hS0 hSv hbv e12 p0 pl0 hp1 ho1
    go_wp2_with fail
    refine cH.mono ?_
    rintro r w7 ⟨rfl, hb7⟩
    have HB7 := below_two HB6 hb7 (Nat.le_refl _)
    have HB7a := HB7.alloc HB7.size (.cells #[.int .i64 0, .int .i64 0, .slice none 0 0, .slice none 0 0, .int .i64 0] 74)
    have HB7b := HB7a.alloc HB7a.size (.cells #[.int .i64 0, .int .i64 0, .int .i64 0, .slice none 0 0, .string ByteArray.empty] 78)
    clear x6 xl6 p6 pl6 cH
    go_wp2_with fail
    refine (c0 _).mono ?_
    generalize ((w7.alloc (.cells #[.int .i64 0, .int .i64 0, .slice none 0 0, .slice none 0 0, .int .i64 0] 74)).alloc (.cells #[.int .i64 0, .int .i64 0, .int .i64 0, .slice none 0 0, .string ByteArray.empty] 78)) = w8 at *
    rintro r w9 ⟨rfl, hb9⟩
    have HB9 := below_two HB7b hb9 (Nat.le_refl _)
    have HB9a := HB9.alloc HB9.size (.cells #[.int .i64 0, .int .i64 0, .slice none 0 0, .slice none 0 0, .int .i64 0] 74)
    have cS9 := cS _ HB9a
    go_wp2_with fail
    refine cS9.mono ?_
    rintro r w10 ⟨⟨sa, sn, sc, qa, qn, qc, pa, pn, pc, rfl⟩, hb10⟩
    have HB10 := below_two HB9a hb10 (Nat.le_refl _)
    go_wp2_with fail
    go_ret
    exact ⟨rfl, HB10.alloc HB10.size _⟩
  · obtain ⟨hX, hch⟩ := puts_all nv [.int .i64 EP, .int .i64 1, .slice none 0 0, .slice none 0 0, .int .i64 0] rfl
    simp only [puts, Nat.zero_add, Nat.reduceAdd] at hX hch
    have HBW : Below w2.heap.size w2 (((((wv.setCell ⟨w2.heap.size, 0, none⟩ (.int .i64 EP)).setCell ⟨w2.heap.size, 1, none⟩ (.int .i64 1)).setCell ⟨w2.heap.size, 2, none⟩ (.slice none 0 0)).setCell ⟨w2.heap.size, 3, none⟩ (.slice none 0 0)).setCell ⟨w2.heap.size, 4, none⟩ (.int .i64 0)) := hSv.2.trans (hch.below (fun k e => by omega) szv)
    clear hch nv n0 nl nf
    generalize (((((wv.setCell ⟨w2.heap.size, 0, none⟩ (.int .i64 EP)).setCell ⟨w2.heap.size, 1, none⟩ (.int .i64 1)).setCell ⟨w2.heap.size, 2, none⟩ (.slice none 0 0)).setCell ⟨w2.heap.size, 3, none⟩ (.slice none 0 0)).setCell ⟨w2.heap.size, 4, none⟩ (.int .i64 0)) = w6 at *
    have hp6 := (HBW.block _ pl0).trans hp1
    have HB6 := below_two HB2 HBW (Nat.le_refl _)
    have cH := lhear_bad EP 1 0 [] [] (.slice none 0 0) (.slice none 0 0) p.toI (.slice va p.frame.op.length vc) w6 (inK_nil frS _ 0) (inK_nil frS _ 0) (by simp) (by simp) (by simp) (by simp) (opVal_own (own_below ho1 HBW)) hsm (hT.below HB6) (by rw [e12]; decide)
    rw [e12] at cH
    obtain ⟨x6, xl6, _⟩ := blk hX
    obtain ⟨p6, pl6, _⟩ := blk hp6
    clear cX cM keepA keepB keepC keepD toB hS0 hSv hbv e12 p0 pl0 hp1 ho1
    go_wp2_with fail
    refine cH.mono ?_
    rintro r w7 ⟨rfl, hb7⟩
    have HB7 := below_two HB6 hb7 (Nat.le_refl _)
    have HB7a := HB7.alloc HB7.size (.cells #[.int .i64 0, .int .i64 0, .slice none 0 0, .slice none 0 0, .int .i64 0] 74)
    have HB7b := HB7a.alloc HB7a.size (.cells #[.int .i64 0, .int .i64 0, .int .i64 0, .slice none 0 0, .string ByteArray.empty] 78)
    clear x6 xl6 p6 pl6 cH
    go_wp2_with fail
    refine (c0 _).mono ?_
    generalize ((w7.alloc (.cells #[.int .i64 0, .int .i64 0, .slice none 0 0, .slice none 0 0, .int .i64 0] 74)).alloc (.cells #[.int .i64 0, .int .i64 0, .int .i64 0, .slice none 0 0, .string ByteArray.empty] 78)) = w8 at *
    rintro r w9 ⟨rfl, hb9⟩
    have HB9 := below_two HB7b hb9 (Nat.le_refl _)
    have HB9a := HB9.alloc HB9.size (.cells #[.int .i64 0, .int .i64 0, .slice none 0 0, .slice none 0 0, .int .i64 0] 74)
    have cS9 := cS _ HB9a
    go_wp2_with fail
    refine cS9.mono ?_
    rintro r w10 ⟨⟨sa, sn, sc, qa, qn, qc, pa, pn, pc, rfl⟩, hb10⟩
    have HB10 := below_two HB9a hb10 (Nat.le_refl _)
    go_wp2_with fail
    go_ret
    exact ⟨rfl, HB10.alloc HB10.size _⟩
  · obtain ⟨hX, hch⟩ := puts_all nv [.int .i64 EP, .int .i64 1, .slice none 0 0, .slice none 0 0, .int .i64 0] rfl
    simp only [puts, Nat.zero_add, Nat.reduceAdd] at hX hch
    have HBW : Below w2.heap.size w2 (((((wv.setCell ⟨w2.heap.size, 0, none⟩ (.int .i64 EP)).setCell ⟨w2.heap.size, 1, none⟩ (.int .i64 1)).setCell ⟨w2.heap.size, 2, none⟩ (.slice none 0 0)).setCell ⟨w2.heap.size, 3, none⟩ (.slice none 0 0)).setCell ⟨w2.heap.size, 4, none⟩ (.int .i64 0)) := hSv.2.trans (hch.below (fun k e => by omega) szv)
    clear hch nv n0 nl nf
    generalize (((((wv.setCell ⟨w2.heap.size, 0, none⟩ (.int .i64 EP)).setCell ⟨w2.heap.size, 1, none⟩ (.int .i64 1)).setCell ⟨w2.heap.size, 2, none⟩ (.slice none 0 0)).setCell ⟨w2.heap.size, 3, none⟩ (.slice none 0 0)).setCell ⟨w2.heap.size, 4, none⟩ (.int .i64 0)) = w6 at *
    have hp6 := (HBW.block _ pl0).trans hp1
    have HB6 := below_two HB2 HBW (Nat.le_refl _)
    have cH := lhear_bad EP 1 0 [] [] (.slice none 0 0) (.slice none 0 0) p.toI (.slice va p.frame.op.length vc) w6 (inK_nil frS _ 0) (inK_nil frS _ 0) (by simp) (by simp) (by simp) (by simp) (opVal_own (own_below ho1 HBW)) hsm (hT.below HB6) (by rw [e12]; decide)
    rw [e12] at cH
    obtain ⟨x6, xl6, _⟩ := blk hX
    obtain ⟨p6, pl6, _⟩ := blk hp6
    clear cX cM keepA keepB keepC keepD toB hS0 hSv hbv e12 p0 pl0 hp1 ho1
    go_wp2_with fail
    refine cH.mono ?_
    rintro r w7 ⟨rfl, hb7⟩
    have HB7 := below_two HB6 hb7 (Nat.le_refl _)
    have HB7a := HB7.alloc HB7.size (.cells #[.int .i64 0, .int .i64 0, .slice none 0 0, .slice none 0 0, .int .i64 0] 74)
    have HB7b := HB7a.alloc HB7a.size (.cells #[.int .i64 0, .int .i64 0, .int .i64 0, .slice none 0 0, .string ByteArray.empty] 78)
    clear x6 xl6 p6 pl6 cH
    go_wp2_with fail
    refine (c0 _).mono ?_
    generalize ((w7.alloc (.cells #[.int .i64 0, .int .i64 0, .slice none 0 0, .slice none 0 0, .int .i64 0] 74)).alloc (.cells #[.int .i64 0, .int .i64 0, .int .i64 0, .slice none 0 0, .string ByteArray.empty] 78)) = w8 at *
    rintro r w9 ⟨rfl, hb9⟩
    have HB9 := below_two HB7b hb9 (Nat.le_refl _)
    have HB9a := HB9.alloc HB9.size (.cells #[.int .i64 0, .int .i64 0, .slice none 0 0, .slice none 0 0, .int .i64 0] 74)
    have cS9 := cS _ HB9a
    go_wp2_with fail
    refine cS9.mono ?_
    rintro r w10 ⟨⟨sa, sn, sc, qa, qn, qc, pa, pn, pc, rfl⟩, hb10⟩
    have HB10 := below_two HB9a hb10 (Nat.le_refl _)
    go_wp2_with fail
    go_ret
    exact ⟨rfl, HB10.alloc HB10.size _⟩
end Go.Proofs.YtekgennapogcgaaDoor
