/-
  Walk: wherrykeep.Packet.
-/
import Derived.Test.YtekgennapogcgaaDoorKFrame
namespace Go.Proofs.YtekgennapogcgaaDoor
open Go.RowKit Go.Lib

theorem pkOk_bare {ep ack : Nat} (h1 : ep < 5000) (h2 : ack < 50) : PkOk ⟨ep, 0, true, ack, frame0⟩ := by
  refine ⟨?_, by simp [frame0], by simp [frame0], ?_⟩
  · unfold pkErr packetErr
    simp only
    rw [inN_nat (by omega), inN_nat (by omega), inN_nat (by omega), if_neg (by decide), if_neg (by decide), if_neg (by decide), if_pos trivial, if_pos ⟨rfl, by decide +kernel⟩]
  · have s1 := sev_le (n := ep) (by omega)
    have s2 := sev_le (n := ack) (by omega)
    have s3 := sev_le (n := 0) (by omega)
    unfold packetW
    simp only
    rw [if_pos trivial, List.length_append, List.length_append, List.length_append, List.length_nil]
    omega
theorem pkOk_frame {ep num ack : Nat} {f : FrameV} (h1 : ep < 10000) (h2 : num < 10000) (h3 : ack < 10000) (e0 : ep ≠ 0) (n0 : num ≠ 0) (h : FrOk f) : PkOk ⟨ep, num, false, ack, f⟩ := by
  refine ⟨?_, h.parts, h.text, ?_⟩
  · unfold pkErr packetErr
    simp only
    rw [inN_nat (by omega), inN_nat (by omega), inN_nat (by omega), if_neg (by decide), if_neg (by decide), if_neg (by decide), if_neg (by decide), if_neg (by omega), if_neg (by omega)]
    exact h.err
  · have s1 := sev_le (n := ep) (by omega)
    have s2 := sev_le (n := ack) (by omega)
    have s3 := sev_le (n := num) (by omega)
    have := h.many
    unfold packetW
    simp only
    rw [if_neg (by decide), List.length_append, List.length_append, List.length_append]
    omega

set_option maxRecDepth 100000 in
set_option maxHeartbeats 2000000 in
theorem kpacket_any (r : RawV) (rs : List RawV) (a : Option Addr) (cap : Nat) (w : World) (hk : RawOk r) (hr : RawsAt w a rs) (hok : ∀ r ∈ rs, RawOk r) (hlen : rs.length ≤ 9223372036854775807) :
    Calls Tryd.prog 53 #[.agg #[.int .i64 r.kind, .int .i64 r.a, .int .i64 r.b, .int .i64 r.c, .string r.text], .slice a rs.length cap] w fun e w' => ∃ (p : PacketV) (v : Value), e = .returned (pkVal p v) ∧ w'.ownsRow w.heap.size 33 3 v p.frame.op.length (partCells p.frame.op) ∧ PkOk p ∧ (p.frame.op.length ≤ 10000 ∧ p.epoch ≤ 10000) ∧ Below w.heap.size w w' := by
  have hb1 := (Below.refl w.heap.size w).alloc (Nat.le_refl _) (.cells #[.int .i64 r.kind, .int .i64 r.a, .int .i64 r.b, .int .i64 r.c, .string r.text] 53)
  have hraw := row_old (heap_alloc_new w (.cells #[.int .i64 r.kind, .int .i64 r.a, .int .i64 r.b, .int .i64 r.c, .string r.text] 53)) (.cells #[.int .i64 0, .int .i64 0, .bool false, .int .i64 0, .int .i64 0, .int .i64 0, .int .i64 0, .slice none 0 0, .string ⟨#[]⟩] 88)
  have hres := heap_alloc_new (w.alloc (.cells #[.int .i64 r.kind, .int .i64 r.a, .int .i64 r.b, .int .i64 r.c, .string r.text] 53)) (.cells #[.int .i64 0, .int .i64 0, .bool false, .int .i64 0, .int .i64 0, .int .i64 0, .int .i64 0, .slice none 0 0, .string ⟨#[]⟩] 88)
  rw [show (w.alloc (.cells #[.int .i64 r.kind, .int .i64 r.a, .int .i64 r.b, .int .i64 r.c, .string r.text] 53)).heap.size = w.heap.size + 1 by simp] at hres
  have HB0 := hb1.alloc hb1.size (.cells #[.int .i64 0, .int .i64 0, .bool false, .int .i64 0, .int .i64 0, .int .i64 0, .int .i64 0, .slice none 0 0, .string ⟨#[]⟩] 88)
  obtain ⟨k0, k1, k2, k3, k4⟩ := raw_cells hraw
  clear hb1
  have hz0 : w.heap.size + 2 ≤ ((w.alloc (.cells #[.int .i64 r.kind, .int .i64 r.a, .int .i64 r.b, .int .i64 r.c, .string r.text] 53)).alloc (.cells #[.int .i64 0, .int .i64 0, .bool false, .int .i64 0, .int .i64 0, .int .i64 0, .int .i64 0, .slice none 0 0, .string ⟨#[]⟩] 88)).heap.size := by simp
  have cA := fun wx => picked_same r.a 5000 wx hk.a (by omega) (by omega)
  have cB := fun wx => picked_same r.b 50 wx hk.b (by omega) (by omega)
  have cK := fun wx => picked_same r.kind 4 wx hk.kind (by omega) (by omega)
  have ha := pick_lt r.a 5000 (by omega)
  have hb := pick_lt r.b 50 (by omega)
  have hkk := pick_lt r.kind 4 (by omega)
  generalize pick r.a 5000 = pa at *
  generalize pick r.b 50 = pb at *
  generalize pick r.kind 4 = pk at *
  go_enter Tryd.func53, Tryd.ntmps53
  go_wp2_with fail
  generalize ((w.alloc (.cells #[.int .i64 r.kind, .int .i64 r.a, .int .i64 r.b, .int .i64 r.c, .string r.text] 53)).alloc (.cells #[.int .i64 0, .int .i64 0, .bool false, .int .i64 0, .int .i64 0, .int .i64 0, .int .i64 0, .slice none 0 0, .string ⟨#[]⟩] 88)) = w0 at *
  have hS1 : (fun w' => w'.cell? ⟨w.heap.size, 1, none⟩ = some (.int .i64 r.a) ∧ w'.cell? ⟨w.heap.size, 2, none⟩ = some (.int .i64 r.b) ∧ w'.cell? ⟨w.heap.size, 3, none⟩ = some (.int .i64 r.c) ∧ w'.cell? ⟨w.heap.size, 4, none⟩ = some (.string r.text)) w0 := ⟨k1, k2, k3, k4⟩
  have hS0 : (fun w' => w'.cell? ⟨w.heap.size, 1, none⟩ = some (.int .i64 r.a) ∧ w'.cell? ⟨w.heap.size, 2, none⟩ = some (.int .i64 r.b) ∧ w'.cell? ⟨w.heap.size, 3, none⟩ = some (.int .i64 r.c) ∧ w'.cell? ⟨w.heap.size, 4, none⟩ = some (.string r.text)) w0.drew := hS1
  have hw0 : w.heap.size < w0.heap.size := by omega
  go_region_held3 (fun w' => w'.cell? ⟨w.heap.size, 1, none⟩ = some (.int .i64 r.a) ∧ w'.cell? ⟨w.heap.size, 2, none⟩ = some (.int .i64 r.b) ∧ w'.cell? ⟨w.heap.size, 3, none⟩ = some (.int .i64 r.c) ∧ w'.cell? ⟨w.heap.size, 4, none⟩ = some (.string r.text)) (with_reducible first | exact hS0 | assumption | exact kf_drew (kf_below hS1 ((Below.refl _ _).alloc (Nat.le_refl _) _) hw0)) (first | (go_at_call 21; with_reducible refine Calls.mono (cA _) ?_; rintro e wz ⟨rfl, rfl⟩) | (go_at_call 21; with_reducible refine Calls.mono (cB _) ?_; rintro e wz ⟨rfl, rfl⟩))
  all_goals
    have hraw2 : (w0.alloc (.cells #[.int .i64 (pa : Int), .int .i64 0, .bool false, .int .i64 (pb : Int), .int .i64 0, .int .i64 0, .int .i64 0, .slice none 0 0, .string ⟨#[]⟩] 88)).drew.heap[w.heap.size]? = _ := row_old hraw (.cells #[.int .i64 (pa : Int), .int .i64 0, .bool false, .int .i64 (pb : Int), .int .i64 0, .int .i64 0, .int .i64 0, .slice none 0 0, .string ⟨#[]⟩] 88)
    have hres2 : (w0.alloc (.cells #[.int .i64 (pa : Int), .int .i64 0, .bool false, .int .i64 (pb : Int), .int .i64 0, .int .i64 0, .int .i64 0, .slice none 0 0, .string ⟨#[]⟩] 88)).drew.heap[w.heap.size + 1]? = _ := row_old hres (.cells #[.int .i64 (pa : Int), .int .i64 0, .bool false, .int .i64 (pb : Int), .int .i64 0, .int .i64 0, .int .i64 0, .slice none 0 0, .string ⟨#[]⟩] 88)
    have hp2 : (w0.alloc (.cells #[.int .i64 (pa : Int), .int .i64 0, .bool false, .int .i64 (pb : Int), .int .i64 0, .int .i64 0, .int .i64 0, .slice none 0 0, .string ⟨#[]⟩] 88)).drew.heap[w0.heap.size]? = some (.cells #[.int .i64 (pa : Int), .int .i64 0, .bool false, .int .i64 (pb : Int), .int .i64 0, .int .i64 0, .int .i64 0, .slice none 0 0, .string ⟨#[]⟩] 88 (0, 0)) := heap_alloc_new w0 (.cells #[.int .i64 (pa : Int), .int .i64 0, .bool false, .int .i64 (pb : Int), .int .i64 0, .int .i64 0, .int .i64 0, .slice none 0 0, .string ⟨#[]⟩] 88)
    have HB2 : Below w.heap.size w (w0.alloc (.cells #[.int .i64 (pa : Int), .int .i64 0, .bool false, .int .i64 (pb : Int), .int .i64 0, .int .i64 0, .int .i64 0, .slice none 0 0, .string ⟨#[]⟩] 88)).drew := (HB0.alloc HB0.size (.cells #[.int .i64 (pa : Int), .int .i64 0, .bool false, .int .i64 (pb : Int), .int .i64 0, .int .i64 0, .int .i64 0, .slice none 0 0, .string ⟨#[]⟩] 88)).trans ⟨rfl, rfl, rfl, Nat.le_refl _, fun _ _ => rfl⟩
    have cK2 := cK (w0.alloc (.cells #[.int .i64 (pa : Int), .int .i64 0, .bool false, .int .i64 (pb : Int), .int .i64 0, .int .i64 0, .int .i64 0, .slice none 0 0, .string ⟨#[]⟩] 88)).drew
    go_wp2_with fail
    clear k0 k1 k2 k3 k4 hS1 hS0 cA cB cK hraw hres
    refine cK2.mono ?_
    generalize (w0.alloc (.cells #[.int .i64 (pa : Int), .int .i64 0, .bool false, .int .i64 (pb : Int), .int .i64 0, .int .i64 0, .int .i64 0, .slice none 0 0, .string ⟨#[]⟩] 88)).drew = w2 at *
    rintro e w3 ⟨rfl, rfl⟩
    clear cK2
    obtain ⟨k2, kl2, _⟩ := blk hraw2
    obtain ⟨r2, rl2, rf2⟩ := blk hres2
    obtain ⟨p2, pl2, pf2⟩ := blk hp2
    by_cases h0 : pk = 0
    · subst h0
      have hp3 : (w3.setCell ⟨w0.heap.size, 2, none⟩ (.bool true)).heap[w0.heap.size]? = some (.cells #[.int .i64 (pa : Int), .int .i64 0, .bool true, .int .i64 (pb : Int), .int .i64 0, .int .i64 0, .int .i64 0, .slice none 0 0, .string ⟨#[]⟩] 88 (0, 0)) := (blk_put hp2 2 (.bool true)).1
      have hs3 := (blk_put hp2 2 (.bool true)).2
      have hres3 := hs3.row hres2 (by omega)
      obtain ⟨p3, pl3, pf3⟩ := blk hp3
      obtain ⟨r3, rl3, rf3⟩ := blk hres3
      obtain ⟨hfin, hch⟩ := puts_all hres3 [.int .i64 (pa : Int), .int .i64 0, .bool true, .int .i64 (pb : Int), .int .i64 0, .int .i64 0, .int .i64 0, .slice none 0 0, .string ⟨#[]⟩] rfl
      simp only [puts, Nat.zero_add, Nat.reduceAdd] at hfin hch
      have HB3 := (HB2.trans (hs3.below (B := w.heap.size) (fun i e => by omega) HB2.size)).trans (hch.below (B := w.heap.size) (fun i e => by omega) (Nat.le_trans HB2.size hs3.size))
      clear hraw2 hres2 hp2 hp3 hres3 hs3 hch HB2
      go_wp2_with fail
      generalize ((((((((((w3.setCell ⟨w0.heap.size, 2, none⟩ (.bool true)).setCell ⟨w.heap.size + 1, 0, none⟩ (.int .i64 (pa : Int))).setCell ⟨w.heap.size + 1, 1, none⟩ (.int .i64 0)).setCell ⟨w.heap.size + 1, 2, none⟩ (.bool true)).setCell ⟨w.heap.size + 1, 3, none⟩ (.int .i64 (pb : Int))).setCell ⟨w.heap.size + 1, 4, none⟩ (.int .i64 0)).setCell ⟨w.heap.size + 1, 5, none⟩ (.int .i64 0)).setCell ⟨w.heap.size + 1, 6, none⟩ (.int .i64 0)).setCell ⟨w.heap.size + 1, 7, none⟩ (.slice none 0 0)).setCell ⟨w.heap.size + 1, 8, none⟩ (.string ⟨#[]⟩)) = w9 at *
      obtain ⟨t9, _, _⟩ := blk hfin
      exact bodyPost_ret (v := .agg #[.int .i64 (pa : Int), .int .i64 0, .bool true, .int .i64 (pb : Int), .int .i64 0, .int .i64 0, .int .i64 0, .slice none 0 0, .string ⟨#[]⟩]) (by simp [results, Tryd.results53, go_sem, t9]) rfl ⟨⟨pa, 0, true, pb, frame0⟩, .slice none 0 0, rfl, World.ownsRow_nil _ _ _ _, pkOk_bare (by omega) (by omega), ⟨by simp [frame0], by show pa ≤ 10000; omega⟩, HB3⟩
    · have g0 : ((pk : Int) == 0) = false := by simp; omega
      have hp3 : (w3.setCell ⟨w0.heap.size, 0, none⟩ (.int .i64 ((pa : Int) + 1))).heap[w0.heap.size]? = some (.cells #[.int .i64 ((pa : Int) + 1), .int .i64 0, .bool false, .int .i64 (pb : Int), .int .i64 0, .int .i64 0, .int .i64 0, .slice none 0 0, .string ⟨#[]⟩] 88 (0, 0)) := (blk_put hp2 0 (.int .i64 ((pa : Int) + 1))).1
      have hs3 := (blk_put hp2 0 (.int .i64 ((pa : Int) + 1))).2
      have hres3 := hs3.row hres2 (by omega)
      have hraw3 := hs3.row hraw2 (by omega)
      have HB3 := HB2.trans (hs3.below (B := w.heap.size) (fun i e => by omega) HB2.size)
      obtain ⟨p3, pl3, pf3⟩ := blk hp3
      obtain ⟨k3, _, _⟩ := blk hraw3
      have hpc := pick_lt r.c 30 (by omega)
      have cC := picked_same r.c 30 (w3.setCell ⟨w0.heap.size, 0, none⟩ (.int .i64 ((pa : Int) + 1))) hk.c (by omega) (by omega)
      generalize pick r.c 30 = pc at *
      clear hraw2 hres2 hp2 hs3 HB2
      go_wp2_with fail
      refine cC.mono ?_
      clear k2 kl2 r2 rl2 rf2 p2 pl2 pf2 cC
      generalize (w3.setCell ⟨w0.heap.size, 0, none⟩ (.int .i64 ((pa : Int) + 1))) = w4 at *
      rintro e w5 ⟨rfl, rfl⟩
      have hp5 : (w5.setCell ⟨w0.heap.size, 1, none⟩ (.int .i64 (1 + (pc : Int)))).heap[w0.heap.size]? = some (.cells #[.int .i64 ((pa : Int) + 1), .int .i64 (1 + (pc : Int)), .bool false, .int .i64 (pb : Int), .int .i64 0, .int .i64 0, .int .i64 0, .slice none 0 0, .string ⟨#[]⟩] 88 (0, 0)) := (blk_put hp3 1 (.int .i64 (1 + (pc : Int)))).1
      have hs5 := (blk_put hp3 1 (.int .i64 (1 + (pc : Int)))).2
      have hres5 := hs5.row hres3 (by omega)
      have hraw5 := hs5.row hraw3 (by omega)
      have HB5 := HB3.trans (hs5.below (B := w.heap.size) (fun i e => by omega) HB3.size)
      obtain ⟨k5, _, _⟩ := blk hraw5
      have cF := kframe_any r rs a cap (w5.setCell ⟨w0.heap.size, 1, none⟩ (.int .i64 (1 + (pc : Int)))) hk (hr.below HB5 (Nat.le_refl _)) hok hlen
      clear hraw3 hres3 hp3 hs5 HB3 hraw5
      go_wp2_with fail
      refine cF.mono ?_
      clear p3 pl3 pf3 k3 k5 cF
      generalize (w5.setCell ⟨w0.heap.size, 1, none⟩ (.int .i64 (1 + (pc : Int)))) = w6 at *
      rintro e w7 ⟨f, v, rfl, hown, hfo, hb7⟩
      obtain ⟨va, vc, rfl⟩ := own_form hown
      have hp7 := (hb7.block _ (Array.getElem?_eq_some_iff.1 hp5).1).trans hp5
      have hres7 := (hb7.block _ (Array.getElem?_eq_some_iff.1 hres5).1).trans hres5
      have HB7 := below_two HB5 hb7 (Nat.le_refl _)
      have hz6 := HB5.size
      have hol := hfo.ops
      have hpk := pkOk_frame (ep := pa + 1) (num := 1 + pc) (ack := pb) (by omega) (by omega) (by omega) (by omega) (by omega) hfo
      obtain ⟨fk, fh, fe, ps, tx⟩ := f
      simp only at hown hol
      clear hp5 hres5 hb7 hfo HB5
      obtain ⟨p7, pl7, pf7⟩ := blk hp7
      have hq0 : (w7.setCell ⟨w0.heap.size, 4, none⟩ (.int .i64 (fk : Int))).heap[w0.heap.size]? = some (.cells #[.int .i64 ((pa : Int) + 1), .int .i64 (1 + (pc : Int)), .bool false, .int .i64 (pb : Int), .int .i64 (fk : Int), .int .i64 0, .int .i64 0, .slice none 0 0, .string ⟨#[]⟩] 88 (0, 0)) := (blk_put hp7 4 (.int .i64 (fk : Int))).1
      have hs0 := (blk_put hp7 4 (.int .i64 (fk : Int))).2
      have hq1 : ((w7.setCell ⟨w0.heap.size, 4, none⟩ (.int .i64 (fk : Int))).setCell ⟨w0.heap.size, 5, none⟩ (.int .i64 (fh : Int))).heap[w0.heap.size]? = some (.cells #[.int .i64 ((pa : Int) + 1), .int .i64 (1 + (pc : Int)), .bool false, .int .i64 (pb : Int), .int .i64 (fk : Int), .int .i64 (fh : Int), .int .i64 0, .slice none 0 0, .string ⟨#[]⟩] 88 (0, 0)) := (blk_put hq0 5 (.int .i64 (fh : Int))).1
      have hs1 := hs0.trans (blk_put hq0 5 (.int .i64 (fh : Int))).2 (fun _ _ h => h)
      have hq2 : (((w7.setCell ⟨w0.heap.size, 4, none⟩ (.int .i64 (fk : Int))).setCell ⟨w0.heap.size, 5, none⟩ (.int .i64 (fh : Int))).setCell ⟨w0.heap.size, 6, none⟩ (.int .i64 (fe : Int))).heap[w0.heap.size]? = some (.cells #[.int .i64 ((pa : Int) + 1), .int .i64 (1 + (pc : Int)), .bool false, .int .i64 (pb : Int), .int .i64 (fk : Int), .int .i64 (fh : Int), .int .i64 (fe : Int), .slice none 0 0, .string ⟨#[]⟩] 88 (0, 0)) := (blk_put hq1 6 (.int .i64 (fe : Int))).1
      have hs2 := hs1.trans (blk_put hq1 6 (.int .i64 (fe : Int))).2 (fun _ _ h => h)
      have hq3 : ((((w7.setCell ⟨w0.heap.size, 4, none⟩ (.int .i64 (fk : Int))).setCell ⟨w0.heap.size, 5, none⟩ (.int .i64 (fh : Int))).setCell ⟨w0.heap.size, 6, none⟩ (.int .i64 (fe : Int))).setCell ⟨w0.heap.size, 7, none⟩ (.slice va ps.length vc)).heap[w0.heap.size]? = some (.cells #[.int .i64 ((pa : Int) + 1), .int .i64 (1 + (pc : Int)), .bool false, .int .i64 (pb : Int), .int .i64 (fk : Int), .int .i64 (fh : Int), .int .i64 (fe : Int), .slice va ps.length vc, .string ⟨#[]⟩] 88 (0, 0)) := (blk_put hq2 7 (.slice va ps.length vc)).1
      have hs3 := hs2.trans (blk_put hq2 7 (.slice va ps.length vc)).2 (fun _ _ h => h)
      have hq4 : (((((w7.setCell ⟨w0.heap.size, 4, none⟩ (.int .i64 (fk : Int))).setCell ⟨w0.heap.size, 5, none⟩ (.int .i64 (fh : Int))).setCell ⟨w0.heap.size, 6, none⟩ (.int .i64 (fe : Int))).setCell ⟨w0.heap.size, 7, none⟩ (.slice va ps.length vc)).setCell ⟨w0.heap.size, 8, none⟩ (.string tx)).heap[w0.heap.size]? = some (.cells #[.int .i64 ((pa : Int) + 1), .int .i64 (1 + (pc : Int)), .bool false, .int .i64 (pb : Int), .int .i64 (fk : Int), .int .i64 (fh : Int), .int .i64 (fe : Int), .slice va ps.length vc, .string tx] 88 (0, 0)) := (blk_put hq3 8 (.string tx)).1
      have hs4 := hs3.trans (blk_put hq3 8 (.string tx)).2 (fun _ _ h => h)
      have hres8 := hs4.row hres7 (by omega)
      obtain ⟨p8, pl8, pf8⟩ := blk hq4
      obtain ⟨r8, rl8, rf8⟩ := blk hres8
      obtain ⟨hfin, hch⟩ := puts_all hres8 [.int .i64 ((pa : Int) + 1), .int .i64 (1 + (pc : Int)), .bool false, .int .i64 (pb : Int), .int .i64 (fk : Int), .int .i64 (fh : Int), .int .i64 (fe : Int), .slice va ps.length vc, .string tx] rfl
      simp only [puts, Nat.zero_add, Nat.reduceAdd] at hfin hch
      have HB8 := (HB7.trans (hs4.below (B := w.heap.size) (fun i e => by omega) HB7.size)).trans (hch.below (B := w.heap.size) (fun i e => by omega) (Nat.le_trans HB7.size hs4.size))
      have hown8 := own_chg hown hs4 (fun k hk e => row_ne hown hp7 (by decide) (by rw [← e]; exact hk.symm))
      have hown9 := own_base (own_chg hown8 hch (fun k hk e => row_ne hown8 hres8 (by decide) (by rw [← e]; exact hk.symm))) (show w.heap.size ≤ w6.heap.size by omega)
      clear hp7 hres7 hq0 hq1 hq2 hq3 hq4 hs0 hs1 hs2 hs3 hs4 hres8 hch HB7 hown hown8
      go_wp2_with fail
      generalize ((((((((((((((w7.setCell ⟨w0.heap.size, 4, none⟩ (.int .i64 (fk : Int))).setCell ⟨w0.heap.size, 5, none⟩ (.int .i64 (fh : Int))).setCell ⟨w0.heap.size, 6, none⟩ (.int .i64 (fe : Int))).setCell ⟨w0.heap.size, 7, none⟩ (.slice va ps.length vc)).setCell ⟨w0.heap.size, 8, none⟩ (.string tx)).setCell ⟨w.heap.size + 1, 0, none⟩ (.int .i64 ((pa : Int) + 1))).setCell ⟨w.heap.size + 1, 1, none⟩ (.int .i64 (1 + (pc : Int)))).setCell ⟨w.heap.size + 1, 2, none⟩ (.bool false)).setCell ⟨w.heap.size + 1, 3, none⟩ (.int .i64 (pb : Int))).setCell ⟨w.heap.size + 1, 4, none⟩ (.int .i64 (fk : Int))).setCell ⟨w.heap.size + 1, 5, none⟩ (.int .i64 (fh : Int))).setCell ⟨w.heap.size + 1, 6, none⟩ (.int .i64 (fe : Int))).setCell ⟨w.heap.size + 1, 7, none⟩ (.slice va ps.length vc)).setCell ⟨w.heap.size + 1, 8, none⟩ (.string tx)) = w9 at *
      obtain ⟨t9, _, _⟩ := blk hfin
      refine bodyPost_ret (v := .agg #[.int .i64 ((pa : Int) + 1), .int .i64 (1 + (pc : Int)), .bool false, .int .i64 (pb : Int), .int .i64 (fk : Int), .int .i64 (fh : Int), .int .i64 (fe : Int), .slice va ps.length vc, .string tx]) (by simp [results, Tryd.results53, go_sem, t9]) rfl ⟨⟨pa + 1, 1 + pc, false, pb, ⟨fk, fh, fe, ps, tx⟩⟩, .slice va ps.length vc, ?_, hown9, hpk, ⟨hol, by show pa + 1 ≤ 10000; omega⟩, HB8⟩
      unfold pkVal
      rw [show ((pa + 1 : Nat) : Int) = (pa : Int) + 1 by omega, show ((1 + pc : Nat) : Int) = 1 + (pc : Int) by omega]

end Go.Proofs.YtekgennapogcgaaDoor
