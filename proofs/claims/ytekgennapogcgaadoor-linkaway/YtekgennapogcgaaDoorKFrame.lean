/-
  Walk: wherrykeep.Frame.
-/
import Derived.Test.YtekgennapogcgaaDoorKRecord
import Derived.Test.YtekgennapogcgaaDoorWirePkB
import Derived.Deep.RegionHeld3
namespace Go.Proofs.YtekgennapogcgaaDoor
open Go.RowKit Go.Lib

structure FrOk (f : FrameV) : Prop where
  err : frameErr f.kind f.heard f.epoch f.op f.text = 0
  parts : ∀ q ∈ f.op, q.text.size ≤ 1048576
  text : f.text.size ≤ 1048576
  many : (frameW f).length ≤ 30000
  ops : f.op.length ≤ 10000

theorem inN_nat {n : Nat} (h : n ≤ 1048576) : inN (n : Int) = true := decide_eq_true (by omega)
theorem frOk_join {e h : Nat} (he : e < 5000) (hh : h < 5000) : FrOk ⟨2, h, 1 + e, [], ByteArray.empty⟩ := by
  refine ⟨?_, by simp, by simp, ?_, by simp⟩
  · unfold frameErr
    simp only
    rw [if_neg (by simp), inN_nat (by omega), inN_nat (by omega), if_neg (by decide), if_neg (by decide), if_neg (by decide +kernel), if_neg (by decide +kernel), if_pos]
    unfold ownB
    simp
    omega
  · have h1 := sev_le (n := 1 + e) (by omega)
    have h2 := sev_le (n := h) (by omega)
    have h3 := sev_le (n := 2) (by omega)
    unfold frameW
    simp only
    rw [if_neg (by decide), if_pos (by simp), List.length_append, List.length_append]
    omega
theorem frOk_whole {e : Nat} {t : ByteArray} (he : e < 5000) (ht : textErr t = 0) (hs : t.size ≤ 1000) : FrOk ⟨3, 0, 1 + e, [], t⟩ := by
  refine ⟨?_, by simp, by simp only; omega, ?_, by simp⟩
  · unfold frameErr
    simp only
    rw [if_neg (by simp), inN_nat (by omega), inN_nat (by omega), if_neg (by decide), if_neg (by decide), if_neg (by decide +kernel), if_neg (by rw [ht]; simp), if_pos]
    unfold ownB
    simp
    omega
  · have h1 := sev_le (n := 1 + e) (by omega)
    have h2 := sev_le (n := t.size) (by omega)
    have h3 := sev_le (n := 3) (by omega)
    unfold frameW
    simp only
    rw [if_neg (by decide), if_neg (by decide), if_pos (by simp), List.length_append, List.length_append, List.length_append, sbytes_length]
    omega
theorem frOk_edit {h : Nat} {A : List Step} (hh : h < 50) (ok : StepsOk A) (hl : A.length ≤ 44) : FrOk ⟨1, h, 0, group A, ByteArray.empty⟩ := by
  have ho := group_ok ok (by omega : A.length ≤ 4000)
  have ht : ∀ p ∈ group A, p.text.size ≤ 176 := fun p hp => by have := group_txt A p hp; omega
  have ht2 : ∀ p ∈ group A, p.text.size ≤ 1048576 := fun p hp => by have := ht p hp; omega
  have h4 := group_len A
  refine ⟨?_, ht2, by simp, ?_, by simp only; omega⟩
  · unfold frameErr
    simp only
    rw [if_neg (by simp), inN_nat (by omega), inN_nat (by omega), if_neg (by decide), if_neg (by decide), if_neg (by rw [ho.err]; simp), if_neg (by decide +kernel), if_pos]
    unfold ownB
    simp
  · obtain ⟨h1, h2⟩ := opErr_parts ho.err ht2
    have h3 := partsW_length (group A) 176 (fun p hp => ⟨h2 p hp, ht p hp⟩)
    have h5 := sev_le (n := (group A).length) (by omega)
    have h6 := sev_le (n := 1) (by omega)
    have h7 := sev_le (n := h) (by omega)
    unfold frameW opW
    simp only
    rw [if_pos (by simp), List.length_append, List.length_append, List.length_append]
    omega

theorem kf_keep {r : RawV} {w w' : World} (h : (fun w' => w'.cell? ⟨w.heap.size, 1, none⟩ = some (.int .i64 r.a) ∧ w'.cell? ⟨w.heap.size, 2, none⟩ = some (.int .i64 r.b) ∧ w'.cell? ⟨w.heap.size, 3, none⟩ = some (.int .i64 r.c) ∧ w'.cell? ⟨w.heap.size, 4, none⟩ = some (.string r.text)) w') (x0 x1 x2 x3 x4 : Value) : (fun w' => w'.cell? ⟨w.heap.size, 1, none⟩ = some (.int .i64 r.a) ∧ w'.cell? ⟨w.heap.size, 2, none⟩ = some (.int .i64 r.b) ∧ w'.cell? ⟨w.heap.size, 3, none⟩ = some (.int .i64 r.c) ∧ w'.cell? ⟨w.heap.size, 4, none⟩ = some (.string r.text)) (((((w'.setCell ⟨w.heap.size + 1, 0, none⟩ x0).setCell ⟨w.heap.size + 1, 1, none⟩ x1).setCell ⟨w.heap.size + 1, 2, none⟩ x2).setCell ⟨w.heap.size + 1, 3, none⟩ x3).setCell ⟨w.heap.size + 1, 4, none⟩ x4) := by
  have hc : ∀ j, (((((w'.setCell ⟨w.heap.size + 1, 0, none⟩ x0).setCell ⟨w.heap.size + 1, 1, none⟩ x1).setCell ⟨w.heap.size + 1, 2, none⟩ x2).setCell ⟨w.heap.size + 1, 3, none⟩ x3).setCell ⟨w.heap.size + 1, 4, none⟩ x4).cell? ⟨w.heap.size, j, none⟩ = w'.cell? ⟨w.heap.size, j, none⟩ := fun j => World.cell?_of_block (a := ⟨w.heap.size, j, none⟩) (by
    show (((((w'.setCell ⟨w.heap.size + 1, 0, none⟩ x0).setCell ⟨w.heap.size + 1, 1, none⟩ x1).setCell ⟨w.heap.size + 1, 2, none⟩ x2).setCell ⟨w.heap.size + 1, 3, none⟩ x3).setCell ⟨w.heap.size + 1, 4, none⟩ x4).heap[w.heap.size]? = w'.heap[w.heap.size]?
    have hn : w.heap.size ≠ w.heap.size + 1 := by omega
    rw [Below.heap_setCell _ _ _ _ hn, Below.heap_setCell _ _ _ _ hn, Below.heap_setCell _ _ _ _ hn, Below.heap_setCell _ _ _ _ hn, Below.heap_setCell _ _ _ _ hn])
  exact ⟨(hc 1).trans h.1, (hc 2).trans h.2.1, (hc 3).trans h.2.2.1, (hc 4).trans h.2.2.2⟩
theorem kf_drew {r : RawV} {w w' : World} (h : (fun w' => w'.cell? ⟨w.heap.size, 1, none⟩ = some (.int .i64 r.a) ∧ w'.cell? ⟨w.heap.size, 2, none⟩ = some (.int .i64 r.b) ∧ w'.cell? ⟨w.heap.size, 3, none⟩ = some (.int .i64 r.c) ∧ w'.cell? ⟨w.heap.size, 4, none⟩ = some (.string r.text)) w') : (fun w' => w'.cell? ⟨w.heap.size, 1, none⟩ = some (.int .i64 r.a) ∧ w'.cell? ⟨w.heap.size, 2, none⟩ = some (.int .i64 r.b) ∧ w'.cell? ⟨w.heap.size, 3, none⟩ = some (.int .i64 r.c) ∧ w'.cell? ⟨w.heap.size, 4, none⟩ = some (.string r.text)) w'.drew := h
theorem kf_below {r : RawV} {w w' w'' : World} (h : (fun w' => w'.cell? ⟨w.heap.size, 1, none⟩ = some (.int .i64 r.a) ∧ w'.cell? ⟨w.heap.size, 2, none⟩ = some (.int .i64 r.b) ∧ w'.cell? ⟨w.heap.size, 3, none⟩ = some (.int .i64 r.c) ∧ w'.cell? ⟨w.heap.size, 4, none⟩ = some (.string r.text)) w') (hb : Below w'.heap.size w' w'') (hl : w.heap.size < w'.heap.size) : (fun w' => w'.cell? ⟨w.heap.size, 1, none⟩ = some (.int .i64 r.a) ∧ w'.cell? ⟨w.heap.size, 2, none⟩ = some (.int .i64 r.b) ∧ w'.cell? ⟨w.heap.size, 3, none⟩ = some (.int .i64 r.c) ∧ w'.cell? ⟨w.heap.size, 4, none⟩ = some (.string r.text)) w'' :=
  ⟨(hb.cell (p := ⟨w.heap.size, 1, none⟩) hl).trans h.1, (hb.cell (p := ⟨w.heap.size, 2, none⟩) hl).trans h.2.1, (hb.cell (p := ⟨w.heap.size, 3, none⟩) hl).trans h.2.2.1, (hb.cell (p := ⟨w.heap.size, 4, none⟩) hl).trans h.2.2.2⟩
set_option maxRecDepth 100000 in
set_option maxHeartbeats 2000000 in
theorem kframe_any (r : RawV) (rs : List RawV) (a : Option Addr) (cap : Nat) (w : World) (hk : RawOk r) (hr : RawsAt w a rs) (hok : ∀ r ∈ rs, RawOk r) (hlen : rs.length ≤ 9223372036854775807) :
    Calls Tryd.prog 55 #[.agg #[.int .i64 r.kind, .int .i64 r.a, .int .i64 r.b, .int .i64 r.c, .string r.text], .slice a rs.length cap] w fun e w' => ∃ (f : FrameV) (v : Value), e = .returned (.agg #[.int .i64 (f.kind : Int), .int .i64 (f.heard : Int), .int .i64 (f.epoch : Int), v, .string f.text]) ∧ w'.ownsRow w.heap.size 33 3 v f.op.length (partCells f.op) ∧ FrOk f ∧ Below w.heap.size w w' := by
  have hb1 := (Below.refl w.heap.size w).alloc (Nat.le_refl _) (.cells #[.int .i64 r.kind, .int .i64 r.a, .int .i64 r.b, .int .i64 r.c, .string r.text] 53)
  have hraw := row_old (heap_alloc_new w (.cells #[.int .i64 r.kind, .int .i64 r.a, .int .i64 r.b, .int .i64 r.c, .string r.text] 53)) (.cells #[.int .i64 0, .int .i64 0, .int .i64 0, .slice none 0 0, .string ⟨#[]⟩] 78)
  have hres := heap_alloc_new (w.alloc (.cells #[.int .i64 r.kind, .int .i64 r.a, .int .i64 r.b, .int .i64 r.c, .string r.text] 53)) (.cells #[.int .i64 0, .int .i64 0, .int .i64 0, .slice none 0 0, .string ⟨#[]⟩] 78)
  rw [show (w.alloc (.cells #[.int .i64 r.kind, .int .i64 r.a, .int .i64 r.b, .int .i64 r.c, .string r.text] 53)).heap.size = w.heap.size + 1 by simp] at hres
  have HB0 := hb1.alloc hb1.size (.cells #[.int .i64 0, .int .i64 0, .int .i64 0, .slice none 0 0, .string ⟨#[]⟩] 78)
  obtain ⟨k0, k1, k2, k3, k4⟩ := raw_cells hraw
  obtain ⟨r0, rl, rf⟩ := blk hres
  clear hb1
  have hz0 : ((w.alloc (.cells #[.int .i64 r.kind, .int .i64 r.a, .int .i64 r.b, .int .i64 r.c, .string r.text] 53)).alloc (.cells #[.int .i64 0, .int .i64 0, .int .i64 0, .slice none 0 0, .string ⟨#[]⟩] 78)).heap.size = w.heap.size + 2 := by simp
  have cP := picked_same (wrap64 (r.kind.tdiv 4)) 3 ((w.alloc (.cells #[.int .i64 r.kind, .int .i64 r.a, .int .i64 r.b, .int .i64 r.c, .string r.text] 53)).alloc (.cells #[.int .i64 0, .int .i64 0, .int .i64 0, .slice none 0 0, .string ⟨#[]⟩] 78)) (by unfold wrap64; omega) (by omega) (by omega)
  have hp3 := pick_lt (wrap64 (r.kind.tdiv 4)) 3 (by omega)
  go_enter Tryd.func55, Tryd.ntmps55
  go_wp2_with fail
  refine cP.mono ?_
  rintro e w1 ⟨rfl, rfl⟩
  clear cP
  generalize ((w.alloc (.cells #[.int .i64 r.kind, .int .i64 r.a, .int .i64 r.b, .int .i64 r.c, .string r.text] 53)).alloc (.cells #[.int .i64 0, .int .i64 0, .int .i64 0, .slice none 0 0, .string ⟨#[]⟩] 78)) = w0 at *
  generalize pick (wrap64 (r.kind.tdiv 4)) 3 = p at *
  obtain h3 : p = 0 ∨ p = 1 ∨ p = 2 := by omega
  have hS1 : (fun w' => w'.cell? ⟨w.heap.size, 1, none⟩ = some (.int .i64 r.a) ∧ w'.cell? ⟨w.heap.size, 2, none⟩ = some (.int .i64 r.b) ∧ w'.cell? ⟨w.heap.size, 3, none⟩ = some (.int .i64 r.c) ∧ w'.cell? ⟨w.heap.size, 4, none⟩ = some (.string r.text)) w0 := ⟨k1, k2, k3, k4⟩
  have hS0 : (fun w' => w'.cell? ⟨w.heap.size, 1, none⟩ = some (.int .i64 r.a) ∧ w'.cell? ⟨w.heap.size, 2, none⟩ = some (.int .i64 r.b) ∧ w'.cell? ⟨w.heap.size, 3, none⟩ = some (.int .i64 r.c) ∧ w'.cell? ⟨w.heap.size, 4, none⟩ = some (.string r.text)) w0.drew := hS1
  have hw0 : w.heap.size < w0.drew.heap.size := by show w.heap.size < w0.heap.size; omega
  have hres0 : w0.drew.heap[w.heap.size + 1]? = some (.cells #[.int .i64 0, .int .i64 0, .int .i64 0, .slice none 0 0, .string ⟨#[]⟩] 78 (0, 0)) := hres
  have HBd : Below w.heap.size w w0.drew := HB0.trans ⟨rfl, rfl, rfl, Nat.le_refl _, fun _ _ => rfl⟩
  rcases h3 with rfl | rfl | rfl
  · have cA := fun wx => picked_same r.a 5000 wx hk.a (by omega) (by omega)
    have cB := fun wx => picked_same r.b 5000 wx hk.b (by omega) (by omega)
    have ha := pick_lt r.a 5000 (by omega)
    have hb := pick_lt r.b 5000 (by omega)
    generalize pick r.a 5000 = pa at *
    generalize pick r.b 5000 = pb at *
    go_wp2_with fail
    go_region_held3 (fun w' => w'.cell? ⟨w.heap.size, 1, none⟩ = some (.int .i64 r.a) ∧ w'.cell? ⟨w.heap.size, 2, none⟩ = some (.int .i64 r.b) ∧ w'.cell? ⟨w.heap.size, 3, none⟩ = some (.int .i64 r.c) ∧ w'.cell? ⟨w.heap.size, 4, none⟩ = some (.string r.text)) (with_reducible first | exact hS0 | assumption | exact kf_drew (kf_keep hS1 _ _ _ _ _)) (first | (go_at_call 21; with_reducible refine Calls.mono (cA _) ?_; rintro e wz ⟨rfl, rfl⟩) | (go_at_call 21; with_reducible refine Calls.mono (cB _) ?_; rintro e wz ⟨rfl, rfl⟩))
    obtain ⟨hfin, hch⟩ := puts_all hres [.int .i64 2, .int .i64 (pb : Int), .int .i64 (IntKind.i64.wrap (1 + (pa : Int))), .slice none 0 0, .string ⟨#[]⟩] rfl
    simp only [puts, Nat.zero_add, Nat.reduceAdd] at hfin hch
    have HB2 := HB0.trans (hch.below (fun i e => by omega) HB0.size)
    go_wp2_with fail
    generalize (((((w0.setCell ⟨w.heap.size + 1, 0, none⟩ (.int .i64 2)).setCell ⟨w.heap.size + 1, 1, none⟩ (.int .i64 (pb : Int))).setCell ⟨w.heap.size + 1, 2, none⟩ (.int .i64 (IntKind.i64.wrap (1 + (pa : Int))))).setCell ⟨w.heap.size + 1, 3, none⟩ (.slice none 0 0)).setCell ⟨w.heap.size + 1, 4, none⟩ (.string ⟨#[]⟩)) = w9 at *
    obtain ⟨t9, _, _⟩ := blk hfin
    refine bodyPost_ret (v := .agg #[.int .i64 2, .int .i64 (pb : Int), .int .i64 (IntKind.i64.wrap (1 + (pa : Int))), .slice none 0 0, .string ⟨#[]⟩]) (by simp [results, Tryd.results55, go_sem, t9]) rfl ⟨⟨2, pb, 1 + pa, [], ByteArray.empty⟩, .slice none 0 0, ?_, World.ownsRow_nil _ _ _ _, frOk_join (by omega) (by omega), HB2.trans ⟨rfl, rfl, rfl, Nat.le_refl _, fun _ _ => rfl⟩⟩
    rw [show IntKind.i64.wrap (1 + (pa : Int)) = ((1 + pa : Nat) : Int) by rw [IntKind.wrap_i64]; omega]
    rfl
  · have cA := fun wx => picked_same r.a 5000 wx hk.a (by omega) (by omega)
    have cL := fun wx => letters_any r.text 20 wx hk.text (by omega)
    have ha := pick_lt r.a 5000 (by omega)
    generalize pick r.a 5000 = pa at *
    go_wp2_with fail
    go_region_held3 (fun w' => w'.cell? ⟨w.heap.size, 1, none⟩ = some (.int .i64 r.a) ∧ w'.cell? ⟨w.heap.size, 2, none⟩ = some (.int .i64 r.b) ∧ w'.cell? ⟨w.heap.size, 3, none⟩ = some (.int .i64 r.c) ∧ w'.cell? ⟨w.heap.size, 4, none⟩ = some (.string r.text)) (with_reducible first | exact hS0 | assumption | exact kf_below hS0 hbz hw0 | exact kf_keep (by assumption) _ _ _ _ _) (first | (go_at_call 21; with_reducible refine Calls.mono (cA _) ?_; rintro e wz ⟨rfl, rfl⟩) | (go_at_call 19; with_reducible refine Calls.mono (cL _) ?_; rintro e wz ⟨t, h1, h2, rfl, hbz⟩; have hresz := (hbz.block _ (Array.getElem?_eq_some_iff.1 hres0).1).trans hres0; have hbk := blk hresz; obtain ⟨rz, rlz, rfz⟩ := hbk))
    have hresz := (hbz.block _ (Array.getElem?_eq_some_iff.1 hres0).1).trans hres0
    have HBz := below_two HBd hbz (Nat.le_refl _)
    obtain ⟨hfin, hch⟩ := puts_all hresz [.int .i64 3, .int .i64 0, .int .i64 (IntKind.i64.wrap (1 + (pa : Int))), .slice none 0 0, .string (str t)] rfl
    simp only [puts, Nat.zero_add, Nat.reduceAdd] at hfin hch
    have HB2 := HBz.trans (hch.below (fun i e => by omega) HBz.size)
    go_wp2_with fail
    generalize (((((wz.setCell ⟨w.heap.size + 1, 0, none⟩ (.int .i64 3)).setCell ⟨w.heap.size + 1, 1, none⟩ (.int .i64 0)).setCell ⟨w.heap.size + 1, 2, none⟩ (.int .i64 (IntKind.i64.wrap (1 + (pa : Int))))).setCell ⟨w.heap.size + 1, 3, none⟩ (.slice none 0 0)).setCell ⟨w.heap.size + 1, 4, none⟩ (.string (str t))) = w9 at *
    obtain ⟨t9, _, _⟩ := blk hfin
    have hsz : (str t).size ≤ 1000 := by
      have e1 : (str t).size = (encs t).length := by rw [← str_bytes, bytes_len]
      have := encs_le h1
      omega
    refine bodyPost_ret (v := .agg #[.int .i64 3, .int .i64 0, .int .i64 (IntKind.i64.wrap (1 + (pa : Int))), .slice none 0 0, .string (str t)]) (by simp [results, Tryd.results55, go_sem, t9]) rfl ⟨⟨3, 0, 1 + pa, [], str t⟩, .slice none 0 0, ?_, World.ownsRow_nil _ _ _ _, frOk_whole (by omega) (textErr_ok (valid_str h1) (by rw [runes_str h1]; omega)) hsz, HB2⟩
    rw [show IntKind.i64.wrap (1 + (pa : Int)) = ((1 + pa : Nat) : Int) by rw [IntKind.wrap_i64]; omega]
    rfl
  · have cA := fun wx => picked_same r.b 50 wx hk.b (by omega) (by omega)
    have cC := fun wx => picked_same r.c 20 wx hk.c (by omega) (by omega)
    have hb := pick_lt r.b 50 (by omega)
    have hc := pick_lt r.c 20 (by omega)
    generalize pick r.b 50 = pb at *
    generalize pick r.c 20 = pc at *
    have cO := opCall pc rs a cap w0.drew (hr.below HBd (Nat.le_refl _)) hok hlen (by omega)
    go_wp2_with fail
    go_region_held3 (fun w' => w'.cell? ⟨w.heap.size, 1, none⟩ = some (.int .i64 r.a) ∧ w'.cell? ⟨w.heap.size, 2, none⟩ = some (.int .i64 r.b) ∧ w'.cell? ⟨w.heap.size, 3, none⟩ = some (.int .i64 r.c) ∧ w'.cell? ⟨w.heap.size, 4, none⟩ = some (.string r.text)) (with_reducible first | exact hS0 | assumption | exact kf_below hS0 hbz hw0 | exact kf_keep (by assumption) _ _ _ _ _) (first | (go_at_call 21; with_reducible refine Calls.mono (cA _) ?_; rintro e wz ⟨rfl, rfl⟩) | (go_at_call 21; with_reducible refine Calls.mono (cC _) ?_; rintro e wz ⟨rfl, rfl⟩) | (go_at_call 22; with_reducible refine Calls.mono cO ?_; rintro e wz ⟨v, A, rfl, oA, eA, nA, hbz, _⟩; have hof := own_form oA.own; obtain ⟨va, vc, rfl⟩ := hof; have hresz := (hbz.block _ (Array.getElem?_eq_some_iff.1 hres0).1).trans hres0; have hbk := blk hresz; obtain ⟨rz, rlz, rfz⟩ := hbk))
    have hresz := (hbz.block _ (Array.getElem?_eq_some_iff.1 hres0).1).trans hres0
    have HBz := below_two HBd hbz (Nat.le_refl _)
    obtain ⟨hfin, hch⟩ := puts_all hresz [.int .i64 1, .int .i64 (pb : Int), .int .i64 0, .slice va (group A).length vc, .string ⟨#[]⟩] rfl
    simp only [puts, Nat.zero_add, Nat.reduceAdd] at hfin hch
    have HB2 := HBz.trans (hch.below (fun i e => by omega) HBz.size)
    have hown := own_base (own_chg oA.own hch (fun k hk e => row_ne oA.own hresz (by decide) (by rw [← e]; exact hk.symm))) (show w.heap.size ≤ w0.drew.heap.size by omega)
    go_wp2_with fail
    generalize (((((wz.setCell ⟨w.heap.size + 1, 0, none⟩ (.int .i64 1)).setCell ⟨w.heap.size + 1, 1, none⟩ (.int .i64 (pb : Int))).setCell ⟨w.heap.size + 1, 2, none⟩ (.int .i64 0)).setCell ⟨w.heap.size + 1, 3, none⟩ (.slice va (group A).length vc)).setCell ⟨w.heap.size + 1, 4, none⟩ (.string ⟨#[]⟩)) = w9 at *
    obtain ⟨t9, _, _⟩ := blk hfin
    exact bodyPost_ret (v := .agg #[.int .i64 1, .int .i64 (pb : Int), .int .i64 0, .slice va (group A).length vc, .string ⟨#[]⟩]) (by simp [results, Tryd.results55, go_sem, t9]) rfl ⟨⟨1, pb, 0, group A, ByteArray.empty⟩, .slice va (group A).length vc, rfl, hown, frOk_edit (by omega) oA.ok (by omega), HB2⟩

end Go.Proofs.YtekgennapogcgaaDoor
