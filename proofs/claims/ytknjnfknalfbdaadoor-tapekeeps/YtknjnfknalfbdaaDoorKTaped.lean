/-
  Walk: wherrykeep.taped.
-/
import Derived.Test.YtknjnfknalfbdaaDoorKRecs
import Derived.Test.YtknjnfknalfbdaaDoorTapeApp
namespace Go.Proofs.YtknjnfknalfbdaaDoor
open Go.RowKit Go.Lib

theorem appendT_ok {l : List Nat} {s : Int} {n : Nat} {ps : List Part} (ht : tapeOk l.length s) (h : RecOk n ps) (hl : l.length ≤ 8000000) : appendT l s (n : Int) ps = (l ++ recT (n, ps), s, 0) := by
  unfold appendT
  have hm := h.many
  rw [if_pos ht, if_neg (by rw [h.err]; simp), show ((n : Int)).toNat = n by omega, if_neg (by omega)]
theorem recT_many {n : Nat} {ps : List Part} (h : RecOk n ps) : 3 ≤ (recT (n, ps)).length ∧ (recT (n, ps)).length ≤ 40003 := by
  have := recT_length (n, ps)
  have := h.many
  simp only at *
  omega
theorem recOk_small {n : Nat} {ps : List Part} (h : RecOk n ps) : ps.length ≤ 1048576 := by
  have := (opErr_parts (recordErr_zero h.err).2.2 h.text).1
  omega
theorem tapeT_bound : ∀ (rs : List RecV), (∀ r ∈ rs, RecOk r.1 r.2) → (tapeT rs).length ≤ rs.length * 40003
  | [], _ => by simp [tapeT]
  | r :: rs, h => by
    have h1 := recT_many (h r (List.mem_cons_self ..))
    have h2 := tapeT_bound rs (fun x hx => h x (List.mem_cons_of_mem _ hx))
    rw [tapeT_cons, List.length_append, List.length_cons]
    have e : (r.1, r.2) = r := rfl
    rw [e] at h1
    omega
theorem tapeT_next (rs : List RecV) {i : Nat} (h : i < rs.length) : tapeT (rs.take (i + 1)) = tapeT (rs.take i) ++ recT rs[i] := by
  rw [List.take_add_one, List.getElem?_eq_getElem h, tapeT_append]
  simp [tapeT_one]

set_option maxRecDepth 100000 in
set_option maxHeartbeats 2000000 in
theorem taped_any (rs : List RecV) (a : Option Addr) (c : Nat) (w : World) (h : RecsAt w a rs) (hok : ∀ r ∈ rs, RecOk r.1 r.2) (hlen : rs.length ≤ 50) (hT : Tabs w) :
    Calls Tryd.prog 51 #[.slice a rs.length c] w fun e w' => ∃ v, e = .returned (.tuple #[.agg #[v, .int .i64 0], .bool true]) ∧ w'.ownsRow w.heap.size 5 1 v (tapeT rs).length (octs (tapeT rs)) ∧ Below w.heap.size w w' := by
  obtain ⟨hres0, ht0, HB0, _⟩ := tape_two w (.cells #[.slice none 0 0, .int .i64 0] 80) (.cells #[.slice none 0 0, .int .i64 0] 80)
  have hbnd := tapeT_bound rs hok
  obtain ⟨R, hR⟩ : ∃ R, R = tapeT rs := ⟨_, rfl⟩
  rw [← hR] at hbnd ⊢
  have HR : Hid (R = tapeT rs) := hR
  clear hR
  go_enter Tryd.func51, Tryd.ntmps51
  go_wp2_with fail
  go_loopg [11] rs.length (fun g iv wr => ∃ (i : Nat) (v : Value), i + g = rs.length ∧ iv = .int .i64 (i : Int) ∧ wr.heap[w.heap.size]? = some (.cells #[.slice none 0 0, .int .i64 0] 80 (0, 0)) ∧ wr.heap[w.heap.size + 1]? = some (.cells #[v, .int .i64 0] 80 (0, 0)) ∧ wr.ownsRow w.heap.size 5 1 v (tapeT (rs.take i)).length (octs (tapeT (rs.take i))) ∧ Below w.heap.size w wr)
  case atStart => exact ⟨0, .slice none 0 0, by omega, rfl, hres0, ht0, tape_own_zero _ _, HB0⟩
  case round =>
    clear hres0 ht0 HB0
    obtain ⟨i, v, hi, rfl, hres, ht, hown, hb⟩ := hrel
    obtain ⟨va, vc, rfl, hA⟩ := bArg_own hown
    by_cases hlt : i < rs.length
    · have hiz : (i : Int) < (rs.length : Int) := by omega
      have hi0 : (0 : Int) ≤ (i : Int) := by omega
      have hrk := hok rs[i] (List.getElem_mem hlt)
      have HN : Hid (tapeT (rs.take (i + 1)) = tapeT (rs.take i) ++ recT rs[i]) := tapeT_next rs hlt
      have hml := recT_many hrk
      have hll : (tapeT (rs.take i)).length ≤ 2000150 := by
        have h1 := tapeT_bound (rs.take i) (fun r hr => hok r (List.mem_of_mem_take hr))
        rw [List.length_take] at h1
        omega
      rcases h with h0 | ⟨b, off, rfl, hbl, hc⟩
      · subst h0; simp at hlt
      · obtain ⟨oa, oc, c0, c1, hop⟩ := hc i hlt
        replace c0 := (hb.cell (p := ⟨b, off + i * 2, none⟩) hbl).trans c0
        replace c1 := (hb.cell (p := ⟨b, off + i * 2 + 1, none⟩) hbl).trans c1
        have hap := appendT_ok (l := tapeT (rs.take i)) (s := 0) (n := rs[i].1) (ps := rs[i].2) ⟨by omega, by omega, by omega⟩ hrk (by omega)
        have hps := recOk_small hrk
        have hst := hrk.text
        generalize tapeT (rs.take i) = L at *
        clear hc
        generalize rs[i] = rc at *
        obtain ⟨n, ps⟩ := rc
        simp only at c0 c1 hop hap hps hst hml
        have hba := (Below.refl wr.heap.size wr).alloc (Nat.le_refl _) (.cells #[.int .i64 (n : Int), .slice oa ps.length oc] 74)
        have hrb := heap_alloc_new wr (.cells #[.int .i64 (n : Int), .slice oa ps.length oc] 74)
        have hb1 := below_two hb hba (Nat.le_refl _)
        have hres1 := row_old hres (.cells #[.int .i64 (n : Int), .slice oa ps.length oc] 74)
        have ht1 := row_old ht (.cells #[.int .i64 (n : Int), .slice oa ps.length oc] 74)
        have cA := append_any L va vc 0 (n : Int) ps oa oc _ (hA.below hba) (by omega) (hop.below hb1) hps hst (hT.below hb1)
        rw [hap] at cA
        simp only at cA
        clear hap hown hA hba hres ht
        obtain ⟨q0, ql0, _⟩ := blk hres1
        obtain ⟨q1, ql1, _⟩ := blk ht1
        obtain ⟨q2, ql2, _⟩ := blk hrb
        go_wp2_with fail
        refine cA.mono ?_
        generalize (wr.alloc (.cells #[.int .i64 (n : Int), .slice oa ps.length oc] 74)) = w1 at *
        rintro r w2 ⟨v2, rfl, hown2, hb2⟩
        obtain ⟨va2, vc2, rfl⟩ := own_form hown2
        have HB2 := below_two hb1 hb2 (Nat.le_refl _)
        have hB2 := hb1.size
        replace hres1 := row_old ((hb2.block _ ql0).trans hres1) (.cells #[.slice va2 (L ++ recT (n, ps)).length vc2, .int .i64 0] 80)
        replace ht1 := row_old ((hb2.block _ ql1).trans ht1) (.cells #[.slice va2 (L ++ recT (n, ps)).length vc2, .int .i64 0] 80)
        have hnb := heap_alloc_new w2 (.cells #[.slice va2 (L ++ recT (n, ps)).length vc2, .int .i64 0] 80)
        have hba := (Below.refl w2.heap.size w2).alloc (Nat.le_refl _) (.cells #[.slice va2 (L ++ recT (n, ps)).length vc2, .int .i64 0] 80)
        have hb3 := below_two HB2 hba (Nat.le_refl _)
        have hown3 := own_below hown2 hba
        have hgt : ¬ ((L ++ recT (n, ps)).length : Int) ≤ (L.length : Int) := by rw [List.length_append]; omega
        generalize L ++ recT (n, ps) = L3 at *
        clear cA q0 q1 q2 ql0 ql1 ql2 hrb hb1 hb2 hba hown2
        obtain ⟨q0, ql0, _⟩ := blk hres1
        obtain ⟨q1, ql1, qf1⟩ := blk ht1
        obtain ⟨q2, ql2, _⟩ := blk hnb
        obtain ⟨hfin, hch⟩ := tape_store ht1 (x := .slice va2 L3.length vc2) (y := .int .i64 0)
        have hown4 := own_chg hown3 hch (fun k hk e => row_ne hown3 ht1 (by decide) (by rw [← e]; exact hk.symm))
        have hres4 := hch.row hres1 (by omega)
        have hb4 := hb3.trans (hch.below (fun i e => by omega) hb3.size)
        clear hown3 hres1
        go_wp2_with fail
        go_roundg (rs.length - i - 1)
        case measure => omega
        case rel => exact ⟨i + 1, .slice va2 L3.length vc2, by omega, by go_num, hres4, hfin, by rw [HN.out]; exact own_base hown4 hB2, hb4⟩
    · have hiz : ¬ (i : Int) < (rs.length : Int) := by omega
      have HQ : Hid (rs.take i = rs) := List.take_of_length_le (by omega)
      clear hA
      rw [HQ.out, ← HR.out] at hown
      rw [HQ.out, ← HR.out] at ht
      obtain ⟨q0, ql0, qf0⟩ := blk hres
      obtain ⟨q1, ql1, _⟩ := blk ht
      obtain ⟨hfin, hch⟩ := tape_store hres (x := .slice va R.length vc) (y := .int .i64 0)
      have hown2 := own_chg hown hch (fun k hk e => row_ne hown hres (by decide) (by rw [← e]; exact hk.symm))
      go_wp2_with fail
      generalize ((wr.setCell ⟨w.heap.size, 0, none⟩ (.slice va R.length vc)).setCell ⟨w.heap.size, 1, none⟩ (.int .i64 0)) = w9 at *
      obtain ⟨t0, _, _⟩ := blk hfin
      refine bodyPost_ret (v := .tuple #[.agg #[.slice va R.length vc, .int .i64 0], .bool true]) (by simp [results, Tryd.results51, go_sem, t0]) rfl ⟨.slice va R.length vc, rfl, hown2, hb.trans (hch.below (fun i e => by omega) hb.size)⟩

end Go.Proofs.YtknjnfknalfbdaaDoor
