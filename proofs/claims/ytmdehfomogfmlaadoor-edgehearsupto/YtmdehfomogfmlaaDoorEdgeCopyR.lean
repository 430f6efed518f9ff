/-
  Walk: wherryref.EdgeCopy.
-/
import Derived.Test.YtmdehfomogfmlaaDoorRowOps
import Derived.Test.YtmdehfomogfmlaaDoorOpCopyWalk
import Derived.Deep.LoopGhost
import Derived.Deep.RegionLaw
namespace Go.Proofs.YtmdehfomogfmlaaDoor
open Go.RowKit Go.Lib

theorem ec_keep {w w' w'' : World} {b off j c : Nat} {E : List (List Part)} {vj : Value} (h : (fun w' => w'.cell? ⟨w.heap.size, 2, none⟩ = some (.slice (some ⟨b, off, none⟩) E.length c) ∧ w'.cell? ⟨b, off + j, none⟩ = some vj) w') (h1 : w''.heap[w.heap.size]? = w'.heap[w.heap.size]?) (h2 : w''.heap[b]? = w'.heap[b]?) : (fun w' => w'.cell? ⟨w.heap.size, 2, none⟩ = some (.slice (some ⟨b, off, none⟩) E.length c) ∧ w'.cell? ⟨b, off + j, none⟩ = some vj) w'' :=
  ⟨(World.cell?_of_block (a := ⟨w.heap.size, 2, none⟩) h1).trans h.1, (World.cell?_of_block (a := ⟨b, off + j, none⟩) h2).trans h.2⟩
theorem ec_below {w w' w'' : World} {b off j c : Nat} {E : List (List Part)} {vj : Value} (h : (fun w' => w'.cell? ⟨w.heap.size, 2, none⟩ = some (.slice (some ⟨b, off, none⟩) E.length c) ∧ w'.cell? ⟨b, off + j, none⟩ = some vj) w') (hb : Below w'.heap.size w' w'') (h1 : w.heap.size < w'.heap.size) (h2 : b < w'.heap.size) : (fun w' => w'.cell? ⟨w.heap.size, 2, none⟩ = some (.slice (some ⟨b, off, none⟩) E.length c) ∧ w'.cell? ⟨b, off + j, none⟩ = some vj) w'' := ec_keep h (hb.block _ h1) (hb.block _ h2)
theorem ec_set {w w' : World} {b off j c : Nat} {E : List (List Part)} {vj : Value} (h : (fun w' => w'.cell? ⟨w.heap.size, 2, none⟩ = some (.slice (some ⟨b, off, none⟩) E.length c) ∧ w'.cell? ⟨b, off + j, none⟩ = some vj) w') (h2 : b < w.heap.size) (v : Value) : (fun w' => w'.cell? ⟨w.heap.size, 2, none⟩ = some (.slice (some ⟨b, off, none⟩) E.length c) ∧ w'.cell? ⟨b, off + j, none⟩ = some vj) (w'.setCell ⟨w.heap.size + 1 + 1, 2, none⟩ v) := ec_keep h (Below.heap_setCell w' _ v _ (show w.heap.size ≠ w.heap.size + 1 + 1 by omega)) (Below.heap_setCell w' _ v _ (show b ≠ w.heap.size + 1 + 1 by omega))

set_option maxRecDepth 100000 in
set_option maxHeartbeats 2000000 in
theorem edgeCopy_any (sent heard : Int) (E : List (List Part)) (vs : List Value) (a : Option Addr) (c : Nat) (w : World) (hp : PendAt w a c E vs) (hE : ∀ q ∈ E, q.length ≤ 1048576) (hlen : E.length ≤ 1048576) :
    Calls Tryd.prog 28 #[.agg #[.int .i64 sent, .int .i64 heard, .slice a E.length c]] w fun e w' => ∃ a' c', e = .returned (.agg #[.int .i64 sent, .int .i64 heard, .slice a' E.length c']) ∧ (∃ us, RowOps w' w.heap.size (.slice a' E.length c') E us) ∧ Below w.heap.size w w' := by
  obtain ⟨i0, hi, hz0, hz1, hz2⟩ := info_parts info_opR
  have hb1 := (Below.refl w.heap.size w).alloc (Nat.le_refl _) (.cells #[.int .i64 sent, .int .i64 heard, .slice a E.length c] 26)
  have hb2 := hb1.alloc hb1.size (.cells #[.int .i64 0, .int .i64 0, .slice none 0 0] 26)
  have hpar := row_old (row_old (heap_alloc_new w (.cells #[.int .i64 sent, .int .i64 heard, .slice a E.length c] 26)) (.cells #[.int .i64 0, .int .i64 0, .slice none 0 0] 26)) (.cells #[.int .i64 sent, .int .i64 heard, .slice none 0 0] 26)
  have hres := row_old (heap_alloc_new (w.alloc (.cells #[.int .i64 sent, .int .i64 heard, .slice a E.length c] 26)) (.cells #[.int .i64 0, .int .i64 0, .slice none 0 0] 26)) (.cells #[.int .i64 sent, .int .i64 heard, .slice none 0 0] 26)
  have hloc := heap_alloc_new ((w.alloc (.cells #[.int .i64 sent, .int .i64 heard, .slice a E.length c] 26)).alloc (.cells #[.int .i64 0, .int .i64 0, .slice none 0 0] 26)) (.cells #[.int .i64 sent, .int .i64 heard, .slice none 0 0] 26)
  rw [show (w.alloc (.cells #[.int .i64 sent, .int .i64 heard, .slice a E.length c] 26)).heap.size = w.heap.size + 1 by simp] at hres
  rw [show ((w.alloc (.cells #[.int .i64 sent, .int .i64 heard, .slice a E.length c] 26)).alloc (.cells #[.int .i64 0, .int .i64 0, .slice none 0 0] 26)).heap.size = w.heap.size + 1 + 1 by simp] at hloc
  have HB := hb2.alloc hb2.size (.cells #[.int .i64 sent, .int .i64 heard, .slice none 0 0] 26)
  have hz : w.heap.size + 3 ≤ (((w.alloc (.cells #[.int .i64 sent, .int .i64 heard, .slice a E.length c] 26)).alloc (.cells #[.int .i64 0, .int .i64 0, .slice none 0 0] 26)).alloc (.cells #[.int .i64 sent, .int .i64 heard, .slice none 0 0] 26)).heap.size := by simp
  clear hb1 hb2
  go_enter Tryd.func28, Tryd.ntmps28
  go_wp2_with fail
  generalize (((w.alloc (.cells #[.int .i64 sent, .int .i64 heard, .slice a E.length c] 26)).alloc (.cells #[.int .i64 0, .int .i64 0, .slice none 0 0] 26)).alloc (.cells #[.int .i64 sent, .int .i64 heard, .slice none 0 0] 26)) = w0 at *
  go_loopg [4] E.length (fun g iv wr => ∃ (j : Nat) (us : List Value) (oa : Option Addr) (oc : Nat), j + g = E.length ∧ iv = .int .i64 (j : Int) ∧ wr.heap[w.heap.size]? = some (.cells #[.int .i64 sent, .int .i64 heard, .slice a E.length c] 26 (0, 0)) ∧ wr.heap[w.heap.size + 1]? = some (.cells #[.int .i64 0, .int .i64 0, .slice none 0 0] 26 (0, 0)) ∧ wr.heap[w.heap.size + 1 + 1]? = some (.cells #[.int .i64 sent, .int .i64 heard, .slice oa j oc] 26 (0, 0)) ∧ RowOps wr w.heap.size (.slice oa j oc) (E.take j) us ∧ Below w.heap.size w wr)
  case atStart => exact ⟨0, [], none, 0, by omega, rfl, hpar, hres, hloc, rowOps_nil _ _, HB⟩
  case round =>
    clear hpar hres hloc HB hz
    obtain ⟨j, us, oa, oc, hj, rfl, hpar, hres, hloc, hrow, HB⟩ := hrel
    obtain ⟨p1, pl1, pf1⟩ := blk hpar
    obtain ⟨l1, ll1, lf1⟩ := blk hloc
    by_cases hlt : j < E.length
    · have hjz : (j : Int) < (E.length : Int) := by omega
      have hj0 : (0 : Int) ≤ (j : Int) := by omega
      have hjv : j < vs.length := by rw [hp.len]; exact hlt
      have hov := hp.each j hlt hjv
      have hul : us.length = j := by rw [hrow.len, List.length_take]; omega
      have htl : (E.take j).length = j := by rw [List.length_take]; omega
      rcases hp.vals with h0 | ⟨b, off, rfl, hbl, hcell⟩
      · rw [h0] at hjv; simp at hjv
      · have hc := hcell j hjv
        obtain ⟨qa, qc, eq, hqop, _, _⟩ := hov.form
        rw [eq] at hc
        have hql := hE _ (List.getElem_mem hlt)
        have HT : Hid (E.take (j + 1) = E.take j ++ [E[j]]) := by show _ = _; rw [List.take_add_one, List.getElem?_eq_getElem hlt]; rfl
        have hq1 : wr.cell? ⟨b, off + j, none⟩ = some (.slice qa E[j].length qc) := (HB.cell (p := ⟨b, off + j, none⟩) hbl).trans hc
        clear hcell eq hov hc
        have hrw := hrow.row
        rw [htl] at hrw
        generalize E[j] = ps at *
        have cC := fun (wx : World) (hx : Below wr.heap.size wr wx) => opCopy_any ps qa qc wx ((hqop.below HB).below hx) hql
        have hzr := HB.size
        have hwd : w.heap.size < wr.drew.heap.size := pl1
        have hbd : b < wr.drew.heap.size := by show b < wr.heap.size; omega
        have hdd : Below wr.heap.size wr wr.drew := ⟨rfl, rfl, rfl, Nat.le_refl _, fun _ _ => rfl⟩
        have hlocd : wr.drew.heap[w.heap.size + 1 + 1]? = some (.cells #[.int .i64 sent, .int .i64 heard, .slice oa j oc] 26 (0, 0)) := hloc
        generalize hpl : ps.length = pn at *
        have HPN : Hid (ps.length = pn) := hpl
        clear hpl
        go_wp2_with fail
        go_region_law (first | (go_simp; go_at_call 29; with_reducible refine Calls.mono (cC _ hdd) ?_; rintro e wz ⟨u, rfl, hou, hbz⟩; have hlz := (hbz.block _ (Array.getElem?_eq_some_iff.1 hlocd).1).trans hlocd; have hbkz := blk hlz; obtain ⟨lz, llz, lfz⟩ := hbkz; have hof := own_form hou; obtain ⟨ua, uc, rfl⟩ := hof; have hrz := own_below (own_drew hrw) hbz) | (refine step_append_lies _ (by rfl) _ _ _ (by rfl) w.heap.size 31 i0 _ 1 24 Tryd.underlying24 hi hz0 hz1 hz2 rfl (by omega) (.slice oa j oc) j us (by rfl) (hrz.alloc _) ⟨wz.heap.size, 0, none⟩ 1 1 [.slice ua pn uc] (by rfl) (by rfl) (World.news_of_block (cs := #[.slice ua pn uc]) (t := 31) (fr := (0, 0)) (heap_alloc_new wz _)) (by simp [Value.oneCell']) (by omega) (by unfold maxLen; omega) (by omega) (by have := hbz.size; have : wr.drew.heap.size = wr.heap.size := rfl; simp; omega) (wz.heap.size + 1) (by simp) ?_; intro g1 cap1 w4 hown4 hgr4 hat4 hlt4; have blk4 := row_kept (hrz.alloc _) (row_old hlz _) (by decide) hgr4; have hbk4 := blk blk4; obtain ⟨l4, ll4, lf4⟩ := hbk4))
        all_goals
          have hzz : wr.heap.size ≤ wz.heap.size := hbz.size
          have hloc5 : (w4.setCell ⟨w.heap.size + 1 + 1, 2, none⟩ (.slice (some ⟨g1, 0, none⟩) (j + 1) cap1)).heap[w.heap.size + 1 + 1]? = some (.cells #[.int .i64 sent, .int .i64 heard, .slice (some ⟨g1, 0, none⟩) (j + 1) cap1] 26 (0, 0)) := (blk_put blk4 2 (.slice (some ⟨g1, 0, none⟩) (j + 1) cap1)).1
          have hs5 := (blk_put blk4 2 (.slice (some ⟨g1, 0, none⟩) (j + 1) cap1)).2
          have kk : ∀ {k : Nat} {cs : Array Value}, k ≠ w.heap.size + 1 + 1 → wr.heap[k]? = some (.cells cs 26 (0, 0)) → (w4.setCell ⟨w.heap.size + 1 + 1, 2, none⟩ (.slice (some ⟨g1, 0, none⟩) (j + 1) cap1)).heap[k]? = some (.cells cs 26 (0, 0)) := fun {k cs} hk h => hs5.row (row_kept (hrz.alloc _) (row_old ((hbz.block k (Array.getElem?_eq_some_iff.1 h).1).trans h) _) (by decide) hgr4) hk
          have hpar5 := kk (by omega) hpar
          have hres5 := kk (by omega) hres
          have hrowz := hrow.below (below_two hdd hbz (Nat.le_refl _))
          have hou' := own_base hou (show w.heap.size ≤ wr.drew.heap.size from hzr)
          rw [← HPN.out] at hou'
          have hown4' : w4.ownsRow w.heap.size 31 1 (.slice (some ⟨g1, 0, none⟩) (j + 1) cap1) ((E.take j).length + 1) (us ++ [.slice ua ps.length uc]) := by rw [htl, HPN.out]; exact hown4
          rw [← HPN.out] at hgr4
          have hrow4 := (hrowz.app hou' hown4' hgr4).stored blk4 (by decide) (by decide) hs5
          have HB5 : Below w.heap.size w (w4.setCell ⟨w.heap.size + 1 + 1, 2, none⟩ (.slice (some ⟨g1, 0, none⟩) (j + 1) cap1)) := ((((below_two HB (below_two hdd hbz (Nat.le_refl _)) (Nat.le_refl _)).alloc (by omega) _).grown hgr4 (by simp; omega) (fun k e => (hrw.lt k e).1)).trans (hs5.below (fun k e => by omega) (by have := hgr4.size; simp at this; omega)))
          clear hrz hown4 hgr4 hat4 blk4 l4 ll4 lf4 hs5 kk hrowz hou hou' hown4' hbz lz llz lfz hlz
          generalize (w4.setCell ⟨w.heap.size + 1 + 1, 2, none⟩ (.slice (some ⟨g1, 0, none⟩) (j + 1) cap1)) = w5 at *
          go_wp2_with fail
          go_roundg (E.length - j - 1)
          case measure => omega
          case rel => exact ⟨j + 1, us ++ [.slice ua ps.length uc], some ⟨g1, 0, none⟩, cap1, by omega, by go_num, hpar5, hres5, hloc5, by rw [HT.out]; exact hrow4, HB5⟩
    · obtain rfl : j = E.length := by omega
      have hjz : ¬ (E.length : Int) < (E.length : Int) := by omega
      rw [List.take_of_length_le (Nat.le_refl _)] at hrow
      obtain ⟨r1, rl1, rf1⟩ := blk hres
      obtain ⟨hfin, hch⟩ := puts_all hres [.int .i64 sent, .int .i64 heard, .slice oa E.length oc] rfl
      simp only [puts, Nat.zero_add, Nat.reduceAdd] at hfin hch
      have hrow5 := hrow.stored hres (by decide) (by decide) hch
      have HB5 := HB.trans (hch.below (fun k e => by omega) HB.size)
      generalize hel : E.length = el at *
      have HEL : Hid (E.length = el) := hel
      clear hel
      go_wp2_with fail
      generalize ((((wr.setCell ⟨w.heap.size + 1, 0, none⟩ (.int .i64 sent)).setCell ⟨w.heap.size + 1, 1, none⟩ (.int .i64 heard)).setCell ⟨w.heap.size + 1, 2, none⟩ (.slice oa el oc))) = w9 at *
      obtain ⟨t9, _, _⟩ := blk hfin
      exact bodyPost_ret (v := .agg #[.int .i64 sent, .int .i64 heard, .slice oa el oc]) (by simp [results, Tryd.results28, go_sem, t9]) rfl ⟨oa, oc, by rw [HEL.out], ⟨us, by rw [HEL.out]; exact hrow5⟩, HB5⟩

end Go.Proofs.YtmdehfomogfmlaaDoor
