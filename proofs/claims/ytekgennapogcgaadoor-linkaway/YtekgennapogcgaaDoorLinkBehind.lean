/-
  Walks: link.eachSent, for whatever function; the two functions of link.behind.
-/
import Derived.Test.YtekgennapogcgaaDoorLinkCopy
namespace Go.Proofs.YtekgennapogcgaaDoor
open Go.RowKit Go.Lib

set_option maxRecDepth 100000 in
set_option maxHeartbeats 1000000 in
theorem eachSent_any {B : Nat} (ep nx hd : Int) (S : List FrK) (sv : Value) (qa : Option Addr) (qn qc : Nat) (fid pa pb : Nat) (w : World) (P : Nat → World → Prop)
    (eg : ∀ args w, (callFunc fid args).run Tryd.prog w = .ok (.enter fid args) w)
    (hS : InK frS w B sv S) (hnx : (S.length : Int) ≤ nx ∧ nx ≤ 1048576)
    (hP0 : ∀ o, P 0 (w.alloc o)) (hal : ∀ i wr o, P i wr → P i (wr.alloc o)) (hrd : ∀ i wr, P i wr → InK frS wr B sv S)
    (hst : ∀ i (h : i < S.length) wr, P i wr → Calls Tryd.prog fid #[.int .i64 (nx - (S.length : Int) + (i : Int)), .agg #[.int .i64 S[i].1.kind, .int .i64 S[i].1.heard, .int .i64 S[i].1.epoch, S[i].2, .string S[i].1.text], .pointer (some ⟨pa, 0, none⟩), .pointer (some ⟨pb, 0, none⟩)] wr fun e w' => e = .returned (.tuple #[]) ∧ P (i + 1) w') :
    Calls Tryd.prog 93 #[.agg #[.int .i64 ep, .int .i64 nx, sv, .slice qa qn qc, .int .i64 hd], .func (.func fid) #[] #[.pointer (some ⟨pa, 0, none⟩), .pointer (some ⟨pb, 0, none⟩)]] w fun e w' => e = .returned (.tuple #[]) ∧ P S.length w' := by
  obtain ⟨sa, sc, rfl, hlc, _, _⟩ := hS.row
  have hp := heap_alloc_new w (.cells #[.int .i64 ep, .int .i64 nx, .slice sa S.length sc, .slice qa qn qc, .int .i64 hd] 74)
  have hP := hP0 (.cells #[.int .i64 ep, .int .i64 nx, .slice sa S.length sc, .slice qa qn qc, .int .i64 hd] 74)
  obtain ⟨q0, ql0, _⟩ := blk hp
  have hz := hnx.1
  have hz2 := hnx.2
  clear hP0
  go_enter Tryd.func93, Tryd.ntmps93
  go_wp2_with fail
  generalize (w.alloc (.cells #[.int .i64 ep, .int .i64 nx, .slice sa S.length sc, .slice qa qn qc, .int .i64 hd] 74)) = w0 at *
  go_loopg [16] S.length (fun g iv wr => ∃ i : Nat, i + g = S.length ∧ iv = .int .i64 (i : Int) ∧ P i wr)
  case atStart => exact ⟨0, by omega, rfl, hP⟩
  case round =>
    obtain ⟨i, hi, rfl, hPi⟩ := hrel
    by_cases hlt : i < S.length
    · have hiz : (i : Int) < (S.length : Int) := by omega
      have hi0 : (0 : Int) ≤ (i : Int) := by omega
      have h := hrd i wr hPi
      obtain ⟨b, off, c', ea, hbl, _, c0, c1, c2, c3, c4⟩ := fr_get h hlt
      simp only [Value.slice.injEq, true_and] at ea
      obtain ⟨rfl, rfl⟩ := ea
      have hov : OpVal wr S[i].2 S[i].1.op := (h.each S[i] (List.getElem_mem hlt)).op
      have cW := hst i hlt
      have hsum : nx - (S.length : Int) + (i : Int) ≤ 1048576 := by omega
      have hsum0 : 0 ≤ nx - (S.length : Int) + (i : Int) := by omega
      generalize S[i] = x at *
      obtain ⟨f, u⟩ := x
      simp only at c0 c1 c2 c3 c4 hov cW
      obtain ⟨ua, uc, rfl, _⟩ := hov.form
      have hP2 := hal i wr (.cells #[.int .i64 f.kind, .int .i64 f.heard, .int .i64 f.epoch, .slice ua f.op.length uc, .string f.text] 78) hPi
      have hfb := heap_alloc_new wr (.cells #[.int .i64 f.kind, .int .i64 f.heard, .int .i64 f.epoch, .slice ua f.op.length uc, .string f.text] 78)
      have cW2 := cW _ hP2
      obtain ⟨f0, fl0, _⟩ := blk hfb
      clear hst hal hrd h hov cW hP2 q0 ql0
      go_wp2_with (go_at_fn fid; refine cW2.mono ?_; rintro r w1 ⟨rfl, hP3⟩)
      go_wp2_with fail
      go_roundg (S.length - i - 1)
      case measure => omega
      case rel => exact ⟨i + 1, by omega, by go_num, hP3⟩
    · have hiz : ¬ (i : Int) < (S.length : Int) := by omega
      obtain rfl : i = S.length := by omega
      clear hst hal hrd q0 ql0
      go_wp2_with fail
      go_end0
      exact ⟨rfl, hPi⟩

set_option maxRecDepth 100000 in
set_option maxHeartbeats 1000000 in
theorem behind1_any (n ack came : Int) (f : FrI) (ua : Option Addr) (un uc : Nat) (pa pb : Nat) (w : World) (ha : w.heap[pa]? = some (.cells #[.int .i64 ack] 3 (0, 0))) (hb : w.heap[pb]? = some (.cells #[.int .i64 came] 3 (0, 0))) (_hne : pa ≠ pb) :
    Calls Tryd.prog 106 #[.int .i64 n, .agg #[.int .i64 f.kind, .int .i64 f.heard, .int .i64 f.epoch, .slice ua un uc, .string f.text], .pointer (some ⟨pa, 0, none⟩), .pointer (some ⟨pb, 0, none⟩)] w fun e w' => e = .returned (.tuple #[]) ∧ w'.heap[pb]? = some (.cells #[.int .i64 (if n = ack then ack else came)] 3 (0, 0)) ∧ Chg (fun k => k = pb) w w' := by
  have ha1 := row_old ha (.cells #[.int .i64 f.kind, .int .i64 f.heard, .int .i64 f.epoch, .slice ua un uc, .string f.text] 78)
  have hb1 := row_old hb (.cells #[.int .i64 f.kind, .int .i64 f.heard, .int .i64 f.epoch, .slice ua un uc, .string f.text] 78)
  have hc0 : Chg (fun k => k = pb) w (w.alloc (.cells #[.int .i64 f.kind, .int .i64 f.heard, .int .i64 f.epoch, .slice ua un uc, .string f.text] 78)) := (Chg.refl _ w).alloc _
  have hb2 : ((w.alloc (.cells #[.int .i64 f.kind, .int .i64 f.heard, .int .i64 f.epoch, .slice ua un uc, .string f.text] 78)).setCell ⟨pb, 0, none⟩ (.int .i64 ack)).heap[pb]? = some (.cells #[.int .i64 ack] 3 (0, 0)) := (blk_put hb1 0 (.int .i64 ack)).1
  have hc2 := hc0.trans (blk_put hb1 0 (.int .i64 ack)).2 (fun _ _ h => h)
  obtain ⟨a0, al0, _⟩ := blk ha1
  obtain ⟨b0, bl0, bf0⟩ := blk hb1
  by_cases h : n = ack
  · subst h
    rw [if_pos rfl]
    go_enter Tryd.func106, Tryd.ntmps106
    go_wp2_with fail
    go_end0
    exact ⟨rfl, hb2, hc2⟩
  · rw [if_neg h]
    have g : (n == ack) = false := by simpa using h
    clear hb2 hc2
    go_enter Tryd.func106, Tryd.ntmps106
    go_wp2_with fail
    go_end0
    exact ⟨rfl, hb1, hc0⟩

/-- blocks of another type stay -/
def KeptT (pb : Nat) (w w' : World) : Prop := ∀ k cs T, k ≠ pb → T ≠ 78 → T ≠ 33 → w.heap[k]? = some (.cells cs T (0, 0)) → w'.heap[k]? = some (.cells cs T (0, 0))
theorem KeptT.trans {pb : Nat} {a b c : World} (h : KeptT pb a b) (k : KeptT pb b c) : KeptT pb a c := fun i cs T h1 h2 h3 e => k i cs T h1 h2 h3 (h i cs T h1 h2 h3 e)
theorem KeptT.of_below {pb : Nat} {w w' : World} (hb : Below w.heap.size w w') : KeptT pb w w' := fun k _ _ _ _ _ e => (hb.block k (Array.getElem?_eq_some_iff.1 e).1).trans e

set_option maxRecDepth 100000 in
set_option maxHeartbeats 1000000 in
theorem behind2_stay (n came : Int) (hlt : ¬ came < n) (f : FrI) (ua : Option Addr) (un uc : Nat) (pa pb : Nat) (w : World) (ha : w.heap[pa]? = some (.cells #[.int .i64 came] 3 (0, 0))) :
    Calls Tryd.prog 107 #[.int .i64 n, .agg #[.int .i64 f.kind, .int .i64 f.heard, .int .i64 f.epoch, .slice ua un uc, .string f.text], .pointer (some ⟨pa, 0, none⟩), .pointer (some ⟨pb, 0, none⟩)] w fun e w' => e = .returned (.tuple #[]) ∧ Below w.heap.size w w' := by
  have ha1 := row_old ha (.cells #[.int .i64 f.kind, .int .i64 f.heard, .int .i64 f.epoch, .slice ua un uc, .string f.text] 78)
  have hb0 := (Below.refl w.heap.size w).alloc (Nat.le_refl _) (.cells #[.int .i64 f.kind, .int .i64 f.heard, .int .i64 f.epoch, .slice ua un uc, .string f.text] 78)
  obtain ⟨a0, al0, _⟩ := blk ha1
  go_enter Tryd.func107, Tryd.ntmps107
  go_wp2_with fail
  go_end0
  exact ⟨rfl, hb0⟩

set_option maxRecDepth 100000 in
set_option maxHeartbeats 2000000 in
theorem behind2_go (n came : Int) (hlt : came < n) (f : FrI) (v : Value) (ep nx hd : Int) (K : List FrK) (nv : Value) (M pa pb : Nat) (w : World) (ha : w.heap[pa]? = some (.cells #[.int .i64 came] 3 (0, 0))) (hn : w.heap[pb]? = some (.cells #[.int .i64 ep, .int .i64 nx, nv, .slice none 0 0, .int .i64 hd] 74 (0, 0))) (hK : RowK frS w M nv K) (hM : M ≤ pb) (hKl : K.length ≤ 1048576) (ho : OpVal w v f.op) (hs : f.op.length ≤ 1048577) :
    Calls Tryd.prog 107 #[.int .i64 n, .agg #[.int .i64 f.kind, .int .i64 f.heard, .int .i64 f.epoch, v, .string f.text], .pointer (some ⟨pa, 0, none⟩), .pointer (some ⟨pb, 0, none⟩)] w fun e w' => e = .returned (.tuple #[]) ∧ ∃ nv' u, w'.heap[pb]? = some (.cells #[.int .i64 ep, .int .i64 nx, nv', .slice none 0 0, .int .i64 hd] 74 (0, 0)) ∧ RowK frS w' M nv' (K ++ [(f, u)]) ∧ Below M w w' ∧ KeptT pb w w' := by
  obtain ⟨i0, hi0, hzz0, hzz1, hzz2⟩ := info_parts info_fr
  obtain ⟨ua, uc, rfl, _⟩ := ho.form
  have ha1 := row_old ha (.cells #[.int .i64 f.kind, .int .i64 f.heard, .int .i64 f.epoch, .slice ua f.op.length uc, .string f.text] 78)
  have hn1 := row_old hn (.cells #[.int .i64 f.kind, .int .i64 f.heard, .int .i64 f.epoch, .slice ua f.op.length uc, .string f.text] 78)
  have hb0 := (Below.refl w.heap.size w).alloc (Nat.le_refl _) (.cells #[.int .i64 f.kind, .int .i64 f.heard, .int .i64 f.epoch, .slice ua f.op.length uc, .string f.text] 78)
  have hf1 := heap_alloc_new w (.cells #[.int .i64 f.kind, .int .i64 f.heard, .int .i64 f.epoch, .slice ua f.op.length uc, .string f.text] 78)
  have hK1 := hK.below hb0
  have cC := fun (wx : World) (hx : Below (w.alloc (.cells #[.int .i64 f.kind, .int .i64 f.heard, .int .i64 f.epoch, .slice ua f.op.length uc, .string f.text] 78)).heap.size (w.alloc (.cells #[.int .i64 f.kind, .int .i64 f.heard, .int .i64 f.epoch, .slice ua f.op.length uc, .string f.text] 78)) wx) => copyOf_any f (.slice ua f.op.length uc) wx ((ho.below hb0).below hx) hs
  have hrw : (w.alloc (.cells #[.int .i64 f.kind, .int .i64 f.heard, .int .i64 f.epoch, .slice ua f.op.length uc, .string f.text] 78)).ownsRow M 78 5 nv K.length (frS.all K) := hK1.row
  obtain ⟨oa, oc, rfl⟩ := own_form hrw
  have hMz : M ≤ w.heap.size := Nat.le_trans hM (Nat.le_of_lt (Array.getElem?_eq_some_iff.1 hn).1)
  have hz1 : (w.alloc (.cells #[.int .i64 f.kind, .int .i64 f.heard, .int .i64 f.epoch, .slice ua f.op.length uc, .string f.text] 78)).heap.size = w.heap.size + 1 := by simp
  obtain ⟨a0, al0, _⟩ := blk ha1
  obtain ⟨n0, nl0, nf0⟩ := blk hn1
  obtain ⟨f0, fl0, _⟩ := blk hf1
  go_enter Tryd.func107, Tryd.ntmps107
  go_wp2_with fail
  generalize (w.alloc (.cells #[.int .i64 f.kind, .int .i64 f.heard, .int .i64 f.epoch, .slice ua f.op.length uc, .string f.text] 78)) = wr at *
  have hdd : Below wr.heap.size wr wr.drew := ⟨rfl, rfl, rfl, Nat.le_refl _, fun _ _ => rfl⟩
  have hnd : wr.drew.heap[pb]? = some (.cells #[.int .i64 ep, .int .i64 nx, .slice oa K.length oc, .slice none 0 0, .int .i64 hd] 74 (0, 0)) := hn1
  generalize hpl : f.op.length = pn at *
  have HPN : Hid (f.op.length = pn) := hpl
  clear hpl
  go_region_law (first | (go_simp; go_at_call 82; with_reducible refine Calls.mono (cC _ hdd) ?_; rintro e wz ⟨u, rfl, hou, hbz⟩; have hlz := (hbz.block _ (Array.getElem?_eq_some_iff.1 hnd).1).trans hnd; have hbkz := blk hlz; obtain ⟨lz, llz, lfz⟩ := hbkz; have hof := own_form hou; obtain ⟨xa, xc, rfl⟩ := hof; have hrz := own_below (own_drew hrw) hbz) | (refine step_append_lies _ (by rfl) _ _ _ (by rfl) M 78 i0 _ 5 64 Tryd.underlying48 hi0 hzz0 hzz1 hzz2 rfl (by omega) (.slice oa K.length oc) K.length (frS.all K) (by rfl) (hrz.alloc _) ⟨wz.heap.size, 0, none⟩ 1 1 [.int .i64 f.kind, .int .i64 f.heard, .int .i64 f.epoch, .slice xa pn xc, .string f.text] (by rfl) (by rfl) (World.news_of_block (cs := #[.int .i64 f.kind, .int .i64 f.heard, .int .i64 f.epoch, .slice xa pn xc, .string f.text]) (t := 78) (fr := (0, 0)) (heap_alloc_new wz _)) (by simp [Value.oneCell']) (by omega) (by unfold maxLen; omega) (by omega) (by have := hbz.size; have : wr.drew.heap.size = wr.heap.size := rfl; simp; omega) (wz.heap.size + 1) (by simp) ?_; intro g1 cap1 w4 hown4 hgr4 hat4 hlt4; have blk4 := row_kept (hrz.alloc _) (row_old hlz _) (by decide) hgr4; have hbk4 := blk blk4; obtain ⟨l4, ll4, lf4⟩ := hbk4))
  all_goals
    have hzz : wr.heap.size ≤ wz.heap.size := hbz.size
    have hn5 : (w4.setCell ⟨pb, 2, none⟩ (.slice (some ⟨g1, 0, none⟩) (K.length + 1) cap1)).heap[pb]? = some (.cells #[.int .i64 ep, .int .i64 nx, .slice (some ⟨g1, 0, none⟩) (K.length + 1) cap1, .slice none 0 0, .int .i64 hd] 74 (0, 0)) := (blk_put blk4 2 (.slice (some ⟨g1, 0, none⟩) (K.length + 1) cap1)).1
    have hs5 := (blk_put blk4 2 (.slice (some ⟨g1, 0, none⟩) (K.length + 1) cap1)).2
    have kk : KeptT pb wr (w4.setCell ⟨pb, 2, none⟩ (.slice (some ⟨g1, 0, none⟩) (K.length + 1) cap1)) := fun k cs T hk hT1 _ h => hs5.row (row_kept (hrz.alloc _) (row_old ((hbz.block k (Array.getElem?_eq_some_iff.1 h).1).trans h) _) hT1 hgr4) hk
    have hKz := hK1.below (below_two hdd hbz (Nat.le_refl _))
    have hou' := own_base hou (show M ≤ wr.drew.heap.size by show M ≤ wr.heap.size; omega)
    rw [← HPN.out] at hou' hown4 hgr4
    have hK4 := (RowK.app (x := ((f, Value.slice xa f.op.length xc) : FrK)) hKz hou' hown4 hgr4).stored blk4 (by decide) (by decide) hs5
    have HB5 : Below M w (w4.setCell ⟨pb, 2, none⟩ (.slice (some ⟨g1, 0, none⟩) (K.length + 1) cap1)) := ((((below_two (hb0.mono hMz) (below_two hdd hbz (Nat.le_refl _)) hMz).alloc (by omega) _).grown hgr4 (by simp; omega) (fun k e => (hrw.lt k e).1)).trans (hs5.below (fun k e => by omega) (by have := hgr4.size; simp at this; omega)))
    clear hrz hown4 hgr4 hat4 blk4 l4 ll4 lf4 hs5 hKz hou hou' hbz lz llz lfz hlz
    generalize (w4.setCell ⟨pb, 2, none⟩ (.slice (some ⟨g1, 0, none⟩) (K.length + 1) cap1)) = w5 at *
    go_wp2_with fail
    go_end0
    exact ⟨rfl, _, _, hn5, hK4, HB5, (KeptT.of_below hb0).trans kk⟩

end Go.Proofs.YtekgennapogcgaaDoor
