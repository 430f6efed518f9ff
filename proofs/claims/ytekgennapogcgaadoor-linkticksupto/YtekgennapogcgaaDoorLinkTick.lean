/-
  Walks: link.Tick and its function.
-/
import Derived.Test.YtekgennapogcgaaDoorLinkHear
namespace Go.Proofs.YtekgennapogcgaaDoor
open Go.RowKit Go.Lib

/-- blocks of other types than packets stay, but one -/
def KeptP (pa : Nat) (w w' : World) : Prop := ∀ (k : Nat) (cs : Array Value) (T : TypeId), k ≠ pa → T ≠ 88 → w.heap[k]? = some (.cells cs T (0, 0)) → w'.heap[k]? = some (.cells cs T (0, 0))
theorem KeptP.trans {pa : Nat} {a b c : World} (h : KeptP pa a b) (k : KeptP pa b c) : KeptP pa a c := fun i cs T h1 h2 e => k i cs T h1 h2 (h i cs T h1 h2 e)
theorem KeptP.of_below {pa : Nat} {w w' : World} (hb : Below w.heap.size w w') : KeptP pa w w' := fun k _ _ _ _ e => (hb.block k (Array.getElem?_eq_some_iff.1 e).1).trans e

set_option maxRecDepth 100000 in
set_option maxHeartbeats 2000000 in
theorem tick1_any (n : Int) (f : FrI) (v : Value) (ep nx hd : Int) (sa qa : Option Addr) (sn sc qn qc : Nat) (P : List PkK) (pv : Value) (M pa pb : Nat) (w : World) (ha : w.heap[pa]? = some (.cells #[pv] 80 (0, 0))) (hn : w.heap[pb]? = some (.cells #[.int .i64 ep, .int .i64 nx, .slice sa sn sc, .slice qa qn qc, .int .i64 hd] 74 (0, 0))) (hP : RowK pkS w M pv P) (hM : M ≤ pa) (hPl : P.length ≤ 1048576) (ho : OpVal w v f.op) (hs : f.op.length ≤ 1048577) :
    Calls Tryd.prog 94 #[.int .i64 n, .agg #[.int .i64 f.kind, .int .i64 f.heard, .int .i64 f.epoch, v, .string f.text], .pointer (some ⟨pa, 0, none⟩), .pointer (some ⟨pb, 0, none⟩)] w fun e w' => e = .returned (.tuple #[]) ∧ ∃ pv' u, w'.heap[pa]? = some (.cells #[pv'] 80 (0, 0)) ∧ RowK pkS w' M pv' (P ++ [(⟨ep, n, false, hd, f⟩, u)]) ∧ Below M w w' ∧ KeptP pa w w' := by
  obtain ⟨p0, hp0, hpz0, hpz1, hpz2⟩ := info_parts info_pk
  obtain ⟨ua, uc, rfl, _⟩ := ho.form
  have ha1 := row_old ha (.cells #[.int .i64 f.kind, .int .i64 f.heard, .int .i64 f.epoch, .slice ua f.op.length uc, .string f.text] 78)
  have hn1 := row_old hn (.cells #[.int .i64 f.kind, .int .i64 f.heard, .int .i64 f.epoch, .slice ua f.op.length uc, .string f.text] 78)
  have hb0 := (Below.refl w.heap.size w).alloc (Nat.le_refl _) (.cells #[.int .i64 f.kind, .int .i64 f.heard, .int .i64 f.epoch, .slice ua f.op.length uc, .string f.text] 78)
  have hf1 := heap_alloc_new w (.cells #[.int .i64 f.kind, .int .i64 f.heard, .int .i64 f.epoch, .slice ua f.op.length uc, .string f.text] 78)
  have hP1 := hP.below hb0
  have cC := fun (wx : World) (hx : Below (w.alloc (.cells #[.int .i64 f.kind, .int .i64 f.heard, .int .i64 f.epoch, .slice ua f.op.length uc, .string f.text] 78)).heap.size (w.alloc (.cells #[.int .i64 f.kind, .int .i64 f.heard, .int .i64 f.epoch, .slice ua f.op.length uc, .string f.text] 78)) wx) => packetOf_any ep nx hd n sa qa sn sc qn qc f (.slice ua f.op.length uc) wx ((ho.below hb0).below hx) hs
  have hrw : (w.alloc (.cells #[.int .i64 f.kind, .int .i64 f.heard, .int .i64 f.epoch, .slice ua f.op.length uc, .string f.text] 78)).ownsRow M 88 9 pv P.length (pkS.all P) := hP1.row
  obtain ⟨oa, oc, rfl⟩ := own_form hrw
  have hMz : M ≤ w.heap.size := Nat.le_trans hM (Nat.le_of_lt (Array.getElem?_eq_some_iff.1 ha).1)
  have hz1 : w.heap.size + 1 ≤ (w.alloc (.cells #[.int .i64 f.kind, .int .i64 f.heard, .int .i64 f.epoch, .slice ua f.op.length uc, .string f.text] 78)).heap.size := by simp
  obtain ⟨a0, al0, af0⟩ := blk ha1
  obtain ⟨n0, nl0, _⟩ := blk hn1
  obtain ⟨f0, fl0, _⟩ := blk hf1
  go_enter Tryd.func94, Tryd.ntmps94
  go_wp2_with fail
  generalize (w.alloc (.cells #[.int .i64 f.kind, .int .i64 f.heard, .int .i64 f.epoch, .slice ua f.op.length uc, .string f.text] 78)) = wr at *
  have hdd : Below wr.heap.size wr wr.drew := ⟨rfl, rfl, rfl, Nat.le_refl _, fun _ _ => rfl⟩
  have hnd : wr.drew.heap[pa]? = some (.cells #[.slice oa P.length oc] 80 (0, 0)) := ha1
  generalize hpl : f.op.length = pn at *
  have HPN : Hid (f.op.length = pn) := hpl
  clear hpl
  go_region_law (first | (go_simp; go_at_call 95; with_reducible refine Calls.mono (cC _ hdd) ?_; rintro e wz ⟨u, rfl, hou, hbz⟩; have hlz := (hbz.block _ (Array.getElem?_eq_some_iff.1 hnd).1).trans hnd; have hbkz := blk hlz; obtain ⟨lz, llz, lfz⟩ := hbkz; have hof := own_form hou; obtain ⟨xa, xc, rfl⟩ := hof; have hrz := own_below (own_drew hrw) hbz) | (refine step_append_lies _ (by rfl) _ _ _ (by rfl) M 88 p0 _ 9 96 Tryd.underlying80 hp0 hpz0 hpz1 hpz2 rfl (by omega) (.slice oa P.length oc) P.length (pkS.all P) (by rfl) (hrz.alloc _) ⟨wz.heap.size, 0, none⟩ 1 1 [.int .i64 ep, .int .i64 n, .bool false, .int .i64 hd, .int .i64 f.kind, .int .i64 f.heard, .int .i64 f.epoch, .slice xa pn xc, .string f.text] (by rfl) (by rfl) (World.news_of_block (cs := #[.int .i64 ep, .int .i64 n, .bool false, .int .i64 hd, .int .i64 f.kind, .int .i64 f.heard, .int .i64 f.epoch, .slice xa pn xc, .string f.text]) (t := 88) (fr := (0, 0)) (heap_alloc_new wz _)) (by simp [Value.oneCell']) (by omega) (by unfold maxLen; omega) (by omega) (by have := hbz.size; have : wr.drew.heap.size = wr.heap.size := rfl; simp; omega) (wz.heap.size + 1) (by simp) ?_; intro g1 cap1 w4 hown4 hgr4 hat4 hlt4; have blk4 := row_kept (hrz.alloc _) (row_old hlz _) (by decide) hgr4; have hbk4 := blk blk4; obtain ⟨l4, ll4, lf4⟩ := hbk4))
  all_goals
    have hzz : wr.heap.size ≤ wz.heap.size := hbz.size
    have hn5 : (w4.setCell ⟨pa, 0, none⟩ (.slice (some ⟨g1, 0, none⟩) (P.length + 1) cap1)).heap[pa]? = some (.cells #[.slice (some ⟨g1, 0, none⟩) (P.length + 1) cap1] 80 (0, 0)) := (blk_put blk4 0 (.slice (some ⟨g1, 0, none⟩) (P.length + 1) cap1)).1
    have hs5 := (blk_put blk4 0 (.slice (some ⟨g1, 0, none⟩) (P.length + 1) cap1)).2
    have kk : KeptP pa wr (w4.setCell ⟨pa, 0, none⟩ (.slice (some ⟨g1, 0, none⟩) (P.length + 1) cap1)) := fun k cs T hk hT1 h => hs5.row (row_kept (hrz.alloc _) (row_old ((hbz.block k (Array.getElem?_eq_some_iff.1 h).1).trans h) _) hT1 hgr4) hk
    have hKz := hP1.below (below_two hdd hbz (Nat.le_refl _))
    have hou' := own_base hou (show M ≤ wr.drew.heap.size by show M ≤ wr.heap.size; omega)
    rw [← HPN.out] at hou' hown4 hgr4
    have hK4 := (RowK.app (x := ((⟨ep, n, false, hd, f⟩, Value.slice xa f.op.length xc) : PkK)) hKz hou' hown4 hgr4).stored blk4 (by decide) (by decide) hs5
    have HB5 : Below M w (w4.setCell ⟨pa, 0, none⟩ (.slice (some ⟨g1, 0, none⟩) (P.length + 1) cap1)) := ((((below_two (hb0.mono hMz) (below_two hdd hbz (Nat.le_refl _)) hMz).alloc (by omega) _).grown hgr4 (by simp; omega) (fun k e => (hrw.lt k e).1)).trans (hs5.below (fun k e => by omega) (by have := hgr4.size; simp at this; omega)))
    clear hrz hown4 hgr4 hat4 blk4 l4 ll4 lf4 hs5 hKz hou hou' hbz lz llz lfz hlz
    generalize (w4.setCell ⟨pa, 0, none⟩ (.slice (some ⟨g1, 0, none⟩) (P.length + 1) cap1)) = w5 at *
    go_wp2_with fail
    go_end0
    exact ⟨rfl, _, _, hn5, hK4, HB5, (KeptP.of_below hb0).trans kk⟩

/-- what Tick tells, of one's own -/
structure TickOk (w : World) (N : Nat) (pv : Value) (R : List PkI) : Prop where
  ex : ∃ P : List PkK, RowK pkS w N pv P ∧ P.map (·.1) = R
set_option maxRecDepth 100000 in
set_option maxHeartbeats 4000000 in
theorem tick_ok {B : Nat} (ep nx hd : Int) (S Q : List FrK) (sv qv : Value) (w : World) (hS : InK frS w B sv S) (hQ : InK frS w B qv Q) (fS : ∀ x ∈ S, FrSmall x.1) (fQ : ∀ x ∈ Q, FrSmall x.1) (lS : S.length ≤ 1048577) (lQ : Q.length ≤ 1048577) (hT : Tabs w) (herr : linkErr (mkL ep nx hd S Q) = 0) (hep : ep ≠ 0) :
    Calls Tryd.prog 45 #[.agg #[.int .i64 ep, .int .i64 nx, sv, qv, .int .i64 hd]] w fun r w' => ∃ pv, r = .returned (.tuple #[pv, .int .i64 0]) ∧ TickOk w' w.heap.size pv (tickL (mkL ep nx hd S Q)) ∧ Below w.heap.size w w' := by
  have eg : ∀ args w, (callFunc 94 args).run Tryd.prog w = .ok (.enter 94 args) w := enters_of Tryd.func94 (by kernel_rfl) rfl
  obtain ⟨p0, hp0, hpz0, hpz1, hpz2⟩ := info_parts info_pk
  obtain ⟨k1, k2, k3, k4, k5, k6, k7⟩ := linkOk herr
  have cC := fun w1 (hb : Below w.heap.size w w1) => linkCheck_any ep nx hd S Q sv qv w1 (hS.below hb) (hQ.below hb) fS fQ lS lQ (hT.below hb)
  rw [herr] at cC
  obtain ⟨sa, sc, rfl, _⟩ := hS.row
  obtain ⟨qa, qc, rfl, _⟩ := hQ.row
  have hb0 := (Below.refl w.heap.size w).alloc (Nat.le_refl _) (.cells #[.int .i64 ep, .int .i64 nx, .slice sa S.length sc, .slice qa Q.length qc, .int .i64 hd] 74)
  have hl := heap_alloc_new w (.cells #[.int .i64 ep, .int .i64 nx, .slice sa S.length sc, .slice qa Q.length qc, .int .i64 hd] 74)
  -- the walk over those that were sent
  have cE : ∀ w1, Below w.heap.size w w1 → w1.heap[w.heap.size]? = some (Obj.cells #[.int .i64 ep, .int .i64 nx, .slice sa S.length sc, .slice qa Q.length qc, .int .i64 hd] 74 (0, 0)) → Calls Tryd.prog 93 #[.agg #[.int .i64 ep, .int .i64 nx, .slice sa S.length sc, .slice qa Q.length qc, .int .i64 hd], .func (.func 94) #[] #[.pointer (some ⟨w1.heap.size, 0, none⟩), .pointer (some ⟨w.heap.size, 0, none⟩)]] (w1.alloc (.cells #[.slice none 0 0] 80)) fun e w' => e = .returned (.tuple #[]) ∧ w'.heap[w.heap.size]? = some (Obj.cells #[.int .i64 ep, .int .i64 nx, .slice sa S.length sc, .slice qa Q.length qc, .int .i64 hd] 74 (0, 0)) ∧ Below w.heap.size w w' ∧ ∃ pv P, w'.heap[w1.heap.size]? = some (.cells #[pv] 80 (0, 0)) ∧ RowK pkS w' w.heap.size pv P ∧ P.length = S.length ∧ P.map (·.1) = packs ep hd (nx - S.length) (S.map (·.1)) := by
    intro w1 hb1 hl1
    have hzl : w.heap.size < w1.heap.size := (Array.getElem?_eq_some_iff.1 hl1).1
    let P1 : Nat → World → Prop := fun i wr => wr.heap[w.heap.size]? = some (Obj.cells #[.int .i64 ep, .int .i64 nx, .slice sa S.length sc, .slice qa Q.length qc, .int .i64 hd] 74 (0, 0)) ∧ Below w.heap.size w wr ∧ ∃ pv P, wr.heap[w1.heap.size]? = some (.cells #[pv] 80 (0, 0)) ∧ RowK pkS wr w.heap.size pv P ∧ P.length = i ∧ P.map (·.1) = packs ep hd (nx - S.length) ((S.take i).map (·.1))
    have hal : ∀ i wr o, P1 i wr → P1 i (wr.alloc o) := by
      rintro i wr o ⟨h1, h2, pv, P, h3, h4, h5, h6⟩
      exact ⟨row_old h1 o, h2.alloc h2.size o, pv, P, row_old h3 o, h4.below ((Below.refl _ _).alloc (Nat.le_refl _) o), h5, h6⟩
    have hst0 : P1 0 (w1.alloc (.cells #[.slice none 0 0] 80)) := ⟨row_old hl1 _, hb1.alloc hb1.size _, .slice none 0 0, [], heap_alloc_new w1 _, rowK_nil _ _ _, rfl, rfl⟩
    have hrd : ∀ i wr, P1 i wr → InK frS wr B (.slice sa S.length sc) S := by
      rintro i wr ⟨_, h2, _⟩
      exact hS.below h2
    have hE := eachSent_any (B := B) ep nx hd S (.slice sa S.length sc) qa Q.length qc 94 w1.heap.size w.heap.size (w1.alloc (.cells #[.slice none 0 0] 80)) P1 eg (hrd 0 _ hst0) ⟨by omega, k3.2⟩ (fun o => hal 0 _ o hst0) hal hrd (by
      rintro i hi wr ⟨h1, h2, pv, P, h3, h4, h5, h6⟩
      have hov : OpVal wr S[i].2 S[i].1.op := ((hS.below h2).each S[i] (List.getElem_mem hi)).op
      refine (tick1_any (nx - (S.length : Int) + (i : Int)) S[i].1 S[i].2 ep nx hd sa qa S.length sc Q.length qc P pv w.heap.size w1.heap.size w.heap.size wr h3 h1 h4 (by omega) (by omega) hov (by have := (fS _ (List.getElem_mem hi)).op.1; omega)).mono ?_
      rintro e w' ⟨rfl, pv', u, g1, g2, g3, g4⟩
      refine ⟨rfl, g4 _ _ _ (by omega) (by decide) h1, h2.trans g3, pv', _, g1, g2, by simp; omega, ?_⟩
      rw [List.map_append, h6, List.take_succ_eq_append_getElem hi, List.map_append, packs_append, List.length_map, List.length_take, Nat.min_eq_left (by omega)]
      rfl)
    refine hE.mono ?_
    rintro e w' ⟨rfl, h1, h2, pv, P, h3, h4, h5, h6⟩
    rw [List.take_of_length_le (Nat.le_refl _)] at h6
    exact ⟨rfl, h1, h2, pv, P, h3, h4, h5, h6⟩
  have hR : tickL (mkL ep nx hd S Q) = if S.length = 0 then [bareL (mkL ep nx hd S Q)] else packs ep hd (nx - S.length) (S.map (·.1)) := by
    unfold tickL
    have e1 : (mkL ep nx hd S Q).epoch = ep := rfl
    have e2 : (mkL ep nx hd S Q).sent.length = S.length := by simp [mkL]
    rw [e1, if_neg hep, e2]
    rfl
  obtain ⟨RT, hRT⟩ : ∃ RT, RT = tickL (mkL ep nx hd S Q) := ⟨_, rfl⟩
  rw [← hRT]
  have HRT : Hid (RT = if S.length = 0 then [bareL (mkL ep nx hd S Q)] else packs ep hd (nx - S.length) (S.map (·.1))) := hRT.trans hR
  clear hRT
  have HBR : Hid (bareL (mkL ep nx hd S Q) = ⟨ep, 0, true, hd, fr0⟩) := rfl
  have g0 : (ep == 0) = false := by simpa using hep
  obtain ⟨l0, ll0, _⟩ := blk hl
  have cC1 := cC _ hb0
  clear cC hS hQ fS fQ hT herr hep eg hR k1 k2 k3 k4 k5 k6 k7
  go_enter Tryd.func45, Tryd.ntmps45
  go_wp2_with fail
  refine cC1.mono ?_
  generalize (w.alloc (.cells #[.int .i64 ep, .int .i64 nx, .slice sa S.length sc, .slice qa Q.length qc, .int .i64 hd] 74)) = w0 at *
  rintro r w1 ⟨rfl, hb1⟩
  have HB1 := below_two hb0 hb1 (Nat.le_refl _)
  replace hl := (hb1.block _ ll0).trans hl
  have cE1 := cE w1 HB1 hl
  have hl2 := row_old hl (.cells #[.slice none 0 0] 80)
  clear cE cC1 l0 ll0
  obtain ⟨l0, ll0, _⟩ := blk hl
  obtain ⟨l2, ll2, _⟩ := blk hl2
  go_wp2_with fail
  refine cE1.mono ?_
  rintro r w3 ⟨rfl, hl3, HB3, pv, P, h3, hP, hPl, HPM⟩
  have hP' : Hid (P.map (·.1) = packs ep hd (nx - S.length) (S.map (·.1))) := HPM
  obtain ⟨oa, oc, rfl⟩ := own_form hP.row
  clear cE1 l0 ll0 l2 ll2 hl2 HPM
  have hlt1 : w.heap.size < w1.heap.size := (Array.getElem?_eq_some_iff.1 hl).1
  obtain ⟨a3, al3, af3⟩ := blk h3
  obtain ⟨l3, ll3, _⟩ := blk hl3
  by_cases hz : S.length = 0
  · have HR0 : Hid (RT = [⟨ep, 0, true, hd, fr0⟩]) := by show _ = _; rw [HRT.out, if_pos hz, HBR.out]
    have hPz : P.length = 0 := by omega
    have hP0 : P = [] := List.length_eq_zero_iff.1 hPz
    subst hP0
    have hrw : w3.ownsRow w.heap.size 88 9 (.slice oa 0 oc) 0 (pkS.all []) := hP.row
    have cR := fun (wx : World) => bare_any ep nx hd sa qa S.length sc Q.length qc wx
    have hz3 := HB3.size
    clear hP' hz hPl HRT HBR hPz
    simp only [List.length_nil] at h3 a3 hP
    go_wp2_with fail
    have hdd : Below w3.heap.size w3 w3.drew := ⟨rfl, rfl, rfl, Nat.le_refl _, fun _ _ => rfl⟩
    have hnd : w3.drew.heap[w1.heap.size]? = some (.cells #[.slice oa 0 oc] 80 (0, 0)) := h3
    go_region_law (first | (go_simp; go_at_call 90; with_reducible refine Calls.mono (cR _) ?_; rintro e wz ⟨rfl, hbz⟩; have hlz := (hbz.block _ (Array.getElem?_eq_some_iff.1 hnd).1).trans hnd; have hbkz := blk hlz; obtain ⟨lz, llz, lfz⟩ := hbkz; have hrz := own_below (own_drew hrw) hbz) | (refine step_append_lies _ (by rfl) _ _ _ (by rfl) w.heap.size 88 p0 _ 9 96 Tryd.underlying80 hp0 hpz0 hpz1 hpz2 rfl (by omega) (.slice oa 0 oc) 0 (pkS.all []) (by rfl) (hrz.alloc _) ⟨wz.heap.size, 0, none⟩ 1 1 [.int .i64 ep, .int .i64 0, .bool true, .int .i64 hd, .int .i64 0, .int .i64 0, .int .i64 0, .slice none 0 0, .string ByteArray.empty] (by rfl) (by rfl) (World.news_of_block (cs := #[.int .i64 ep, .int .i64 0, .bool true, .int .i64 hd, .int .i64 0, .int .i64 0, .int .i64 0, .slice none 0 0, .string ByteArray.empty]) (t := 88) (fr := (0, 0)) (heap_alloc_new wz _)) (by simp [Value.oneCell']) (by omega) (by unfold maxLen; omega) (by omega) (by have := hbz.size; have : w3.drew.heap.size = w3.heap.size := rfl; simp; omega) (wz.heap.size + 1) (by simp) ?_; intro g1 cap1 w4 hown4 hgr4 hat4 hlt4; have blk4 := row_kept (hrz.alloc _) (row_old hlz _) (by decide) hgr4; have hbk4 := blk blk4; obtain ⟨l4, ll4, lf4⟩ := hbk4))
    all_goals
      have hzz : w3.heap.size ≤ wz.heap.size := hbz.size
      have hn5 : (w4.setCell ⟨w1.heap.size, 0, none⟩ (.slice (some ⟨g1, 0, none⟩) (0 + 1) cap1)).heap[w1.heap.size]? = some (.cells #[.slice (some ⟨g1, 0, none⟩) (0 + 1) cap1] 80 (0, 0)) := (blk_put blk4 0 (.slice (some ⟨g1, 0, none⟩) (0 + 1) cap1)).1
      have hs5 := (blk_put blk4 0 (.slice (some ⟨g1, 0, none⟩) (0 + 1) cap1)).2
      have hKz := (rowK_nil pkS w3 w.heap.size)
      have hK4 := (RowK.app (S := pkS) (v := .slice oa 0 oc) (x := ((⟨ep, 0, true, hd, fr0⟩, Value.slice none 0 0) : PkK)) (hP.below (below_two hdd hbz (Nat.le_refl _))) (World.ownsRow_nil _ _ _ _) hown4 hgr4).stored blk4 (by decide) (by decide) hs5
      have HB5 : Below w.heap.size w (w4.setCell ⟨w1.heap.size, 0, none⟩ (.slice (some ⟨g1, 0, none⟩) (0 + 1) cap1)) := (((below_two HB3 (below_two hdd hbz (Nat.le_refl _)) (Nat.le_refl _)).alloc (by omega) _).grown hgr4 (by simp; omega) (fun k e => (hrw.lt k e).1)).trans (hs5.below (fun k e => by omega) (by have := hgr4.size; simp at this; omega))
      have HTK : Hid (TickOk (w4.setCell ⟨w1.heap.size, 0, none⟩ (.slice (some ⟨g1, 0, none⟩) (0 + 1) cap1)) w.heap.size (.slice (some ⟨g1, 0, none⟩) (0 + 1) cap1) RT) := ⟨_, hK4, by rw [HR0.out]; rfl⟩
      clear hrz hown4 hgr4 hat4 blk4 l4 ll4 lf4 hs5 hKz hbz lz llz lfz hlz hK4 a3 al3 af3 l3 ll3
      generalize (w4.setCell ⟨w1.heap.size, 0, none⟩ (.slice (some ⟨g1, 0, none⟩) (0 + 1) cap1)) = w5 at *
      obtain ⟨n5, nl5, _⟩ := blk hn5
      go_wp2_with fail
      go_ret2
      exact ⟨_, rfl, HTK, HB5⟩
  · have HR1 : Hid (RT = packs ep hd (nx - S.length) (S.map (·.1))) := by show _ = _; rw [HRT.out, if_neg hz]
    have hpos : ((P.length : Int) == 0) = false := beq_false_of_ne (by omega)
    have HTK : Hid (TickOk w3 w.heap.size (.slice oa P.length oc) RT) := ⟨P, hP, by rw [HR1.out]; exact hP'.out⟩
    clear hP hP' hz hPl HRT HBR
    generalize P.length = pn at *
    go_wp2_with fail
    go_ret2
    exact ⟨_, rfl, HTK, HB3⟩

end Go.Proofs.YtekgennapogcgaaDoor
