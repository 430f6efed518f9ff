/-
  Walk: wherryref.filled.
-/
import Derived.Test.YtnpjcdfkjgenbaaDoorLinkAt
import Derived.Test.YtnpjcdfkjgenbaaDoorLinkGo
import Derived.Deep.RegionLaw
import Derived.Deep.RegionHeld3
namespace Go.Proofs.YtnpjcdfkjgenbaaDoor
open Go.RowKit Go.Lib

theorem info_intF : (Tryd.prog.info? 3).map (fun i => (i.zero, i.size, i.bytes)) = some (some (.int .i64 0), 1, 8) := by kernel_rfl
/-- another row of one's own grows -/
theorem InT.other {α : Type} {S : Shape α} {w w' : World} {B : Nat} {v : Value} {K : List α} {o : Obj} {v2 : Value} {B2 T2 size2 n2 : Nat} {xs2 : List Value} (h : InT S w B v K) (h2 : w.ownsRow B2 T2 size2 v2 n2 xs2) (hg : (w.alloc o).grownBy w' v2.ownBlock) (hT : 63 ≠ T2) (hS : S.T ≠ T2) : InT S w' B v K := by
  have hch : Chg (fun k => v2.ownBlock = some k) w w' := ((Chg.refl _ w).alloc _).grown hg (fun k _ e => e)
  exact ⟨h.row.chg hch (fun k hk _ cs e => row_ne h2 e hS hk.symm), fun x hx => (h.each x hx).chg hch (fun k hk _ cs e => row_ne h2 e hT hk.symm)⟩
theorem RowK.ownFr {w : World} {B : Nat} {v : Value} {K : List FrK} (h : RowK frS w B v K) : w.ownsRow B 28 5 v K.length (frS.all K) := h.row
theorem RowK.ownPk {w : World} {B : Nat} {v : Value} {K : List PkK} (h : RowK pkS w B v K) : w.ownsRow B 30 9 v K.length (pkS.all K) := h.row
theorem map_small {K : List FrK} {L : List FrI} {m : Nat} (h : K.map (·.1) = L) (hL : ∀ f ∈ L, f.op.length ≤ m) : ∀ x ∈ K, x.1.op.length ≤ m := fun x hx => hL _ (by rw [← h]; exact List.mem_map_of_mem hx)

set_option maxRecDepth 100000 in
set_option maxHeartbeats 4000000 in
theorem filled_any {B : Nat} (ep nx hd : Int) (S Q : List FrK) (sv qv : Value) (w : World) (hS : InT frS w B sv S) (hQ : InT frS w B qv Q) (fS : ∀ f ∈ S.map (·.1), f.op.length ≤ 1048576) (fQ : ∀ f ∈ Q.map (·.1), f.op.length ≤ 1048576) (lS : S.length ≤ 8) (lQ : Q.length ≤ 1048577) (hn : 0 ≤ nx ∧ nx ≤ 1048576) (hSn : (S.length : Int) ≤ nx) (hB : B ≤ w.heap.size) :
    Calls Tryd.prog 20 #[.agg #[.int .i64 ep, .int .i64 nx, sv, qv, .int .i64 hd]] w fun r w' => ∃ sv' qv' pv, r = .returned (.tuple #[.agg #[.int .i64 ep, .int .i64 (nx + (goK S.length Q.length nx : Nat)), sv', qv', .int .i64 hd], pv]) ∧ GoOk w' B w.heap.size sv' qv' pv (LinkI.go ⟨ep, nx, S.map (·.1), Q.map (·.1), hd⟩) ∧ Below w.heap.size w w' := by
  obtain ⟨i0, hi0, hz0, hz1, hz2⟩ := info_parts info_intF
  obtain ⟨f0, hf0, hfz0, hfz1, hfz2⟩ := info_parts info_fr
  obtain ⟨p0, hp0, hpz0, hpz1, hpz2⟩ := info_parts info_pk
  obtain ⟨sa, sc, rfl, -⟩ := hS.row
  obtain ⟨qa, qc, rfl, -⟩ := hQ.row
  obtain ⟨kk, hkk⟩ : ∃ kk, kk = goK S.length Q.length nx := ⟨_, rfl⟩
  have hkQ : kk ≤ Q.length := by rw [hkk]; unfold goK; omega
  have hk8 : S.length + kk ≤ 8 := by rw [hkk]; unfold goK; omega
  have hkn : kk = 0 ∨ nx + (kk : Int) ≤ 1048576 := by rw [hkk]; unfold goK; omega
  have hcond : ∀ j, j ≤ kk → (j < kk ↔ (j < Q.length ∧ S.length + j < 8 ∧ nx + (j : Int) < 1048576)) := fun j hj => by rw [hkk] at hj ⊢; unfold goK at hj ⊢; omega
  have HGO : Hid (LinkI.go ⟨ep, nx, S.map (·.1), Q.map (·.1), hd⟩ = (⟨ep, nx + (kk : Nat), S.map (·.1) ++ (Q.map (·.1)).take kk, (Q.map (·.1)).drop kk, hd⟩, packs ep hd nx ((Q.map (·.1)).take kk))) := by
    show _ = _
    unfold LinkI.go
    simp only [List.length_map]
    rw [← hkk]
  rw [← hkk]
  clear hkk
  obtain ⟨G, hG⟩ : ∃ G, G = LinkI.go ⟨ep, nx, S.map (·.1), Q.map (·.1), hd⟩ := ⟨_, rfl⟩
  rw [← hG] at HGO ⊢
  clear hG
  obtain ⟨hpar, hres, HB0, hz⟩ := two_blocks w (.cells #[.int .i64 ep, .int .i64 nx, .slice sa S.length sc, .slice qa Q.length qc, .int .i64 hd] 24) (.cells #[.int .i64 0, .int .i64 0, .slice none 0 0, .slice none 0 0, .int .i64 0] 24)
  have hS0 := hS.below HB0
  have hQ0 := hQ.below HB0
  clear hS hQ hz
  obtain ⟨l0, ll0, lf0⟩ := blk hpar
  go_enter Tryd.func20, Tryd.ntmps20
  go_wp2_with fail
  generalize ((w.alloc (.cells #[.int .i64 ep, .int .i64 nx, .slice sa S.length sc, .slice qa Q.length qc, .int .i64 hd] 24)).alloc (.cells #[.int .i64 0, .int .i64 0, .slice none 0 0, .slice none 0 0, .int .i64 0] 24)) = w0 at *
  go_loopg [4] kk (fun g nv wr => ∃ (j : Nat) (N : Int) (K D : List FrK) (ka qb : Option Addr) (kc qd : Nat), j + g = kk ∧ Hid (N = nx + (j : Int)) ∧ wr.heap[w.heap.size]? = some (Obj.cells #[.int .i64 ep, .int .i64 N, .slice ka K.length kc, .slice qb D.length qd, .int .i64 hd] 24 (0, 0)) ∧ wr.heap[w.heap.size + 1]? = some (Obj.cells #[.int .i64 0, .int .i64 0, .slice none 0 0, .slice none 0 0, .int .i64 0] 24 (0, 0)) ∧ InT frS wr B (.slice ka K.length kc) K ∧ Hid (K.map (·.1) = S.map (·.1) ++ (Q.map (·.1)).take j) ∧ InT frS wr B (.slice qb D.length qd) D ∧ Hid (D.map (·.1) = (Q.map (·.1)).drop j) ∧ wr.ownsRow w.heap.size 3 1 nv j ((List.range j).map fun (i : Nat) => Value.int .i64 (nx + (i : Int))) ∧ Below w.heap.size w wr)
  case atStart => exact ⟨0, nx, S, Q, sa, qa, sc, qc, by omega, by show _ = _; simp, hpar, hres, hS0, by show _ = _; simp, hQ0, by show _ = _; simp, World.ownsRow_nil _ _ _ _, HB0⟩
  case round =>
    clear hpar hres hS0 hQ0 l0 ll0 lf0 HB0
    obtain ⟨j, N, K, D, ka, qb, kc, qd, hj, HN, hl, hres, hK, HK, hD, HD, hrow, HB⟩ := hrel
    have HC : Hid (j < kk ↔ (j < Q.length ∧ S.length + j < 8 ∧ nx + (j : Int) < 1048576)) := hcond j (by omega)
    have hKl : K.length ≤ S.length + j ∧ S.length + j ≤ K.length := by have := congrArg List.length HK.out; simp only [List.length_map, List.length_append, List.length_take] at this; omega
    have hDl : D.length + j ≤ Q.length ∧ Q.length ≤ D.length + j := by have := congrArg List.length HD.out; simp only [List.length_map, List.length_drop] at this; omega
    have hNb : 0 ≤ N ∧ N ≤ nx + (j : Int) ∧ nx + (j : Int) ≤ N := by rw [HN.out]; omega
    have fK : ∀ x ∈ K, x.1.op.length ≤ 1048576 := map_small HK.out (fun f hf => by rcases List.mem_append.1 hf with h | h; exact fS f h; exact fQ f (List.mem_of_mem_take h))
    have fD : ∀ x ∈ D, x.1.op.length ≤ 1048576 := map_small HD.out (fun f hf => fQ f (List.mem_of_mem_drop hf))
    obtain ⟨na, nc, rfl⟩ := own_form hrow
    obtain ⟨l0, ll0, lf0⟩ := blk hl
    clear hcond
    by_cases hjlt : j < kk
    · obtain ⟨h1, h2, h3⟩ := HC.out.1 hjlt
      have hq0 : (0 : Int) < (D.length : Int) := by omega
      have hs8 : (K.length : Int) < 8 := by omega
      have hnn : N < 1048576 := by omega
      have hn0 := hNb.1
      have HQ8 : Hid (K.length ≤ 7 ∧ 0 < D.length ∧ D.length ≤ 1048577 ∧ j < kk ∧ j ≤ 8 ∧ w.heap.size + 1 < wr.heap.size) := ⟨by omega, by omega, by omega, hjlt, by omega, (Array.getElem?_eq_some_iff.1 hres).1⟩
      have hrw := hrow
      clear hKl hDl hNb h1 h2 h3 hjlt HC lS lQ hn hSn hkQ hk8 hkn
      go_wp2_with (at_builtin; refine wpList_append_lies _ rfl _ _ 60 rfl w.heap.size 3 i0 _ 1 8 Tryd.underlying60 hi0 hz0 hz1 hz2 rfl (by decide) _ _ _ rfl (hrw.alloc _) ⟨wr.heap.size, 0, none⟩ 1 1 [.int .i64 N] rfl rfl (World.news_of_block (cs := #[.int .i64 N]) (t := 3) (fr := (0, 0)) (heap_alloc_new wr _)) (by simp [Value.oneCell']) (by omega) (by have := HQ8.out; unfold maxLen; omega) (by have := HQ8.out; omega) (by have := HQ8.out; simp; omega) _ rfl ?_; intro g1 cap1 w2 hown1 hgr1 hat1 hlt1)
      have hgA := hgr1
      have hl2 := row_kept (hrw.alloc _) (row_old hl _) (by decide) hgA
      have hr2 := row_kept (hrw.alloc _) (row_old hres _) (by decide) hgA
      have hK2 := hK.other hrw hgr1 (by decide) (by decide)
      have hD2 := hD.other hrw hgr1 (by decide) (by decide)
      have hzw := HQ8.out.2.2.2.2.2
      have HB2 : Below w.heap.size w w2 := (HB.alloc HB.size _).grown hgr1 (by simp; omega) (fun k e => (hrw.lt k e).1)
      have hzB : wr.heap.size + 1 ≤ w2.heap.size := by have := hgr1.size; simp at this; exact this
      have hrow2 : w2.ownsRow w.heap.size 3 1 (.slice (some ⟨g1, 0, none⟩) (j + 1) cap1) (j + 1) ((List.range (j + 1)).map fun (i : Nat) => Value.int .i64 (nx + (i : Int))) := by
        rw [List.range_succ, List.map_append, List.map_singleton, ← HN.out]
        exact hown1
      clear hl hres hK hD hrow hrw l0 ll0 lf0 hown1 hgr1 hgA hat1 hlt1 HB
      have hd0 := HQ8.out.2.1
      obtain ⟨b, off, c', ea, hbl, -, c0, c1, c2, c3, c4⟩ := fr_get hD2.inK hd0
      simp only [Value.slice.injEq, true_and] at ea
      obtain ⟨rfl, rfl⟩ := ea
      have hov : OpVal w2 D[0].2 D[0].1.op := (hD2.inK.each D[0] (List.getElem_mem hd0)).op
      have hsm := fD D[0] (List.getElem_mem hd0)
      have HT : Hid ((Q.map (·.1)).take (j + 1) = (Q.map (·.1)).take j ++ [D[0].1]) := by
        have hj2 : j < (Q.map (·.1)).length := by have := congrArg List.length HD.out; rw [List.length_map, List.length_drop] at this; omega
        show _ = _
        rw [List.take_succ_eq_append_getElem hj2]
        congr 2
        have h1 : (D.map (·.1))[0]? = some (Q.map (·.1))[j] := by rw [HD.out, List.getElem?_drop]; exact List.getElem?_eq_getElem hj2
        rw [List.getElem?_map, List.getElem?_eq_getElem hd0] at h1
        exact (Option.some.inj h1).symm
      have cS : ∀ w1, Below w2.heap.size w2 w1 → Calls Tryd.prog 10 #[.slice ka K.length kc] w1 fun r w' => ∃ s', r = .returned s' ∧ (∃ M1, RowK frS w' w1.heap.size s' M1 ∧ Hid (M1.map (·.1) = K.map (·.1)) ∧ M1.length ≤ 7) ∧ Below w1.heap.size w1 w' := fun w1 hb => by
        refine (framesCopy_any K (.slice ka K.length kc) w1 (hK2.below hb).inK fK (by have := HQ8.out.1; omega)).mono ?_
        rintro r w' ⟨s', hr, ⟨M1, h1, h2⟩, hb'⟩
        exact ⟨s', hr, ⟨M1, h1, h2, by have := congrArg List.length h2; rw [List.length_map, List.length_map] at this; have := HQ8.out.1; omega⟩, hb'⟩
      have cF := fun w1 (hb : Below w2.heap.size w2 w1) => frameCopy_any D[0].1 D[0].2 w1 (hov.below hb) hsm
      obtain ⟨la, lc, hcut, hDn⟩ := cut_inT hD2 1 hd0 1 rfl
      have HDn : Hid ((D.drop 1).map (·.1) = (Q.map (·.1)).drop (j + 1)) := by show _ = _; rw [List.map_drop, HD.out, List.drop_drop, Nat.add_comm]
      have fDn : ∀ x ∈ D.drop 1, x.1.op.length ≤ 1048576 := fun x hx => fD x (List.mem_of_mem_drop hx)
      have HDl : Hid ((D.drop 1).length ≤ 1048577) := by have := HQ8.out.2.2.1; show _ ≤ _; rw [List.length_drop]; omega
      generalize D.drop 1 = D2 at hcut hDn HDn fDn HDl
      generalize D[0] = x at *
      obtain ⟨f, u⟩ := x
      simp only at c0 c1 c2 c3 c4 hov cF HT hsm
      simp only [Nat.zero_mul, Nat.add_zero] at c0 c1 c2 c3 c4
      obtain ⟨ua, uc, rfl, -⟩ := hov.form
      clear hov hsm hK2 hD2 fK fD hd0
      obtain ⟨l0, ll0, lf0⟩ := blk hl2
      go_wp2_with fail
      have hdd : Below w2.heap.size w2 w2.drew := ⟨rfl, rfl, rfl, Nat.le_refl _, fun _ _ => rfl⟩
      have hnd : w2.drew.heap[w.heap.size]? = some (Obj.cells #[.int .i64 ep, .int .i64 N, .slice ka K.length kc, .slice (some ⟨b, off, none⟩) D.length qd, .int .i64 hd] 24 (0, 0)) := hl2
      have hK8 := HQ8.out.1
      generalize hpl : f.op.length = pn at *
      have HPN : Hid (f.op.length = pn) := hpl
      clear hpl
      go_region_law (first | (go_simp; go_at_call 10; with_reducible refine Calls.mono (cS _ hdd) ?_; rintro e wz ⟨s', rfl, hs', hbz⟩; have hbW := below_two hdd hbz (Nat.le_refl _); have hlz := (hbz.block _ (Array.getElem?_eq_some_iff.1 hnd).1).trans hnd; have hbkz := blk hlz; obtain ⟨lz, llz, lfz⟩ := hbkz; obtain ⟨M1, hK', HK', hKl'⟩ := hs'; have hof := own_form hK'.row; obtain ⟨xa, xc, rfl⟩ := hof; have z0 := (hbW.cell (p := ⟨b, off, none⟩) hbl).trans c0; have z1 := (hbW.cell (p := ⟨b, off + 1, none⟩) hbl).trans c1; have z2 := (hbW.cell (p := ⟨b, off + 2, none⟩) hbl).trans c2; have z3 := (hbW.cell (p := ⟨b, off + 3, none⟩) hbl).trans c3; have z4 := (hbW.cell (p := ⟨b, off + 4, none⟩) hbl).trans c4) | (go_simp; go_at_call 19; with_reducible refine Calls.mono (cF _ hbW) ?_; rintro e wy ⟨u, rfl, hou, hby⟩; have hly := (hby.block _ llz).trans hlz; have hou0 := hou; have hoy := own_form hou; obtain ⟨va, vc, rfl⟩ := hoy; have hKy := hK'.below hby; have hrz := hKy.ownFr) | (refine step_append_lies _ (by rfl) _ _ _ (by rfl) w2.drew.heap.size 28 f0 _ 5 64 Tryd.underlying22 hf0 hfz0 hfz1 hfz2 rfl (by omega) (.slice xa M1.length xc) M1.length (frS.all M1) (by rfl) (hrz.alloc _) ⟨wy.heap.size, 0, none⟩ 1 1 [.int .i64 f.kind, .int .i64 f.heard, .int .i64 f.epoch, .slice va pn vc, .string f.text] (by rfl) (by rfl) (World.news_of_block (cs := #[.int .i64 f.kind, .int .i64 f.heard, .int .i64 f.epoch, .slice va pn vc, .string f.text]) (t := 28) (fr := (0, 0)) (heap_alloc_new wy _)) (by simp [Value.oneCell']) (by omega) (by unfold maxLen; omega) (by omega) (by have := hbz.size; have := hby.size; have : w2.drew.heap.size = w2.heap.size := rfl; simp; omega) (wy.heap.size + 1) (by simp) ?_; intro g4 cap4 w4 hown4 hgr4 hat4 hlt4; have blk4 := row_kept (hrz.alloc _) (row_old hly _) (by decide) hgr4; have hbk4 := blk blk4; obtain ⟨l4, ll4, lf4⟩ := hbk4))
      all_goals
        rw [← HPN.out] at hou hown4 hgr4
        have hzz : w2.heap.size ≤ wz.heap.size := hbz.size
        have hzy := hby.size
        have hK4 := RowK.app (x := ((f, Value.slice va f.op.length vc) : FrK)) hKy (own_base hou (show w2.drew.heap.size ≤ wz.heap.size from hzz)) hown4 hgr4
        have hbA : Below w2.heap.size w2 w4 := ((below_two hbW hby (Nat.le_refl _)).alloc (by omega) _).grown hgr4 (by simp; omega) (fun k e => (hrz.lt k e).1)
        have hr4 := (hbA.block _ (Array.getElem?_eq_some_iff.1 hr2).1).trans hr2
        obtain ⟨hn5, hs5⟩ := blk_put blk4 2 (.slice (some ⟨g4, 0, none⟩) (M1.length + 1) cap4)
        have hr5 := hs5.row hr4 (show ¬ w.heap.size + 1 = w.heap.size by omega)
        have hK5 := (hK4.stored blk4 (by decide) (by decide) hs5).inT.base (show B ≤ w2.drew.heap.size from Nat.le_trans hB HB2.size)
        have hD5 := (hDn.below hbA).stored blk4 (by decide) (by decide) hs5
        have hrow4 := own_below hrow2 hbA
        have hrow5 := own_chg hrow4 hs5 (fun k hk e => row_ne hrow4 blk4 (by decide) (by rw [← e]; exact hk.symm))
        have HB4 := below_two HB2 hbA (by omega)
        have HB5 := HB4.trans (hs5.below (B := w.heap.size) (fun k e => by omega) HB4.size)
        have HK5 : Hid ((M1 ++ [((f, Value.slice va f.op.length vc) : FrK)]).map (·.1) = S.map (·.1) ++ (Q.map (·.1)).take (j + 1)) := by show _ = _; rw [List.map_append, HK'.out, HK.out, HT.out, List.append_assoc]; rfl
        have hz5 : w.heap.size + 1 < (w4.setCell ⟨w.heap.size, 2, none⟩ (.slice (some ⟨g4, 0, none⟩) (M1.length + 1) cap4)).heap.size := (Array.getElem?_eq_some_iff.1 hr5).1
        clear hou hown4 hgr4 hKy hK4 hbA hr4 blk4 l4 ll4 lf4 hs5 hrow4 hrow2 HB4 HB2 hK' hrz hbz hby hbW hlz hly lz llz lfz hdd hnd hl2 hr2 l0 ll0 lf0 hDn cS cF z0 z1 z2 z3 z4 c0 c1 c2 c3 c4 hat4 hlt4 HK HT hKl' hou0
        generalize (w4.setCell ⟨w.heap.size, 2, none⟩ (.slice (some ⟨g4, 0, none⟩) (M1.length + 1) cap4)) = w5 at *
        have cS5 := framesCopy_any D2 (.slice la D2.length lc) w5 hD5.inK fDn HDl.out
        obtain ⟨l5, ll5, lf5⟩ := blk hn5
        have hDlz : 0 < D.length := HQ8.out.2.1
        go_wp2_with fail
        refine cS5.mono ?_
        rintro r w6 ⟨s6, rfl, ⟨K6, hK6, eK6⟩, hb6⟩
        obtain ⟨oa, oc, rfl⟩ := own_form hK6.row
        have HD6 : Hid (K6.map (·.1) = (Q.map (·.1)).drop (j + 1)) := by show _ = _; rw [eK6, HDn.out]
        have hn6 := (hb6.block _ ll5).trans hn5
        have hr6 := (hb6.block _ hz5).trans hr5
        obtain ⟨hn7, hs7⟩ := blk_put hn6 3 (.slice oa K6.length oc)
        obtain ⟨hn8, hs8⟩ := blk_put hn7 1 (.int .i64 (N + 1))
        have hs := hs7.trans hs8 (fun _ _ h => h)
        have hr8 := hs.row hr6 (show ¬ w.heap.size + 1 = w.heap.size by omega)
        have hK8 := (hK5.below hb6).stored hn6 (by decide) (by decide) hs
        have hD8 := (hK6.stored hn6 (by decide) (by decide) hs).inT.base (Nat.le_trans hB HB5.size)
        have hrow6 := own_below hrow5 hb6
        have hrow8 := own_chg hrow6 hs (fun k hk e => row_ne hrow6 hn6 (by decide) (by rw [← e]; exact hk.symm))
        have HB6 := below_two HB5 hb6 (by omega)
        have HB8 := HB6.trans (hs.below (B := w.heap.size) (fun k e => by omega) HB6.size)
        have HN8 : Hid (N + 1 = nx + ((j + 1 : Nat) : Int)) := by show _ = _; rw [HN.out]; omega
        clear l5 ll5 lf5 cS5 hn5 hr5 hK5 hD5 hrow5 HB5 hb6 hs7 hs8 hs hrow6 HB6 eK6 HN hK6
        obtain ⟨l6, ll6, lf6⟩ := blk hn6
        obtain ⟨l7, ll7, lf7⟩ := blk hn7
        go_wp2_with fail
        go_roundg (kk - j - 1)
        case measure => have := HQ8.out; omega
        case rel => exact ⟨j + 1, N + 1, M1 ++ [((f, Value.slice va f.op.length vc) : FrK)], K6, some ⟨g4, 0, none⟩, oa, cap4, oc, by have := HQ8.out; omega, HN8, by rw [List.length_append]; exact hn8, hr8, by rw [List.length_append]; exact hK8, HK5, hD8, HD6, hrow8, HB8⟩
    · have hjk : j = kk := by omega
      subst hjk
      have hsplit : ¬ (0 : Int) < (D.length : Int) ∨ ((0 : Int) < (D.length : Int) ∧ ¬ (K.length : Int) < 8) ∨ ((0 : Int) < (D.length : Int) ∧ (K.length : Int) < 8 ∧ ¬ N < 1048576) := by
        have hno : ¬ (j < Q.length ∧ S.length + j < 8 ∧ nx + (j : Int) < 1048576) := fun h => hjlt (HC.out.2 h)
        omega
      have cA := fun (i : Nat) (hi : i < K.length) (dn : Nat) (w1 : World) (hb : Below wr.heap.size wr w1) => packetAt_any ep N hd K (.slice ka K.length kc) qb dn qd i w1 (hK.below hb).inK hi fK ⟨by omega, by omega⟩
      obtain ⟨w5, rfl⟩ : ∃ w5, w5 = wr := ⟨_, rfl⟩
      have HKi : Hid (∀ i, i < j → ∀ (hi : S.length + i < K.length), (Q.map (·.1))[i]? = some K[S.length + i].1) := fun i hij hi => by
        have h0 : (K.map (·.1))[S.length + i]? = some K[S.length + i].1 := by rw [List.getElem?_map, List.getElem?_eq_getElem hi]; rfl
        have hl : (S.map (·.1)).length = S.length := List.length_map ..
        rw [HK.out, List.getElem?_append_right (by omega), hl, Nat.add_sub_cancel_left, List.getElem?_take_of_lt hij] at h0
        exact h0
      have HQl : Hid ((Q.map (·.1)).length = Q.length) := List.length_map ..
      obtain ⟨xa, xc, exx, -, -, hx⟩ := SlT.own hrow (fun h0 => by rw [h0]; rfl)
      simp only [Value.slice.injEq, true_and] at exx
      obtain ⟨rfl, rfl⟩ := exx
      have HX : Hid (∀ i, i < j → ∃ b off, na = some ⟨b, off, none⟩ ∧ b < w5.heap.size ∧ w5.cell? ⟨b, off + i, none⟩ = some (.int .i64 (nx + (i : Int)))) := fun i hi => by
        rcases hx with h0 | ⟨b, off, cs, ea, hB, hl', hc⟩
        · exfalso
          have := congrArg List.length h0
          simp at this
          omega
        · exact ⟨b, off, ea, (Array.getElem?_eq_some_iff.1 hl').1, hc i _ (by rw [List.getElem?_map, List.getElem?_range hi]; rfl)⟩
      clear hx hrow
      have hNS : N ≤ nx + (j : Int) ∧ nx + (j : Int) ≤ N := hNb.2
      have hKS : K.length ≤ S.length + j ∧ S.length + j ≤ K.length := hKl
      have HNN : Hid (N = nx + (j : Int)) := HN
      have hN2 : N ≤ 1048576 := by omega
      have hz2' : w.heap.size + 1 < w5.heap.size := (Array.getElem?_eq_some_iff.1 hres).1
      have hj8 : j ≤ 8 := by omega
      have hD9 := hD
      have HK9 := HK
      have HD9 := HD
      clear HC hDl hjlt hj lS lQ hkn HK fD hi0 hz0 hz1 hz2 hf0 hfz0 hfz1 hfz2 HN fS fQ hD HD
      generalize D.length = dn at *
      have hD' : Hid (InT frS w5 B (.slice qb dn qd) D) := hD9
      clear hD9
      rcases hsplit with c | ⟨c, d⟩ | ⟨c, d, e⟩
      all_goals
        go_wp2_with fail
        go_loopg [5, 6] j (fun g ov iv wr => ∃ (i : Nat) (P : List PkK), i + g = j ∧ iv = .int .i64 (i : Int) ∧ RowK pkS wr w5.heap.size ov P ∧ (P.length ≤ i ∧ i ≤ P.length) ∧ Hid (P.map (·.1) = packs ep hd nx ((Q.map (·.1)).take i)) ∧ Below w5.heap.size w5 wr)
        case atStart => exact ⟨0, [], by omega, rfl, rowK_nil _ _ _, ⟨Nat.le_refl _, Nat.le_refl _⟩, by show _ = _; simp [packs], Below.refl _ _⟩
        case round =>
          obtain ⟨i, P, hi, rfl, hP, hPl, HP, hb⟩ := hrel
          obtain ⟨oa, oc, rfl⟩ := own_form hP.row
          have hlr := (hb.block _ ll0).trans hl
          have hrr := (hb.block _ hz2').trans hres
          obtain ⟨lr, llr, lfr⟩ := blk hlr
          by_cases hlt : i < j
          · have hiz : (i : Int) < (j : Int) := by omega
            have hi0' : (0 : Int) ≤ (i : Int) := by omega
            obtain ⟨b, off, ena, hbn, hxc⟩ := HX.out i hlt
            subst ena
            have hxr := (hb.cell (p := ⟨b, off + i, none⟩) hbn).trans hxc
            have hsi : S.length + i < K.length := by omega
            have cP := cA (S.length + i) hsi dn
            have HT : Hid ((Q.map (·.1)).take (i + 1) = (Q.map (·.1)).take i ++ [K[S.length + i].1]) := by
              have h0 := HKi.out i hlt hsi
              obtain ⟨hi2, he⟩ := List.getElem?_eq_some_iff.1 h0
              show _ = _
              rw [List.take_succ_eq_append_getElem hi2, he]
            have hKl9 : (K.length : Int) ≤ 8 := by omega
            have hNK : 0 ≤ N - (K.length : Int) := by omega
            have hIx : 0 ≤ nx + (i : Int) - (N - (K.length : Int)) := by omega
            have hPB : Hid (P.length ≤ 8) := by show _ ≤ _; omega
            have hPB2 : Hid (P.length ≤ i ∧ i ≤ P.length ∧ i < j) := ⟨hPl.1, hPl.2, hlt⟩
            have cPw : ∀ w1, Below w5.heap.size w5 w1 → Calls Tryd.prog 33 #[.agg #[.int .i64 ep, .int .i64 N, .slice ka K.length kc, .slice qb dn qd, .int .i64 hd], .int .i64 (IntKind.i64.wrap (nx + (i : Int) - IntKind.i64.wrap (N - (K.length : Int))))] w1 fun r w' => ∃ u, r = .returned (.agg #[.int .i64 ep, .int .i64 (nx + (i : Int)), .bool false, .int .i64 hd, .int .i64 K[S.length + i].1.kind, .int .i64 K[S.length + i].1.heard, .int .i64 K[S.length + i].1.epoch, u, .string K[S.length + i].1.text]) ∧ w'.ownsRow w1.heap.size 63 3 u K[S.length + i].1.op.length (partCells K[S.length + i].1.op) ∧ Below w1.heap.size w1 w' := fun w1 hb1 => by
              have := cP w1 hb1
              rw [show N - (K.length : Int) + ((S.length + i : Nat) : Int) = nx + (i : Int) by omega] at this
              rw [show IntKind.i64.wrap (nx + (i : Int) - IntKind.i64.wrap (N - (K.length : Int))) = ((S.length + i : Nat) : Int) by rw [show IntKind.i64.wrap (N - (K.length : Int)) = N - (K.length : Int) by rw [IntKind.wrap_i64]; omega, IntKind.wrap_i64]; omega]
              exact this
            generalize K[S.length + i] = x at *
            obtain ⟨f, u⟩ := x
            simp only at cPw HT
            have hwl : w.heap.size < w5.heap.size := by omega
            have toS : ∀ w', Below w5.heap.size w5 w' → (fun w' => w'.cell? ⟨w.heap.size, 0, none⟩ = some (.int .i64 ep) ∧ w'.cell? ⟨w.heap.size, 1, none⟩ = some (.int .i64 N) ∧ w'.cell? ⟨w.heap.size, 2, none⟩ = some (.slice ka K.length kc) ∧ w'.cell? ⟨w.heap.size, 3, none⟩ = some (.slice qb dn qd) ∧ w'.cell? ⟨w.heap.size, 4, none⟩ = some (.int .i64 hd) ∧ w'.cell? ⟨b, off + i, none⟩ = some (.int .i64 (nx + (i : Int))) ∧ Below w5.heap.size w5 w') w' := fun w' hb' => by
              have g : ∀ j, w'.cell? ⟨w.heap.size, j, none⟩ = w5.cell? ⟨w.heap.size, j, none⟩ := fun j => hb'.cell (p := ⟨w.heap.size, j, none⟩) hwl
              exact ⟨(g 0).trans (l0 0), (g 1).trans (l0 1), (g 2).trans (l0 2), (g 3).trans (l0 3), (g 4).trans (l0 4), (hb'.cell (p := ⟨b, off + i, none⟩) hbn).trans hxc, hb'⟩
            have toSh : Hid (∀ w', Below w5.heap.size w5 w' → (fun w' => w'.cell? ⟨w.heap.size, 0, none⟩ = some (.int .i64 ep) ∧ w'.cell? ⟨w.heap.size, 1, none⟩ = some (.int .i64 N) ∧ w'.cell? ⟨w.heap.size, 2, none⟩ = some (.slice ka K.length kc) ∧ w'.cell? ⟨w.heap.size, 3, none⟩ = some (.slice qb dn qd) ∧ w'.cell? ⟨w.heap.size, 4, none⟩ = some (.int .i64 hd) ∧ w'.cell? ⟨b, off + i, none⟩ = some (.int .i64 (nx + (i : Int))) ∧ Below w5.heap.size w5 w') w') := toS
            have hbd : Below w5.heap.size w5 wr.drew := hb.trans ⟨rfl, rfl, rfl, Nat.le_refl _, fun _ _ => rfl⟩
            have hS0 := toS _ hbd
            have hPd : RowK pkS wr.drew w5.heap.size (.slice oa P.length oc) P := hP.below ⟨rfl, rfl, rfl, Nat.le_refl _, fun _ _ => rfl⟩
            have hplP : P.length ≤ 8 := hPB.out
            generalize hpl : f.op.length = pn at *
            have HPN : Hid (f.op.length = pn) := hpl
            clear hsi hlt hPl cA hKl hKS cP hpl toS hlr lr llr lfr hxr hP l0 ll0 lf0 hrr
            go_wp2_with fail
            go_region_held3 (fun w' => w'.cell? ⟨w.heap.size, 0, none⟩ = some (.int .i64 ep) ∧ w'.cell? ⟨w.heap.size, 1, none⟩ = some (.int .i64 N) ∧ w'.cell? ⟨w.heap.size, 2, none⟩ = some (.slice ka K.length kc) ∧ w'.cell? ⟨w.heap.size, 3, none⟩ = some (.slice qb dn qd) ∧ w'.cell? ⟨w.heap.size, 4, none⟩ = some (.int .i64 hd) ∧ w'.cell? ⟨b, off + i, none⟩ = some (.int .i64 (nx + (i : Int))) ∧ Below w5.heap.size w5 w') (with_reducible first | exact hS0 | assumption | exact toSh.out _ hb7 | exact toSh.out _ (hb7.alloc hb7.size _)) (first | (go_at_call 33; with_reducible refine Calls.mono (cPw _ hbd) ?_; rintro e w6 ⟨xu, rfl, hox, hb6⟩; have hb7 := below_two hbd hb6 (Nat.le_refl _); have hoy := own_form hox; obtain ⟨xa, xc, rfl⟩ := hoy; have hP6 := hPd.below hb6; have hrw := hP6.ownPk; have hz6 := hb7.size) | (refine step_append_lies _ (by rfl) _ _ _ (by rfl) w5.heap.size 30 p0 _ 9 96 Tryd.underlying32 hp0 hpz0 hpz1 hpz2 rfl (by omega) (.slice oa P.length oc) P.length (pkS.all P) (by rfl) (hrw.alloc _) ⟨w6.heap.size, 0, none⟩ 1 1 [.int .i64 ep, .int .i64 (nx + (i : Int)), .bool false, .int .i64 hd, .int .i64 f.kind, .int .i64 f.heard, .int .i64 f.epoch, .slice xa pn xc, .string f.text] (by rfl) (by rfl) (World.news_of_block (cs := #[.int .i64 ep, .int .i64 (nx + (i : Int)), .bool false, .int .i64 hd, .int .i64 f.kind, .int .i64 f.heard, .int .i64 f.epoch, .slice xa pn xc, .string f.text]) (t := 30) (fr := (0, 0)) (heap_alloc_new w6 _)) (by simp [Value.oneCell']) (by omega) (by unfold maxLen; omega) (by omega) (by simp; omega) (w6.heap.size + 1) (by simp) ?_; intro g1 cap1 w7 hown7 hgr7 hat7 hlt7; have hb8 := (hb7.alloc hb7.size _).grown hgr7 (by simp; omega) (fun k e => (hrw.lt k e).1); have hS8 := toSh.out _ hb8))
            rw [← HPN.out] at hown7 hgr7 hox
            have ho6 := own_base hox hbd.size
            have hP7 := RowK.app (x := ((⟨ep, nx + (i : Int), false, hd, f⟩, Value.slice xa f.op.length xc) : PkK)) hP6 ho6 hown7 hgr7
            have HP7 : Hid ((P ++ [((⟨ep, nx + (i : Int), false, hd, f⟩, Value.slice xa f.op.length xc) : PkK)]).map (·.1) = packs ep hd nx ((Q.map (·.1)).take (i + 1))) := by
              have hlq : ((Q.map (·.1)).take i).length = i := by rw [List.length_take, HQl.out]; omega
              show _ = _
              rw [HT.out, List.map_append, packs_append, ← HP.out, hlq]
              rfl
            go_wp2_with fail
            go_roundg (j - i - 1)
            case measure => have := hPB2.out; omega
            case rel => exact ⟨i + 1, _, by have := hPB2.out; omega, by go_num, hP7, by have := hPB2.out; simp; omega, HP7, hb8⟩
          · have hiz : ¬ (i : Int) < (j : Int) := by omega
            have hij : i = j := by omega
            subst hij
            obtain ⟨hfin, hs7⟩ := puts_all hrr [.int .i64 ep, .int .i64 N, .slice ka K.length kc, .slice qb dn qd, .int .i64 hd] rfl
            simp only [puts, Nat.zero_add, Nat.reduceAdd] at hfin hs7
            have hK7 := (hK.below hb).stored hrr (by decide) (by decide) hs7
            have hD7 := (hD'.out.below hb).stored hrr (by decide) (by decide) hs7
            have hP7 := (hP.stored hrr (by decide) (by decide) hs7).base (show w.heap.size ≤ w5.heap.size by omega)
            have HB7 := below_two HB hb (by omega)
            have HB8 := HB7.trans (hs7.below (B := w.heap.size) (fun k e => by omega) HB7.size)
            have HGK : Hid (GoOk _ B w.heap.size (.slice ka K.length kc) (.slice qb dn qd) (.slice oa P.length oc) G) := ⟨K, D, P, hK7, by rw [HGO.out, HK9.out], hD7, by rw [HGO.out, HD9.out], hP7, by rw [HGO.out, HP.out]⟩
            have HN2 : Hid (N = nx + (i : Int)) := HNN
            obtain ⟨r0, rl0, rf0⟩ := blk hrr
            clear hK7 hD7 hP7 hs7 hP HP hPl hKl hKS hNS HNN cA HKi HX fK HK9
            generalize P.length = pn at *
            generalize K.length = kn at *
            go_wp2_with fail
            generalize (((((wr.setCell ⟨w.heap.size + 1, 0, none⟩ (.int .i64 ep)).setCell ⟨w.heap.size + 1, 1, none⟩ (.int .i64 N)).setCell ⟨w.heap.size + 1, 2, none⟩ (.slice ka kn kc)).setCell ⟨w.heap.size + 1, 3, none⟩ (.slice qb dn qd)).setCell ⟨w.heap.size + 1, 4, none⟩ (.int .i64 hd)) = w9 at *
            obtain ⟨t9, _, _⟩ := blk hfin
            exact bodyPost_ret (v := .tuple #[.agg #[.int .i64 ep, .int .i64 N, .slice ka kn kc, .slice qb dn qd, .int .i64 hd], .slice oa pn oc]) (by simp [results, Tryd.results20, go_sem, t9]) rfl ⟨_, _, _, by rw [HN2.out], HGK, HB8⟩

end Go.Proofs.YtnpjcdfkjgenbaaDoor
