/-
  Walks: link.eachSent, for whatever function; the two functions of link.behind.
  Walk: link.behind.
-/
import Derived.Test.YtnpjcdfkjgenbaaDoorLinkCopy
namespace Go.Proofs.YtnpjcdfkjgenbaaDoor
open Go.RowKit Go.Lib

set_option maxRecDepth 100000 in
set_option maxHeartbeats 1000000 in
theorem eachSent_any {B : Nat} (ep nx hd : Int) (S : List FrK) (sv : Value) (qa : Option Addr) (qn qc : Nat) (fid pa pb : Nat) (w : World) (P : Nat → World → Prop)
    (eg : ∀ args w, (callFunc fid args).run Tryd.prog w = .ok (.enter fid args) w)
    (hS : InK frS w B sv S) (hnx : (S.length : Int) ≤ nx ∧ nx ≤ 1048576)
    (hP0 : ∀ o, P 0 (w.alloc o)) (hal : ∀ i wr o, P i wr → P i (wr.alloc o)) (hrd : ∀ i wr, P i wr → InK frS wr B sv S)
    (hst : ∀ i (h : i < S.length) wr, P i wr → Calls Tryd.prog fid #[.int .i64 (nx - (S.length : Int) + (i : Int)), .agg #[.int .i64 S[i].1.kind, .int .i64 S[i].1.heard, .int .i64 S[i].1.epoch, S[i].2, .string S[i].1.text], .pointer (some ⟨pa, 0, none⟩), .pointer (some ⟨pb, 0, none⟩)] wr fun e w' => e = .returned (.tuple #[]) ∧ P (i + 1) w') :
    Calls Tryd.prog 26 #[.agg #[.int .i64 ep, .int .i64 nx, sv, .slice qa qn qc, .int .i64 hd], .func (.func fid) #[] #[.pointer (some ⟨pa, 0, none⟩), .pointer (some ⟨pb, 0, none⟩)]] w fun e w' => e = .returned (.tuple #[]) ∧ P S.length w' := by
  obtain ⟨sa, sc, rfl, hlc, _, _⟩ := hS.row
  have hp := heap_alloc_new w (.cells #[.int .i64 ep, .int .i64 nx, .slice sa S.length sc, .slice qa qn qc, .int .i64 hd] 24)
  have hP := hP0 (.cells #[.int .i64 ep, .int .i64 nx, .slice sa S.length sc, .slice qa qn qc, .int .i64 hd] 24)
  obtain ⟨q0, ql0, _⟩ := blk hp
  have hz := hnx.1
  have hz2 := hnx.2
  clear hP0
  go_enter Tryd.func26, Tryd.ntmps26
  go_wp2_with fail
  generalize (w.alloc (.cells #[.int .i64 ep, .int .i64 nx, .slice sa S.length sc, .slice qa qn qc, .int .i64 hd] 24)) = w0 at *
  go_loopg [16] S.length (fun g iv wr => ∃ i : Nat, i + g = S.length ∧ iv = .int .i64 (i : Int) ∧ P i wr)
  case atStart => exact ⟨0, by omega, rfl, hP⟩
  case round =>
    obtain ⟨i, hi, rfl, hPi⟩ := hrel
    by_cases hlt : i < S.length
    · have hiz : (i : Int) < (S.length : Int) := by omega
      have hi0 : (0 : Int) ≤ (i : Int) := by omega
      have h := hrd i wr hPi
      obtain ⟨b, off, c', ea, hbl, _, c0, c1, c2, c3, c4⟩ := fr_get h hlt
      simp only [Value.slice.injEq, true_and] at ea
      obtain ⟨rfl, rfl⟩ := ea
      have hov : OpVal wr S[i].2 S[i].1.op := (h.each S[i] (List.getElem_mem hlt)).op
      have cW := hst i hlt
      have hsum : nx - (S.length : Int) + (i : Int) ≤ 1048576 := by omega
      have hsum0 : 0 ≤ nx - (S.length : Int) + (i : Int) := by omega
      generalize S[i] = x at *
      obtain ⟨f, u⟩ := x
      simp only at c0 c1 c2 c3 c4 hov cW
      obtain ⟨ua, uc, rfl, _⟩ := hov.form
      have hP2 := hal i wr (.cells #[.int .i64 f.kind, .int .i64 f.heard, .int .i64 f.epoch, .slice ua f.op.length uc, .string f.text] 28) hPi
      have hfb := heap_alloc_new wr (.cells #[.int .i64 f.kind, .int .i64 f.heard, .int .i64 f.epoch, .slice ua f.op.length uc, .string f.text] 28)
      have cW2 := cW _ hP2
      obtain ⟨f0, fl0, _⟩ := blk hfb
      clear hst hal hrd h hov cW hP2 q0 ql0
      go_wp2_with (go_at_fn fid; refine cW2.mono ?_; rintro r w1 ⟨rfl, hP3⟩)
      go_wp2_with fail
      go_roundg (S.length - i - 1)
      case measure => omega
      case rel => exact ⟨i + 1, by omega, by go_num, hP3⟩
    · have hiz : ¬ (i : Int) < (S.length : Int) := by omega
      obtain rfl : i = S.length := by omega
      clear hst hal hrd q0 ql0
      go_wp2_with fail
      go_end0
      exact ⟨rfl, hPi⟩

set_option maxRecDepth 100000 in
set_option maxHeartbeats 1000000 in
theorem behind1_any (n ack came : Int) (f : FrI) (ua : Option Addr) (un uc : Nat) (pa pb : Nat) (w : World) (ha : w.heap[pa]? = some (.cells #[.int .i64 ack] 3 (0, 0))) (hb : w.heap[pb]? = some (.cells #[.int .i64 came] 3 (0, 0))) (_hne : pa ≠ pb) :
    Calls Tryd.prog 27 #[.int .i64 n, .agg #[.int .i64 f.kind, .int .i64 f.heard, .int .i64 f.epoch, .slice ua un uc, .string f.text], .pointer (some ⟨pa, 0, none⟩), .pointer (some ⟨pb, 0, none⟩)] w fun e w' => e = .returned (.tuple #[]) ∧ w'.heap[pb]? = some (.cells #[.int .i64 (if n = ack then ack else came)] 3 (0, 0)) ∧ Chg (fun k => k = pb) w w' := by
  have ha1 := row_old ha (.cells #[.int .i64 f.kind, .int .i64 f.heard, .int .i64 f.epoch, .slice ua un uc, .string f.text] 28)
  have hb1 := row_old hb (.cells #[.int .i64 f.kind, .int .i64 f.heard, .int .i64 f.epoch, .slice ua un uc, .string f.text] 28)
  have hc0 : Chg (fun k => k = pb) w (w.alloc (.cells #[.int .i64 f.kind, .int .i64 f.heard, .int .i64 f.epoch, .slice ua un uc, .string f.text] 28)) := (Chg.refl _ w).alloc _
  have hb2 : ((w.alloc (.cells #[.int .i64 f.kind, .int .i64 f.heard, .int .i64 f.epoch, .slice ua un uc, .string f.text] 28)).setCell ⟨pb, 0, none⟩ (.int .i64 ack)).heap[pb]? = some (.cells #[.int .i64 ack] 3 (0, 0)) := (blk_put hb1 0 (.int .i64 ack)).1
  have hc2 := hc0.trans (blk_put hb1 0 (.int .i64 ack)).2 (fun _ _ h => h)
  obtain ⟨a0, al0, _⟩ := blk ha1
  obtain ⟨b0, bl0, bf0⟩ := blk hb1
  by_cases h : n = ack
  · subst h
    rw [if_pos rfl]
    go_enter Tryd.func27, Tryd.ntmps27
    go_wp2_with fail
    go_end0
    exact ⟨rfl, hb2, hc2⟩
  · rw [if_neg h]
    have g : (n == ack) = false := by simpa using h
    clear hb2 hc2
    go_enter Tryd.func27, Tryd.ntmps27
    go_wp2_with fail
    go_end0
    exact ⟨rfl, hb1, hc0⟩

/-- blocks of another type stay -/
def KeptT (pb : Nat) (w w' : World) : Prop := ∀ k cs T, k ≠ pb → T ≠ 28 → T ≠ 63 → w.heap[k]? = some (.cells cs T (0, 0)) → w'.heap[k]? = some (.cells cs T (0, 0))
theorem KeptT.trans {pb : Nat} {a b c : World} (h : KeptT pb a b) (k : KeptT pb b c) : KeptT pb a c := fun i cs T h1 h2 h3 e => k i cs T h1 h2 h3 (h i cs T h1 h2 h3 e)
theorem KeptT.of_below {pb : Nat} {w w' : World} (hb : Below w.heap.size w w') : KeptT pb w w' := fun k _ _ _ _ _ e => (hb.block k (Array.getElem?_eq_some_iff.1 e).1).trans e

set_option maxRecDepth 100000 in
set_option maxHeartbeats 1000000 in
theorem behind2_stay (n came : Int) (hlt : ¬ came < n) (f : FrI) (ua : Option Addr) (un uc : Nat) (pa pb : Nat) (w : World) (ha : w.heap[pa]? = some (.cells #[.int .i64 came] 3 (0, 0))) :
    Calls Tryd.prog 28 #[.int .i64 n, .agg #[.int .i64 f.kind, .int .i64 f.heard, .int .i64 f.epoch, .slice ua un uc, .string f.text], .pointer (some ⟨pa, 0, none⟩), .pointer (some ⟨pb, 0, none⟩)] w fun e w' => e = .returned (.tuple #[]) ∧ Below w.heap.size w w' := by
  have ha1 := row_old ha (.cells #[.int .i64 f.kind, .int .i64 f.heard, .int .i64 f.epoch, .slice ua un uc, .string f.text] 28)
  have hb0 := (Below.refl w.heap.size w).alloc (Nat.le_refl _) (.cells #[.int .i64 f.kind, .int .i64 f.heard, .int .i64 f.epoch, .slice ua un uc, .string f.text] 28)
  obtain ⟨a0, al0, _⟩ := blk ha1
  go_enter Tryd.func28, Tryd.ntmps28
  go_wp2_with fail
  go_end0
  exact ⟨rfl, hb0⟩

set_option maxRecDepth 100000 in
set_option maxHeartbeats 2000000 in
theorem behind2_go (n came : Int) (hlt : came < n) (f : FrI) (v : Value) (ep nx hd : Int) (K : List FrK) (nv : Value) (M pa pb : Nat) (w : World) (ha : w.heap[pa]? = some (.cells #[.int .i64 came] 3 (0, 0))) (hn : w.heap[pb]? = some (.cells #[.int .i64 ep, .int .i64 nx, nv, .slice none 0 0, .int .i64 hd] 24 (0, 0))) (hK : RowK frS w M nv K) (hM : M ≤ pb) (hKl : K.length ≤ 1048576) (ho : OpVal w v f.op) (hs : f.op.length ≤ 1048577) :
    Calls Tryd.prog 28 #[.int .i64 n, .agg #[.int .i64 f.kind, .int .i64 f.heard, .int .i64 f.epoch, v, .string f.text], .pointer (some ⟨pa, 0, none⟩), .pointer (some ⟨pb, 0, none⟩)] w fun e w' => e = .returned (.tuple #[]) ∧ ∃ nv' u, w'.heap[pb]? = some (.cells #[.int .i64 ep, .int .i64 nx, nv', .slice none 0 0, .int .i64 hd] 24 (0, 0)) ∧ RowK frS w' M nv' (K ++ [(f, u)]) ∧ Below M w w' ∧ KeptT pb w w' := by
  obtain ⟨i0, hi0, hzz0, hzz1, hzz2⟩ := info_parts info_fr
  obtain ⟨ua, uc, rfl, _⟩ := ho.form
  have ha1 := row_old ha (.cells #[.int .i64 f.kind, .int .i64 f.heard, .int .i64 f.epoch, .slice ua f.op.length uc, .string f.text] 28)
  have hn1 := row_old hn (.cells #[.int .i64 f.kind, .int .i64 f.heard, .int .i64 f.epoch, .slice ua f.op.length uc, .string f.text] 28)
  have hb0 := (Below.refl w.heap.size w).alloc (Nat.le_refl _) (.cells #[.int .i64 f.kind, .int .i64 f.heard, .int .i64 f.epoch, .slice ua f.op.length uc, .string f.text] 28)
  have hf1 := heap_alloc_new w (.cells #[.int .i64 f.kind, .int .i64 f.heard, .int .i64 f.epoch, .slice ua f.op.length uc, .string f.text] 28)
  have hK1 := hK.below hb0
  have cC := fun (wx : World) (hx : Below (w.alloc (.cells #[.int .i64 f.kind, .int .i64 f.heard, .int .i64 f.epoch, .slice ua f.op.length uc, .string f.text] 28)).heap.size (w.alloc (.cells #[.int .i64 f.kind, .int .i64 f.heard, .int .i64 f.epoch, .slice ua f.op.length uc, .string f.text] 28)) wx) => copyOf_any f (.slice ua f.op.length uc) wx ((ho.below hb0).below hx) hs
  have hrw : (w.alloc (.cells #[.int .i64 f.kind, .int .i64 f.heard, .int .i64 f.epoch, .slice ua f.op.length uc, .string f.text] 28)).ownsRow M 28 5 nv K.length (frS.all K) := hK1.row
  obtain ⟨oa, oc, rfl⟩ := own_form hrw
  have hMz : M ≤ w.heap.size := Nat.le_trans hM (Nat.le_of_lt (Array.getElem?_eq_some_iff.1 hn).1)
  have hz1 : (w.alloc (.cells #[.int .i64 f.kind, .int .i64 f.heard, .int .i64 f.epoch, .slice ua f.op.length uc, .string f.text] 28)).heap.size = w.heap.size + 1 := by simp
  obtain ⟨a0, al0, _⟩ := blk ha1
  obtain ⟨n0, nl0, nf0⟩ := blk hn1
  obtain ⟨f0, fl0, _⟩ := blk hf1
  go_enter Tryd.func28, Tryd.ntmps28
  go_wp2_with fail
  generalize (w.alloc (.cells #[.int .i64 f.kind, .int .i64 f.heard, .int .i64 f.epoch, .slice ua f.op.length uc, .string f.text] 28)) = wr at *
  have hdd : Below wr.heap.size wr wr.drew := ⟨rfl, rfl, rfl, Nat.le_refl _, fun _ _ => rfl⟩
  have hnd : wr.drew.heap[pb]? = some (.cells #[.int .i64 ep, .int .i64 nx, .slice oa K.length oc, .slice none 0 0, .int .i64 hd] 24 (0, 0)) := hn1
  generalize hpl : f.op.length = pn at *
  have HPN : Hid (f.op.length = pn) := hpl
  clear hpl
  go_region_law (first | (go_simp; go_at_call 13; with_reducible refine Calls.mono (cC _ hdd) ?_; rintro e wz ⟨u, rfl, hou, hbz⟩; have hlz := (hbz.block _ (Array.getElem?_eq_some_iff.1 hnd).1).trans hnd; have hbkz := blk hlz; obtain ⟨lz, llz, lfz⟩ := hbkz; have hof := own_form hou; obtain ⟨xa, xc, rfl⟩ := hof; have hrz := own_below (own_drew hrw) hbz) | (refine step_append_lies _ (by rfl) _ _ _ (by rfl) M 28 i0 _ 5 64 Tryd.underlying22 hi0 hzz0 hzz1 hzz2 rfl (by omega) (.slice oa K.length oc) K.length (frS.all K) (by rfl) (hrz.alloc _) ⟨wz.heap.size, 0, none⟩ 1 1 [.int .i64 f.kind, .int .i64 f.heard, .int .i64 f.epoch, .slice xa pn xc, .string f.text] (by rfl) (by rfl) (World.news_of_block (cs := #[.int .i64 f.kind, .int .i64 f.heard, .int .i64 f.epoch, .slice xa pn xc, .string f.text]) (t := 28) (fr := (0, 0)) (heap_alloc_new wz _)) (by simp [Value.oneCell']) (by omega) (by unfold maxLen; omega) (by omega) (by have := hbz.size; have : wr.drew.heap.size = wr.heap.size := rfl; simp; omega) (wz.heap.size + 1) (by simp) ?_; intro g1 cap1 w4 hown4 hgr4 hat4 hlt4; have blk4 := row_kept (hrz.alloc _) (row_old hlz _) (by decide) hgr4; have hbk4 := blk blk4; obtain ⟨l4, ll4, lf4⟩ := hbk4))
  all_goals
    have hzz : wr.heap.size ≤ wz.heap.size := hbz.size
    have hn5 : (w4.setCell ⟨pb, 2, none⟩ (.slice (some ⟨g1, 0, none⟩) (K.length + 1) cap1)).heap[pb]? = some (.cells #[.int .i64 ep, .int .i64 nx, .slice (some ⟨g1, 0, none⟩) (K.length + 1) cap1, .slice none 0 0, .int .i64 hd] 24 (0, 0)) := (blk_put blk4 2 (.slice (some ⟨g1, 0, none⟩) (K.length + 1) cap1)).1
    have hs5 := (blk_put blk4 2 (.slice (some ⟨g1, 0, none⟩) (K.length + 1) cap1)).2
    have kk : KeptT pb wr (w4.setCell ⟨pb, 2, none⟩ (.slice (some ⟨g1, 0, none⟩) (K.length + 1) cap1)) := fun k cs T hk hT1 _ h => hs5.row (row_kept (hrz.alloc _) (row_old ((hbz.block k (Array.getElem?_eq_some_iff.1 h).1).trans h) _) hT1 hgr4) hk
    have hKz := hK1.below (below_two hdd hbz (Nat.le_refl _))
    have hou' := own_base hou (show M ≤ wr.drew.heap.size by show M ≤ wr.heap.size; omega)
    rw [← HPN.out] at hou' hown4 hgr4
    have hK4 := (RowK.app (x := ((f, Value.slice xa f.op.length xc) : FrK)) hKz hou' hown4 hgr4).stored blk4 (by decide) (by decide) hs5
    have HB5 : Below M w (w4.setCell ⟨pb, 2, none⟩ (.slice (some ⟨g1, 0, none⟩) (K.length + 1) cap1)) := ((((below_two (hb0.mono hMz) (below_two hdd hbz (Nat.le_refl _)) hMz).alloc (by omega) _).grown hgr4 (by simp; omega) (fun k e => (hrw.lt k e).1)).trans (hs5.below (fun k e => by omega) (by have := hgr4.size; simp at this; omega)))
    clear hrz hown4 hgr4 hat4 blk4 l4 ll4 lf4 hs5 hKz hou hou' hbz lz llz lfz hlz
    generalize (w4.setCell ⟨pb, 2, none⟩ (.slice (some ⟨g1, 0, none⟩) (K.length + 1) cap1)) = w5 at *
    go_wp2_with fail
    go_end0
    exact ⟨rfl, _, _, hn5, hK4, HB5, (KeptT.of_below hb0).trans kk⟩

/-- blocks one behind the other -/
def Blks (w : World) (M : Nat) (os : List Obj) : Prop := ∀ i o, os[i]? = some o → w.heap[M + i]? = some o
theorem Blks.below {w w' : World} {M : Nat} {os : List Obj} (h : Blks w M os) (hb : Below w.heap.size w w') : Blks w' M os := fun i o e => (hb.block _ (Array.getElem?_eq_some_iff.1 (h i o e)).1).trans (h i o e)
theorem Blks.alloc {w : World} {M : Nat} {os : List Obj} (h : Blks w M os) (o : Obj) : Blks (w.alloc o) M os := fun i x e => row_old (h i x e) o
theorem Blks.more {w : World} {M : Nat} {os : List Obj} (h : Blks w M os) (o : Obj) (hz : w.heap.size = M + os.length) : Blks (w.alloc o) M (os ++ [o]) := by
  intro i x e
  by_cases hi : i < os.length
  · rw [List.getElem?_append_left hi] at e
    exact row_old (h i x e) o
  · have hi2 : i < (os ++ [o]).length := (List.getElem?_eq_some_iff.1 e).1
    simp at hi2
    have : i = os.length := by omega
    subst this
    rw [List.getElem?_append_right (Nat.le_refl _), Nat.sub_self] at e
    cases e
    have := heap_alloc_new w o
    rw [hz] at this
    exact this
/-- a store into one of them -/
theorem Blks.chg {w w' : World} {M j : Nat} {os : List Obj} {o : Obj} (h : Blks w M os) (hc : Chg (fun k => k = M + j) w w') (ho : w'.heap[M + j]? = some o) : Blks w' M (os.set j o) := by
  intro i x e
  by_cases hi : i = j
  · subst hi
    have hl : i < os.length := by have := (List.getElem?_eq_some_iff.1 e).1; simpa using this
    rw [List.getElem?_set_self hl] at e
    cases e
    exact ho
  · rw [List.getElem?_set_ne (fun e => hi e.symm)] at e
    exact hc.row (h i x e) (fun e => hi (by omega))
/-- another row grows -/
theorem RowK.other {α : Type} {S : Shape α} {w w' : World} {B : Nat} {v : Value} {K : List α} {o : Obj} {v2 : Value} {B2 T2 size2 n2 : Nat} {xs2 : List Value} (h : RowK S w B v K) (h2 : w.ownsRow B2 T2 size2 v2 n2 xs2) (hg : (w.alloc o).grownBy w' v2.ownBlock) (hT : T2 ≠ 63) (hne : ∀ k, v.ownBlock = some k → v2.ownBlock ≠ some k) : RowK S w' B v K := by
  have hch : Chg (fun k => v2.ownBlock = some k) w w' := ((Chg.refl _ w).alloc _).grown hg (fun k _ e => e)
  refine ⟨own_chg h.row hch (fun k hk e => hne k hk e), fun x hx => ?_⟩
  exact own_chg (h.each x hx) hch (own_ne (own_base (h.each x hx) (Nat.zero_le _)) (own_base h2 (Nat.zero_le _)) (Ne.symm hT))

/-- the two rows of a link, one's own: that of Queue lies behind that of Sent -/
structure LinkRows (w : World) (B : Nat) (sv qv : Value) (S0 Q0 : List FrI) : Prop where
  ex : ∃ (S Q : List FrK) (m : Nat), RowK frS w B sv S ∧ S.map (·.1) = S0 ∧ (∀ k, sv.ownBlock = some k → k < m) ∧ RowK frS w m qv Q ∧ Q.map (·.1) = Q0 ∧ B ≤ m ∧ m ≤ w.heap.size

def cameAt (fst ack : Int) (i : Nat) : Int := if fst ≤ ack ∧ ack < fst + (i : Int) then ack else 0
theorem cameAt_next (fst ack : Int) (i : Nat) : (if fst + (i : Int) = ack then ack else cameAt fst ack i) = cameAt fst ack (i + 1) := by
  unfold cameAt
  by_cases h : fst + (i : Int) = ack
  · rw [if_pos h, if_pos (by omega)]
  · rw [if_neg h]
    by_cases g : fst ≤ ack ∧ ack < fst + (i : Int)
    · rw [if_pos g, if_pos (by omega)]
    · rw [if_neg g, if_neg (by omega)]
/-- those behind the ones that came -/
theorem came_later {nx ack : Int} {s i : Nat} (_hi : i < s) (hs : (s : Int) < nx) (l : LinkI) (hl : l.sent.length = s) (hn : l.next = nx) : (cameAt (nx - s) ack s < nx - s + (i : Int)) ↔ cameN l ack ≤ i := by
  unfold cameAt cameN
  rw [hl, hn]
  split <;> split <;> omega

set_option maxRecDepth 100000 in
set_option maxHeartbeats 4000000 in
theorem behind_any {B : Nat} (ep nx hd ack : Int) (S Q : List FrK) (sv qv : Value) (w : World) (hS : InK frS w B sv S) (hQ : InK frS w B qv Q) (fS : ∀ x ∈ S, x.1.op.length ≤ 1048577) (fQ : ∀ x ∈ Q, x.1.op.length ≤ 1048577) (_lS : S.length ≤ 8) (lQ : Q.length ≤ 1048576) (hn : (S.length : Int) < nx ∧ nx ≤ 1048576) :
    Calls Tryd.prog 12 #[.agg #[.int .i64 ep, .int .i64 nx, sv, qv, .int .i64 hd], .int .i64 ack] w fun r w' => ∃ sv' qv', r = .returned (.agg #[.int .i64 ep, .int .i64 nx, sv', qv', .int .i64 hd]) ∧ LinkRows w' w.heap.size sv' qv' ((S.map (·.1)).drop (cameN (mkL ep nx hd S Q) ack)) (Q.map (·.1)) ∧ Below w.heap.size w w' := by
  have e1 : ∀ args w, (callFunc 27 args).run Tryd.prog w = .ok (.enter 27 args) w := enters_of Tryd.func27 (by kernel_rfl) rfl
  have e2 : ∀ args w, (callFunc 28 args).run Tryd.prog w = .ok (.enter 28 args) w := enters_of Tryd.func28 (by kernel_rfl) rfl
  obtain ⟨i0, hi0, hzz0, hzz1, hzz2⟩ := info_parts info_fr
  obtain ⟨sa, sc, rfl, _⟩ := hS.row
  obtain ⟨qa, qc, rfl, _⟩ := hQ.row
  obtain ⟨M, hM⟩ : ∃ M, M = w.heap.size := ⟨_, rfl⟩
  have hx1 := (Below.refl w.heap.size w).alloc (Nat.le_refl _) (.cells #[.int .i64 ep, .int .i64 nx, .slice sa S.length sc, .slice qa Q.length qc, .int .i64 hd] 24)
  have hx2 := hx1.alloc hx1.size (.cells #[.int .i64 ack] 3)
  have hx3 := hx2.alloc hx2.size (.cells #[.int .i64 0, .int .i64 0, .slice none 0 0, .slice none 0 0, .int .i64 0] 24)
  have hx4 := hx3.alloc hx3.size (.cells #[.int .i64 ep, .int .i64 nx, .slice none 0 0, .slice none 0 0, .int .i64 hd] 24)
  have hb0 := hx4.alloc hx4.size (.cells #[.int .i64 0] 3)
  clear hx1 hx2 hx3 hx4
  have hB0 : Blks (((((w.alloc (.cells #[.int .i64 ep, .int .i64 nx, .slice sa S.length sc, .slice qa Q.length qc, .int .i64 hd] 24)).alloc (.cells #[.int .i64 ack] 3)).alloc (.cells #[.int .i64 0, .int .i64 0, .slice none 0 0, .slice none 0 0, .int .i64 0] 24)).alloc (.cells #[.int .i64 ep, .int .i64 nx, .slice none 0 0, .slice none 0 0, .int .i64 hd] 24)).alloc (.cells #[.int .i64 0] 3)) M [Obj.cells #[.int .i64 ep, .int .i64 nx, .slice sa S.length sc, .slice qa Q.length qc, .int .i64 hd] 24 (0, 0), Obj.cells #[.int .i64 ack] 3 (0, 0), Obj.cells #[.int .i64 0, .int .i64 0, .slice none 0 0, .slice none 0 0, .int .i64 0] 24 (0, 0), Obj.cells #[.int .i64 ep, .int .i64 nx, .slice none 0 0, .slice none 0 0, .int .i64 hd] 24 (0, 0), Obj.cells #[.int .i64 0] 3 (0, 0)] := by
    have h0 : Blks w M [] := fun i o e => by simp at e
    have h1 := h0.more (.cells #[.int .i64 ep, .int .i64 nx, .slice sa S.length sc, .slice qa Q.length qc, .int .i64 hd] 24) (by simp [hM])
    have h2 := h1.more (.cells #[.int .i64 ack] 3) (by simp [hM])
    have h3 := h2.more (.cells #[.int .i64 0, .int .i64 0, .slice none 0 0, .slice none 0 0, .int .i64 0] 24) (by simp [hM])
    have h4 := h3.more (.cells #[.int .i64 ep, .int .i64 nx, .slice none 0 0, .slice none 0 0, .int .i64 hd] 24) (by simp [hM])
    exact h4.more (.cells #[.int .i64 0] 3) (by simp [hM])
  have hzW : (((((w.alloc (.cells #[.int .i64 ep, .int .i64 nx, .slice sa S.length sc, .slice qa Q.length qc, .int .i64 hd] 24)).alloc (.cells #[.int .i64 ack] 3)).alloc (.cells #[.int .i64 0, .int .i64 0, .slice none 0 0, .slice none 0 0, .int .i64 0] 24)).alloc (.cells #[.int .i64 ep, .int .i64 nx, .slice none 0 0, .slice none 0 0, .int .i64 hd] 24)).alloc (.cells #[.int .i64 0] 3)).heap.size = M + 5 := by simp [hM]
  -- the first walk over those that were sent
  let P1 : Nat → World → Prop := fun i wr => Blks wr M [Obj.cells #[.int .i64 ep, .int .i64 nx, .slice sa S.length sc, .slice qa Q.length qc, .int .i64 hd] 24 (0, 0), Obj.cells #[.int .i64 ack] 3 (0, 0), Obj.cells #[.int .i64 0, .int .i64 0, .slice none 0 0, .slice none 0 0, .int .i64 0] 24 (0, 0), Obj.cells #[.int .i64 ep, .int .i64 nx, .slice none 0 0, .slice none 0 0, .int .i64 hd] 24 (0, 0), Obj.cells #[.int .i64 (cameAt (nx - S.length) ack i)] 3 (0, 0)] ∧ Below M w wr
  have c1 : Calls Tryd.prog 26 #[.agg #[.int .i64 ep, .int .i64 nx, .slice sa S.length sc, .slice qa Q.length qc, .int .i64 hd], .func (.func 27) #[] #[.pointer (some ⟨M + 1, 0, none⟩), .pointer (some ⟨M + 4, 0, none⟩)]] (((((w.alloc (.cells #[.int .i64 ep, .int .i64 nx, .slice sa S.length sc, .slice qa Q.length qc, .int .i64 hd] 24)).alloc (.cells #[.int .i64 ack] 3)).alloc (.cells #[.int .i64 0, .int .i64 0, .slice none 0 0, .slice none 0 0, .int .i64 0] 24)).alloc (.cells #[.int .i64 ep, .int .i64 nx, .slice none 0 0, .slice none 0 0, .int .i64 hd] 24)).alloc (.cells #[.int .i64 0] 3)) fun e w' => e = .returned (.tuple #[]) ∧ P1 S.length w' := by
    refine eachSent_any (B := B) ep nx hd S _ qa Q.length qc _ (M + 1) (M + 4) _ P1 e1 (hS.below hb0) ⟨by omega, hn.2⟩ ?_ ?_ ?_ ?_
    · intro o
      refine ⟨?_, ?_⟩
      · have : cameAt (nx - S.length) ack 0 = 0 := by unfold cameAt; rw [if_neg (by omega)]
        rw [this]
        exact hB0.alloc o
      · rw [hM]; exact hb0.alloc hb0.size o
    · rintro i wr o ⟨h1, h2⟩
      exact ⟨h1.alloc o, h2.alloc (Nat.le_trans (by omega) h2.size) o⟩
    · rintro i wr ⟨h1, h2⟩
      rw [hM] at h2
      exact hS.below h2
    · rintro i hi wr ⟨h1, h2⟩
      have h2' := h2
      rw [hM] at h2'
      obtain ⟨ua, uc, eu, _⟩ := ((hS.below h2').each S[i] (List.getElem_mem hi)).op.form
      have eu' : S[i].2 = .slice ua S[i].1.op.length uc := eu
      rw [eu']
      refine (behind1_any (nx - (S.length : Int) + (i : Int)) ack (cameAt (nx - S.length) ack i) S[i].1 ua _ uc (M + 1) (M + 4) wr (h1 1 _ rfl) (h1 4 _ rfl) (by omega)).mono ?_
      rintro e w' ⟨rfl, h4, hc⟩
      refine ⟨rfl, ?_, h2.trans (hc.below (fun k e => by omega) (by have := h2.size; omega))⟩
      rw [cameAt_next] at h4
      exact h1.chg (j := 4) hc h4
  generalize hk : cameN (mkL ep nx hd S Q) ack = kk
  have hlater : ∀ i, i < S.length → ((cameAt (nx - S.length) ack S.length < nx - S.length + (i : Int)) ↔ kk ≤ i) := fun i hi => by
    rw [← hk]
    exact came_later hi hn.1 (mkL ep nx hd S Q) (by simp [mkL]) rfl
  clear hk
  obtain ⟨cm, hcm⟩ : ∃ cm, cm = cameAt (nx - S.length) ack S.length := ⟨_, rfl⟩
  rw [← hcm] at hlater
  -- the second one
  let P2 : Nat → World → Prop := fun i wr => (wr.heap[M]? = some (Obj.cells #[.int .i64 ep, .int .i64 nx, .slice sa S.length sc, .slice qa Q.length qc, .int .i64 hd] 24 (0, 0)) ∧ wr.heap[M + 2]? = some (Obj.cells #[.int .i64 0, .int .i64 0, .slice none 0 0, .slice none 0 0, .int .i64 0] 24 (0, 0)) ∧ wr.heap[M + 4]? = some (Obj.cells #[.int .i64 cm] 3 (0, 0))) ∧ Below M w wr ∧ ∃ nv K, wr.heap[M + 3]? = some (.cells #[.int .i64 ep, .int .i64 nx, nv, .slice none 0 0, .int .i64 hd] 24 (0, 0)) ∧ RowK frS wr M nv K ∧ K.length ≤ i ∧ K.map (·.1) = ((S.take i).drop kk).map (·.1)
  have c2 : ∀ wq, P2 0 wq → M ≤ wq.heap.size → Calls Tryd.prog 26 #[.agg #[.int .i64 ep, .int .i64 nx, .slice sa S.length sc, .slice qa Q.length qc, .int .i64 hd], .func (.func 28) #[] #[.pointer (some ⟨M + 4, 0, none⟩), .pointer (some ⟨M + 3, 0, none⟩)]] wq fun e w' => e = .returned (.tuple #[]) ∧ P2 S.length w' := by
    intro wq hq hzq
    have hal : ∀ i wr o, P2 i wr → P2 i (wr.alloc o) := by
      rintro i wr o ⟨⟨h1, h2, h3⟩, h4, nv, K, h5, h6, h7, h8⟩
      exact ⟨⟨row_old h1 o, row_old h2 o, row_old h3 o⟩, h4.alloc (Nat.le_trans (by omega) h4.size) o, nv, K, row_old h5 o, h6.below ((Below.refl _ _).alloc (Nat.le_refl _) o), h7, h8⟩
    have hrd : ∀ i wr, P2 i wr → InK frS wr B (.slice sa S.length sc) S := by
      rintro i wr ⟨_, h4, _⟩
      rw [hM] at h4
      exact hS.below h4
    refine eachSent_any (B := B) ep nx hd S _ qa Q.length qc _ (M + 4) (M + 3) wq P2 e2 (hrd 0 wq hq) ⟨by omega, hn.2⟩ (fun o => hal 0 wq o hq) hal hrd ?_
    rintro i hi wr ⟨⟨h1, h2, h3⟩, h4, nv, K, h5, h6, h7, h8⟩
    have h4' := h4
    rw [hM] at h4'
    have hov : OpVal wr S[i].2 S[i].1.op := ((hS.below h4').each S[i] (List.getElem_mem hi)).op
    by_cases hc : cm < nx - (S.length : Int) + (i : Int)
    · have hki := (hlater i hi).1 hc
      refine (behind2_go _ cm hc S[i].1 S[i].2 ep nx hd K nv M (M + 4) (M + 3) wr h3 h5 h6 (by omega) (by omega) hov (fS _ (List.getElem_mem hi))).mono ?_
      rintro e w' ⟨rfl, nv', u, g1, g2, g3, g4⟩
      refine ⟨rfl, ⟨g4 _ _ _ (by omega) (by decide) (by decide) h1, g4 _ _ _ (by omega) (by decide) (by decide) h2, g4 _ _ _ (by omega) (by decide) (by decide) h3⟩, h4.trans g3, nv', _, g1, g2, by simp; omega, ?_⟩
      rw [List.map_append, h8, List.take_succ_eq_append_getElem hi, List.drop_append_of_le_length (by rw [List.length_take]; omega), List.map_append]
      rfl
    · have hki : ¬ kk ≤ i := fun h => hc ((hlater i hi).2 h)
      obtain ⟨ua, uc, eu, _⟩ := hov.form
      rw [eu]
      refine (behind2_stay _ cm hc S[i].1 ua _ uc (M + 4) (M + 3) wr h3).mono ?_
      rintro e w' ⟨rfl, g3⟩
      have kb : ∀ {k : Nat} {o : Obj}, wr.heap[k]? = some o → w'.heap[k]? = some o := fun {k o} h => (g3.block k (Array.getElem?_eq_some_iff.1 h).1).trans h
      refine ⟨rfl, ⟨kb h1, kb h2, kb h3⟩, h4.trans (g3.mono (by have := h4.size; omega)), nv, K, kb h5, h6.below g3, by omega, ?_⟩
      rw [h8, List.drop_of_length_le (by rw [List.length_take]; omega), List.drop_of_length_le (by rw [List.length_take]; omega)]
  clear e1 e2 hlater hS fS
  subst hM
  have d0 : (((((w.alloc (.cells #[.int .i64 ep, .int .i64 nx, .slice sa S.length sc, .slice qa Q.length qc, .int .i64 hd] 24)).alloc (.cells #[.int .i64 ack] 3)).alloc (.cells #[.int .i64 0, .int .i64 0, .slice none 0 0, .slice none 0 0, .int .i64 0] 24)).alloc (.cells #[.int .i64 ep, .int .i64 nx, .slice none 0 0, .slice none 0 0, .int .i64 hd] 24)).alloc (.cells #[.int .i64 0] 3)).heap[w.heap.size]? = some (Obj.cells #[.int .i64 ep, .int .i64 nx, .slice sa S.length sc, .slice qa Q.length qc, .int .i64 hd] 24 (0, 0)) := hB0 0 _ rfl
  obtain ⟨b0, bl0, _⟩ := blk d0
  go_enter Tryd.func12, Tryd.ntmps12
  go_wp2_with fail
  refine c1.mono ?_
  rintro r w1 ⟨rfl, h1, h2⟩
  have g0 : w1.heap[w.heap.size]? = some (Obj.cells #[.int .i64 ep, .int .i64 nx, .slice sa S.length sc, .slice qa Q.length qc, .int .i64 hd] 24 (0, 0)) := h1 0 _ rfl
  have g2 : w1.heap[w.heap.size + 2]? = some (Obj.cells #[.int .i64 0, .int .i64 0, .slice none 0 0, .slice none 0 0, .int .i64 0] 24 (0, 0)) := h1 2 _ rfl
  have g3 : w1.heap[w.heap.size + 3]? = some (Obj.cells #[.int .i64 ep, .int .i64 nx, .slice none 0 0, .slice none 0 0, .int .i64 hd] 24 (0, 0)) := h1 3 _ rfl
  have g4 : w1.heap[w.heap.size + 4]? = some (Obj.cells #[.int .i64 cm] 3 (0, 0)) := by rw [hcm]; exact h1 4 _ rfl
  have hP2 : P2 0 w1 := ⟨⟨g0, g2, g4⟩, h2, .slice none 0 0, [], g3, rowK_nil _ _ _, Nat.zero_le _, by simp⟩
  have c3 := c2 w1 hP2 h2.size
  clear c1 c2 hB0 b0 bl0 d0 hzW h1 g2 g3 g4 hP2 hb0 P1
  obtain ⟨b0, bl0, _⟩ := blk g0
  go_wp2_with fail
  refine c3.mono ?_
  rintro r w2 ⟨rfl, ⟨k0, k2, _⟩, HB2, nv, K, k3, hK, hKl, hKm⟩
  have HK : Hid (K.map (·.1) = (S.map (·.1)).drop kk) := by show _ = _; rw [hKm, List.take_of_length_le (Nat.le_refl _), List.map_drop]
  have k2' : w2.heap[w.heap.size + 1 + 1]? = some (Obj.cells #[.int .i64 0, .int .i64 0, .slice none 0 0, .slice none 0 0, .int .i64 0] 24 (0, 0)) := k2
  have k3' : w2.heap[w.heap.size + 1 + 1 + 1]? = some (.cells #[.int .i64 ep, .int .i64 nx, nv, .slice none 0 0, .int .i64 hd] 24 (0, 0)) := k3
  clear c3 b0 bl0 g0 h2 hKm k2 k3 hcm P2
  obtain ⟨na, nc, rfl⟩ := own_form hK.row
  have hlow : ∀ k, (Value.slice na K.length nc).ownBlock = some k → k < w2.heap.size := fun k e => (hK.row.lt k e).2
  obtain ⟨b0, bl0, _⟩ := blk k0
  go_wp2_with fail
  go_loopg [25] Q.length (fun g iv wr => ∃ (j : Nat) (qx : Value) (KQ : List FrK), j + g = Q.length ∧ iv = .int .i64 (j : Int) ∧ wr.heap[w.heap.size + 1 + 1]? = some (Obj.cells #[.int .i64 0, .int .i64 0, .slice none 0 0, .slice none 0 0, .int .i64 0] 24 (0, 0)) ∧ wr.heap[w.heap.size + 1 + 1 + 1]? = some (.cells #[.int .i64 ep, .int .i64 nx, .slice na K.length nc, qx, .int .i64 hd] 24 (0, 0)) ∧ RowK frS wr w.heap.size (.slice na K.length nc) K ∧ RowK frS wr w2.heap.size qx KQ ∧ (KQ.length ≤ j ∧ j ≤ KQ.length) ∧ Hid (KQ.map (·.1) = (Q.take j).map (·.1)) ∧ Below w.heap.size w wr ∧ w2.heap.size ≤ wr.heap.size)
  case atStart => exact ⟨0, .slice none 0 0, [], by omega, rfl, k2', k3', hK, rowK_nil _ _ _, ⟨Nat.le_refl _, Nat.le_refl _⟩, by show _ = _; simp, HB2, Nat.le_refl _⟩
  case round =>
    clear k2' k3' hK b0 bl0 k0
    obtain ⟨j, qx, KQ, hj, rfl, k2, k3, hK, hQx, hlj, HQ, HB, hzr⟩ := hrel
    by_cases hlt : j < Q.length
    · have hjz : (j : Int) < (Q.length : Int) := by omega
      have hj0 : (0 : Int) ≤ (j : Int) := by omega
      have h := hQ.below HB
      obtain ⟨b, off, c', ea, hbl, _, c0, c1, c2, c3, c4⟩ := fr_get h hlt
      simp only [Value.slice.injEq, true_and] at ea
      obtain ⟨rfl, rfl⟩ := ea
      have hov : OpVal wr Q[j].2 Q[j].1.op := (h.each Q[j] (List.getElem_mem hlt)).op
      have hs := fQ Q[j] (List.getElem_mem hlt)
      have HT : Hid ((Q.take (j + 1)).map (·.1) = (Q.take j).map (·.1) ++ [Q[j].1]) := by show _ = _; rw [List.take_succ_eq_append_getElem hlt, List.map_append]; rfl
      generalize Q[j] = x at *
      obtain ⟨f, u⟩ := x
      simp only at c0 c1 c2 c3 c4 hov hs HT
      obtain ⟨ua, uc, rfl, _⟩ := hov.form
      have ha1 := row_old k2 (.cells #[.int .i64 f.kind, .int .i64 f.heard, .int .i64 f.epoch, .slice ua f.op.length uc, .string f.text] 28)
      have hn1 := row_old k3 (.cells #[.int .i64 f.kind, .int .i64 f.heard, .int .i64 f.epoch, .slice ua f.op.length uc, .string f.text] 28)
      have hb0 := (Below.refl wr.heap.size wr).alloc (Nat.le_refl _) (.cells #[.int .i64 f.kind, .int .i64 f.heard, .int .i64 f.epoch, .slice ua f.op.length uc, .string f.text] 28)
      have hf1 := heap_alloc_new wr (.cells #[.int .i64 f.kind, .int .i64 f.heard, .int .i64 f.epoch, .slice ua f.op.length uc, .string f.text] 28)
      have hK1 := hQx.below hb0
      have hS1 := hK.below hb0
      have cC := fun (wx : World) (hx : Below (wr.alloc (.cells #[.int .i64 f.kind, .int .i64 f.heard, .int .i64 f.epoch, .slice ua f.op.length uc, .string f.text] 28)).heap.size (wr.alloc (.cells #[.int .i64 f.kind, .int .i64 f.heard, .int .i64 f.epoch, .slice ua f.op.length uc, .string f.text] 28)) wx) => copyOf_any f (.slice ua f.op.length uc) wx ((hov.below hb0).below hx) hs
      have hrw : (wr.alloc (.cells #[.int .i64 f.kind, .int .i64 f.heard, .int .i64 f.epoch, .slice ua f.op.length uc, .string f.text] 28)).ownsRow w2.heap.size 28 5 qx KQ.length (frS.all KQ) := hK1.row
      obtain ⟨oa, oc, rfl⟩ := own_form hrw
      have hz1 : (wr.alloc (.cells #[.int .i64 f.kind, .int .i64 f.heard, .int .i64 f.epoch, .slice ua f.op.length uc, .string f.text] 28)).heap.size = wr.heap.size + 1 := by simp
      have hw2 := HB2.size
      obtain ⟨n0, nl0, nf0⟩ := blk hn1
      obtain ⟨f0, fl0, _⟩ := blk hf1
      clear k2 k3 hK hQx h hov
      go_wp2_with fail
      generalize (wr.alloc (.cells #[.int .i64 f.kind, .int .i64 f.heard, .int .i64 f.epoch, .slice ua f.op.length uc, .string f.text] 28)) = wy at *
      have hdd : Below wy.heap.size wy wy.drew := ⟨rfl, rfl, rfl, Nat.le_refl _, fun _ _ => rfl⟩
      have hnd : wy.drew.heap[w.heap.size + 1 + 1 + 1]? = some (.cells #[.int .i64 ep, .int .i64 nx, .slice na K.length nc, .slice oa KQ.length oc, .int .i64 hd] 24 (0, 0)) := hn1
      generalize hpl : f.op.length = pn at *
      have HPN : Hid (f.op.length = pn) := hpl
      clear hpl
      go_region_law (first | (go_simp; go_at_call 13; with_reducible refine Calls.mono (cC _ hdd) ?_; rintro e wz ⟨u, rfl, hou, hbz⟩; have hlz := (hbz.block _ (Array.getElem?_eq_some_iff.1 hnd).1).trans hnd; have hbkz := blk hlz; obtain ⟨lz, llz, lfz⟩ := hbkz; have hof := own_form hou; obtain ⟨xa, xc, rfl⟩ := hof; have hrz := own_below (own_drew hrw) hbz) | (refine step_append_lies _ (by rfl) _ _ _ (by rfl) w2.heap.size 28 i0 _ 5 64 Tryd.underlying22 hi0 hzz0 hzz1 hzz2 rfl (by omega) (.slice oa KQ.length oc) KQ.length (frS.all KQ) (by rfl) (hrz.alloc _) ⟨wz.heap.size, 0, none⟩ 1 1 [.int .i64 f.kind, .int .i64 f.heard, .int .i64 f.epoch, .slice xa pn xc, .string f.text] (by rfl) (by rfl) (World.news_of_block (cs := #[.int .i64 f.kind, .int .i64 f.heard, .int .i64 f.epoch, .slice xa pn xc, .string f.text]) (t := 28) (fr := (0, 0)) (heap_alloc_new wz _)) (by simp [Value.oneCell']) (by omega) (by unfold maxLen; omega) (by omega) (by have := hbz.size; have : wy.drew.heap.size = wy.heap.size := rfl; simp; omega) (wz.heap.size + 1) (by simp) ?_; intro g1 cap1 w4 hown4 hgr4 hat4 hlt4; have blk4 := row_kept (hrz.alloc _) (row_old hlz _) (by decide) hgr4; have hbk4 := blk blk4; obtain ⟨l4, ll4, lf4⟩ := hbk4))
      all_goals
        have hzz : wy.heap.size ≤ wz.heap.size := hbz.size
        have hn5 : (w4.setCell ⟨w.heap.size + 1 + 1 + 1, 3, none⟩ (.slice (some ⟨g1, 0, none⟩) (KQ.length + 1) cap1)).heap[w.heap.size + 1 + 1 + 1]? = some (.cells #[.int .i64 ep, .int .i64 nx, .slice na K.length nc, .slice (some ⟨g1, 0, none⟩) (KQ.length + 1) cap1, .int .i64 hd] 24 (0, 0)) := (blk_put blk4 3 (.slice (some ⟨g1, 0, none⟩) (KQ.length + 1) cap1)).1
        have hs5 := (blk_put blk4 3 (.slice (some ⟨g1, 0, none⟩) (KQ.length + 1) cap1)).2
        have ha5 := hs5.row (row_kept (hrz.alloc _) (row_old ((hbz.block _ (Array.getElem?_eq_some_iff.1 ha1).1).trans ha1) _) (by decide) hgr4) (show ¬ w.heap.size + 1 + 1 = w.heap.size + 1 + 1 + 1 by omega)
        have hKz := hK1.below (below_two hdd hbz (Nat.le_refl _))
        have hSz := hS1.below (below_two hdd hbz (Nat.le_refl _))
        have hou' := own_base hou (show w2.heap.size ≤ wy.drew.heap.size by show w2.heap.size ≤ wy.heap.size; omega)
        rw [← HPN.out] at hou' hown4 hgr4
        have hK4 := (RowK.app (x := ((f, Value.slice xa f.op.length xc) : FrK)) hKz hou' hown4 hgr4).stored blk4 (by decide) (by decide) hs5
        have hS4 := (hSz.other hrz hgr4 (by decide) (fun k e e' => by have h1 := hlow k e; have h2 := (hrz.lt k e').1; omega)).stored blk4 (by decide) (by decide) hs5
        have HB5 : Below w.heap.size w (w4.setCell ⟨w.heap.size + 1 + 1 + 1, 3, none⟩ (.slice (some ⟨g1, 0, none⟩) (KQ.length + 1) cap1)) := (((below_two (below_two HB hb0 (Nat.le_refl _)) (below_two hdd hbz (Nat.le_refl _)) (Nat.le_refl _)).alloc (by omega) _).grown hgr4 (by simp; omega) (fun k e => by have := (hrw.lt k e).1; omega)).trans (hs5.below (fun k e => by omega) (by have := hgr4.size; simp at this; omega))
        have hz5 : w2.heap.size ≤ (w4.setCell ⟨w.heap.size + 1 + 1 + 1, 3, none⟩ (.slice (some ⟨g1, 0, none⟩) (KQ.length + 1) cap1)).heap.size := by have h1 := hs5.size; have h2 := hgr4.size; simp at h2; omega
        clear hrz hown4 hgr4 hat4 blk4 l4 ll4 lf4 hs5 hKz hSz hou hou' hbz lz llz lfz hlz
        generalize (w4.setCell ⟨w.heap.size + 1 + 1 + 1, 3, none⟩ (.slice (some ⟨g1, 0, none⟩) (KQ.length + 1) cap1)) = w5 at *
        go_wp2_with fail
        go_roundg (Q.length - j - 1)
        case measure => omega
        case rel => exact ⟨j + 1, _, _, by omega, by go_num, ha5, hn5, hS4, hK4, by simp; omega, by show _ = _; rw [HT.out, List.map_append, HQ.out]; rfl, HB5, hz5⟩
    · have hjz : ¬ (j : Int) < (Q.length : Int) := by omega
      obtain ⟨oa, oc, rfl⟩ := own_form hQx.row
      obtain ⟨p0, pl0, pf0⟩ := blk k3
      obtain ⟨r0, rl0, rf0⟩ := blk k2
      obtain ⟨hfin, hch⟩ := puts_all k2 [.int .i64 ep, .int .i64 nx, .slice na K.length nc, .slice oa KQ.length oc, .int .i64 hd] rfl
      simp only [puts, Nat.zero_add, Nat.reduceAdd] at hfin hch
      have hS5 := hK.stored k2 (by decide) (by decide) hch
      have hQ5 := hQx.stored k2 (by decide) (by decide) hch
      have HB5 := HB.trans (hch.below (fun k e => by omega) HB.size)
      have hz9 := Nat.le_trans hzr hch.size
      have hQq : Hid (KQ.map (·.1) = Q.map (·.1)) := by show _ = _; rw [HQ.out, List.take_of_length_le (by omega)]
      have hw2 := HB2.size
      clear HQ
      go_wp2_with fail
      generalize (((((wr.setCell ⟨w.heap.size + 1 + 1, 0, none⟩ (.int .i64 ep)).setCell ⟨w.heap.size + 1 + 1, 1, none⟩ (.int .i64 nx)).setCell ⟨w.heap.size + 1 + 1, 2, none⟩ (.slice na K.length nc)).setCell ⟨w.heap.size + 1 + 1, 3, none⟩ (.slice oa KQ.length oc)).setCell ⟨w.heap.size + 1 + 1, 4, none⟩ (.int .i64 hd)) = w9 at *
      obtain ⟨t9, _, _⟩ := blk hfin
      exact bodyPost_ret (v := .agg #[.int .i64 ep, .int .i64 nx, .slice na K.length nc, .slice oa KQ.length oc, .int .i64 hd]) (by simp [results, Tryd.results12, go_sem, t9]) rfl ⟨_, _, rfl, ⟨K, KQ, w2.heap.size, hS5, HK.out, hlow, hQ5, hQq.out, hw2, hz9⟩, HB5⟩

end Go.Proofs.YtnpjcdfkjgenbaaDoor
