/-
  Walk: wherrylaw.LinkSends.
-/
import Derived.Test.YtpgcjpiabciekaaDoorLinkSntR
import Derived.Test.YtpgcjpiabciekaaDoorLinkSame
import Derived.Deep.RegionHeld3
namespace Go.Proofs.YtpgcjpiabciekaaDoor
open Go.RowKit Go.Lib

theorem kept_newL {X W' : World} {cs : Array Value} {T : TypeId} (hb : Below (X.alloc (.cells cs T)).heap.size (X.alloc (.cells cs T)) W') : W'.heap[X.heap.size]? = some (.cells cs T (0, 0)) := (hb.block _ (by simp)).trans (heap_alloc_new X _)
theorem kept_drewL {X W' : World} {cs : Array Value} {T : TypeId} (hb : Below (X.alloc (.cells cs T)).drew.heap.size (X.alloc (.cells cs T)).drew W') : W'.heap[X.heap.size]? = some (.cells cs T (0, 0)) := (hb.block X.heap.size (show X.heap.size < (X.alloc (.cells cs T)).heap.size by simp)).trans (heap_alloc_new X _)
theorem kept_moreL {W W' : World} {b : Nat} {o : Obj} (h : W.heap[b]? = some o) (hb : Below W.heap.size W W') : W'.heap[b]? = some o := (hb.block _ (Array.getElem?_eq_some_iff.1 h).1).trans h

/-- what a frame that is sent answers, to both -/
structure Sends (w : World) (r : Ending) (re rn rh er : Int) (rs rq : List FrI) (rp : List PkI) : Prop where
  ex : ∃ S Q P sa sc qa qc pa pc, r = .returned (.tuple #[.agg #[.int .i64 re, .int .i64 rn, .slice sa S.length sc, .slice qa Q.length qc, .int .i64 rh], .slice pa P.length pc, .int .i64 er]) ∧ SendT w 0 S Q P sa qa pa sc qc pc (⟨re, rn, rs, rq, rh⟩, rp)
theorem with_postL {P : Program} {c : Code} {E : Exit → Act → World → Prop} {st : Act} {w : World} (h : ∀ E' : Exit → Act → World → Prop, Hid (E' = E) → Code.wp P c E' st w) : Code.wp P c E st w := h E rfl

set_option maxRecDepth 100000 in
set_option maxHeartbeats 4000000 in
theorem linkSends_walk (ep nx hd : Int) (S Q : List FrK) (sv qv : Value) (kd h1 e1 : Int) (ps : List Part) (a : Option Addr) (c : Nat) (tx : ByteArray) (w : World) (hS : InK frS w 0 sv S) (hQ : InK frS w 0 qv Q) (fS : ∀ x ∈ S, FrSmall x.1) (fQ : ∀ x ∈ Q, FrSmall x.1) (lS : S.length ≤ 1048576) (lQ : Q.length ≤ 1048576) (_be : -9223372036854775808 ≤ ep ∧ ep ≤ 9223372036854775807) (_bn : -9223372036854775808 ≤ nx ∧ nx ≤ 9223372036854775807) (_bh : -9223372036854775808 ≤ hd ∧ hd ≤ 9223372036854775807) (ho : OpVal w (.slice a ps.length c) ps) (hs : OpSmall ps) (hx : tx.size ≤ 1048576) (hT : Tabs w) :
    Calls Tryd.prog 5 #[.agg #[.int .i64 ep, .int .i64 nx, sv, qv, .int .i64 hd], .agg #[.int .i64 kd, .int .i64 h1, .int .i64 e1, .slice a ps.length c, .string tx]] w fun r w' => r = .returned (.bool true) ∧ Below w.heap.size w w' := by
  have hsf : FrSmall ⟨kd, h1, e1, ps, tx⟩ := ⟨hs, hx⟩
  have cL := fun w1 (hb : Below w.heap.size w w1) => linkCopy_any ep nx hd S Q sv qv w1 (hS.below hb) (hQ.below hb) (fun x hx => (fS x hx).op.1) (fun x hx => (fQ x hx).op.1) (by omega) (by omega)
  have cO := fun w1 (hb : Below w.heap.size w w1) => frameCopy_any ⟨kd, h1, e1, ps, tx⟩ (.slice a ps.length c) w1 (ho.below hb) hs.1
  obtain ⟨⟨⟨⟨re, rn, rs, rq, rh⟩, rp⟩, er⟩, hR⟩ : ∃ R, R = sendR (mkL ep nx hd S Q) ⟨kd, h1, e1, ps, tx⟩ := ⟨_, rfl⟩
  have cT : ∀ w1, Below w.heap.size w w1 → Calls Tryd.prog 23 #[.agg #[.int .i64 ep, .int .i64 nx, sv, qv, .int .i64 hd], .agg #[.int .i64 kd, .int .i64 h1, .int .i64 e1, .slice a ps.length c, .string tx]] w1 fun r w' => Sends w' r re rn rh er rs rq rp ∧ Below w1.heap.size w1 w' := fun w1 hb => by
    have h0 := linkSent_any ep nx hd S Q sv qv ⟨kd, h1, e1, ps, tx⟩ (.slice a ps.length c) w1 (hS.below hb) (hQ.below hb) fS fQ lS lQ (ho.below hb) hsf (hT.below hb)
    rw [← hR] at h0
    refine h0.mono ?_
    rintro r w' ⟨sv', qv', pv, rfl, hG, hb'⟩
    obtain ⟨S', Q', P', sa', sc', qa', qc', pa', pc', rfl, rfl, rfl, hG'⟩ := hG.laid0
    exact ⟨⟨S', Q', P', sa', sc', qa', qc', pa', pc', rfl, hG'⟩, hb'⟩
  have cS : ∀ (w1 : World) (sv1 qv1 v1 : Value) (B1 B2 B3 : Nat) (S1 Q1 : List FrK), Below w.heap.size w w1 → InK frS w1 B1 sv1 S1 → S1.map (·.1) = S.map (·.1) → InK frS w1 B2 qv1 Q1 → Q1.map (·.1) = Q.map (·.1) → w1.ownsRow B3 102 3 v1 ps.length (partCells ps) → Calls Tryd.prog 21 #[.agg #[.int .i64 ep, .int .i64 nx, sv1, qv1, .int .i64 hd], .agg #[.int .i64 kd, .int .i64 h1, .int .i64 e1, v1, .string tx]] w1 fun r w' => Sends w' r re rn rh er rs rq rp ∧ Below w1.heap.size w1 w' := fun w1 sv1 qv1 v1 B1 B2 B3 S1 Q1 hb h1' e1' h2' e2' hv => by
    have em : mkL ep nx hd S1 Q1 = mkL ep nx hd S Q := by unfold mkL; rw [e1', e2']
    have s1 : ∀ x ∈ S1, FrSmall x.1 := fun x hx => by
      have : x.1 ∈ S.map (·.1) := by rw [← e1']; exact List.mem_map_of_mem hx
      obtain ⟨y, hy, he⟩ := List.mem_map.1 this
      rw [← he]
      exact fS y hy
    have s2 : ∀ x ∈ Q1, FrSmall x.1 := fun x hx => by
      have : x.1 ∈ Q.map (·.1) := by rw [← e2']; exact List.mem_map_of_mem hx
      obtain ⟨y, hy, he⟩ := List.mem_map.1 this
      rw [← he]
      exact fQ y hy
    have l1 : S1.length = S.length := by have := congrArg List.length e1'; simpa using this
    have l2 : Q1.length = Q.length := by have := congrArg List.length e2'; simpa using this
    have h0 := lsend_any ep nx hd S1 Q1 sv1 qv1 ⟨kd, h1, e1, ps, tx⟩ v1 w1 (h1'.base (Nat.zero_le _)) (h2'.base (Nat.zero_le _)) s1 s2 (by omega) (by omega) (opVal_own hv) hsf (hT.below hb)
    rw [em, ← hR] at h0
    refine h0.mono ?_
    rintro r w' ⟨sv', qv', pv, rfl, hG, hb'⟩
    obtain ⟨S', Q', P', sa', sc', qa', qc', pa', pc', rfl, rfl, rfl, hG'⟩ := hG.laid
    exact ⟨⟨S', Q', P', sa', sc', qa', qc', pa', pc', rfl, hG'.base (Nat.zero_le _)⟩, hb'⟩
  have hsm := sendR_small (mkL ep nx hd S Q) ⟨kd, h1, e1, ps, tx⟩ (fun x hx => by obtain ⟨y, hy, rfl⟩ := List.mem_map.1 hx; exact fS y hy) (fun x hx => by obtain ⟨y, hy, rfl⟩ := List.mem_map.1 hx; exact fQ y hy) hsf
  have hpk := sendR_packs (mkL ep nx hd S Q) ⟨kd, h1, e1, ps, tx⟩ (fun x hx => by obtain ⟨y, hy, rfl⟩ := List.mem_map.1 hx; exact fQ y hy) hsf
  rw [← hR] at hsm hpk
  have HSM : Hid ((∀ x ∈ rs, x.op.length ≤ 1048577) ∧ (∀ x ∈ rq, x.op.length ≤ 1048577) ∧ rs.length ≤ 1048577 ∧ rq.length ≤ 1048577 ∧ (∀ p ∈ rp, p.frame.op.length ≤ 1048577) ∧ rp.length ≤ 1048577) := by
    obtain ⟨m1, m2, m3, m4, m5⟩ := hsm
    simp only at m1 m2 m3 m4 m5 hpk
    have e1 : (mkL ep nx hd S Q).sent.length = S.length := by simp [mkL]
    have e2 : (mkL ep nx hd S Q).queue.length = Q.length := by simp [mkL]
    have m3' := m3 1048577 (by omega) (by omega)
    exact ⟨fun x hx => by have := (m1 x hx).op.1; omega, fun x hx => by have := (m2 x hx).op.1; omega, m3', by omega, fun p hp => by have := (hpk p hp).op.1; omega, by omega⟩
  have cK : ∀ (w1 : World) (sv1 qv1 : Value) (B1 B2 : Nat) (S1 Q1 : List FrK), Below w.heap.size w w1 → InK frS w1 B1 sv1 S1 → S1.map (·.1) = S.map (·.1) → InK frS w1 B2 qv1 Q1 → Q1.map (·.1) = Q.map (·.1) → Calls Tryd.prog 24 #[.agg #[.int .i64 ep, .int .i64 nx, sv1, qv1, .int .i64 hd], .agg #[.int .i64 ep, .int .i64 nx, sv, qv, .int .i64 hd]] w1 fun r w' => r = .returned (.bool true) ∧ Below w1.heap.size w1 w' := fun w1 sv1 qv1 B1 B2 S1 Q1 hb h1' e1' h2' e2' => by
    have l1 : S1.length = S.length := by have := congrArg List.length e1'; simpa using this
    have l2 : Q1.length = Q.length := by have := congrArg List.length e2'; simpa using this
    exact sameLink_true ep nx hd S1 Q1 S Q sv1 qv1 sv qv w1 h1' h2' (hS.below hb) (hQ.below hb) e1' e2' (map_small e1' (fun g hg => by obtain ⟨y, hy, rfl⟩ := List.mem_map.1 hg; have := (fS y hy).op.1; omega)) (map_small e2' (fun g hg => by obtain ⟨y, hy, rfl⟩ := List.mem_map.1 hg; have := (fQ y hy).op.1; omega)) (by omega) (by omega)
  obtain ⟨sa, sc, rfl, -⟩ := hS.row
  obtain ⟨qa, qc, rfl, -⟩ := hQ.row
  obtain ⟨hl, hf, HB0, hz⟩ := two_blocks w (.cells #[.int .i64 ep, .int .i64 nx, .slice sa S.length sc, .slice qa Q.length qc, .int .i64 hd] 45) (.cells #[.int .i64 kd, .int .i64 h1, .int .i64 e1, .slice a ps.length c, .string tx] 47)
  have cL0 := cL _ HB0
  have hzf : w.heap.size + 1 < ((w.alloc (.cells #[.int .i64 ep, .int .i64 nx, .slice sa S.length sc, .slice qa Q.length qc, .int .i64 hd] 45)).alloc (.cells #[.int .i64 kd, .int .i64 h1, .int .i64 e1, .slice a ps.length c, .string tx] 47)).heap.size := by omega
  obtain ⟨S0, hS0⟩ : ∃ S0, S0 = S.map (·.1) := ⟨_, rfl⟩
  obtain ⟨Q0, hQ0⟩ : ∃ Q0, Q0 = Q.map (·.1) := ⟨_, rfl⟩
  rw [← hS0, ← hQ0] at cL0 cS cK
  clear hsm hpk hS hQ fS fQ hT hsf hs hx cL hR ho lS lQ hz hS0 hQ0
  obtain ⟨l0, ll0, lf0⟩ := blk hl
  obtain ⟨f0, fl0, ff0⟩ := blk hf
  go_enter Tryd.func5, Tryd.ntmps5
  go_wp2_with fail
  refine cL0.mono ?_
  generalize ((w.alloc (.cells #[.int .i64 ep, .int .i64 nx, .slice sa S.length sc, .slice qa Q.length qc, .int .i64 hd] 45)).alloc (.cells #[.int .i64 kd, .int .i64 h1, .int .i64 e1, .slice a ps.length c, .string tx] 47)) = w0 at *
  rintro r w1 ⟨sv3, qv3, rfl, ⟨K, KQ, hK, eK, hKQ, eQ⟩, hb1⟩
  obtain ⟨ka, kc, rfl⟩ := own_form hK.row
  obtain ⟨oa, oc, rfl⟩ := own_form hKQ.row
  have HEK : Hid (K.map (·.1) = S0) := eK
  have HEQ : Hid (KQ.map (·.1) = Q0) := eQ
  have HB1 := below_two HB0 hb1 (Nat.le_refl _)
  have hz0 := HB0.size
  have hz1 := hb1.size
  replace hl := (hb1.block _ ll0).trans hl
  replace hf := (hb1.block _ fl0).trans hf
  clear cL0 l0 ll0 lf0 f0 fl0 ff0 eK eQ hb1 HB0
  have hba := (Below.refl w1.heap.size w1).alloc (Nat.le_refl _) (.cells #[.int .i64 ep, .int .i64 nx, .slice ka K.length kc, .slice oa KQ.length oc, .int .i64 hd] 45)
  have hk2 := heap_alloc_new w1 (.cells #[.int .i64 ep, .int .i64 nx, .slice ka K.length kc, .slice oa KQ.length oc, .int .i64 hd] 45)
  replace hK := hK.below hba
  replace hKQ := hKQ.below hba
  replace hl := row_old hl (.cells #[.int .i64 ep, .int .i64 nx, .slice ka K.length kc, .slice oa KQ.length oc, .int .i64 hd] 45)
  replace hf := row_old hf (.cells #[.int .i64 ep, .int .i64 nx, .slice ka K.length kc, .slice oa KQ.length oc, .int .i64 hd] 45)
  replace HB1 := below_two HB1 hba (Nat.le_refl _)
  have hz2 : w1.heap.size + 1 ≤ (w1.alloc (.cells #[.int .i64 ep, .int .i64 nx, .slice ka K.length kc, .slice oa KQ.length oc, .int .i64 hd] 45)).heap.size := by simp
  obtain ⟨k0, kl0, _⟩ := blk hk2
  obtain ⟨f0, fl0, _⟩ := blk hf
  clear hba
  go_wp2_with fail
  have HK2 : RowK frS (w1.alloc (.cells #[.int .i64 ep, .int .i64 nx, .slice ka K.length kc, .slice oa KQ.length oc, .int .i64 hd] 45)) w0.heap.size (.slice ka K.length kc) K := hK
  generalize (w1.alloc (.cells #[.int .i64 ep, .int .i64 nx, .slice ka K.length kc, .slice oa KQ.length oc, .int .i64 hd] 45)) = w2 at *
  have hdd : Below w2.heap.size w2 w2.drew := ⟨rfl, rfl, rfl, Nat.le_refl _, fun _ _ => rfl⟩
  have cO2 := fun (wx : World) (hb : Below w2.heap.size w2 wx) => cO wx (below_two HB1 hb (Nat.le_refl _))
  have cS2 := fun (wx : World) (v : Value) (B : Nat) (hb : Below w2.heap.size w2 wx) (hv : wx.ownsRow B 102 3 v ps.length (partCells ps)) => cS wx (.slice ka K.length kc) (.slice oa KQ.length oc) v _ _ B K KQ (below_two HB1 hb (Nat.le_refl _)) (hK.below hb).inK HEK.out (hKQ.below hb).inK HEQ.out hv
  generalize hpl : ps.length = pn at *
  have HPN : Hid (ps.length = pn) := hpl
  clear hpl cO cS
  have hkl2 : w1.heap.size < w2.heap.size := kl0
  have hfl2 : w.heap.size + 1 < w2.heap.size := fl0
  have hS0 : (fun w' => w'.cell? ⟨w1.heap.size, 0, none⟩ = some (.int .i64 ep) ∧ w'.cell? ⟨w1.heap.size, 1, none⟩ = some (.int .i64 nx) ∧ w'.cell? ⟨w1.heap.size, 2, none⟩ = some (.slice ka K.length kc) ∧ w'.cell? ⟨w1.heap.size, 3, none⟩ = some (.slice oa KQ.length oc) ∧ w'.cell? ⟨w1.heap.size, 4, none⟩ = some (.int .i64 hd) ∧ w'.cell? ⟨w.heap.size + 1, 0, none⟩ = some (.int .i64 kd) ∧ w'.cell? ⟨w.heap.size + 1, 1, none⟩ = some (.int .i64 h1) ∧ w'.cell? ⟨w.heap.size + 1, 2, none⟩ = some (.int .i64 e1) ∧ w'.cell? ⟨w.heap.size + 1, 3, none⟩ = some (.slice a pn c) ∧ w'.cell? ⟨w.heap.size + 1, 4, none⟩ = some (.string tx) ∧ Below w2.heap.size w2 w') w2.drew := ⟨k0 0, k0 1, k0 2, k0 3, k0 4, f0 0, f0 1, f0 2, f0 3, f0 4, hdd⟩
  have toBh : Hid (∀ w', (fun w' => w'.cell? ⟨w1.heap.size, 0, none⟩ = some (.int .i64 ep) ∧ w'.cell? ⟨w1.heap.size, 1, none⟩ = some (.int .i64 nx) ∧ w'.cell? ⟨w1.heap.size, 2, none⟩ = some (.slice ka K.length kc) ∧ w'.cell? ⟨w1.heap.size, 3, none⟩ = some (.slice oa KQ.length oc) ∧ w'.cell? ⟨w1.heap.size, 4, none⟩ = some (.int .i64 hd) ∧ w'.cell? ⟨w.heap.size + 1, 0, none⟩ = some (.int .i64 kd) ∧ w'.cell? ⟨w.heap.size + 1, 1, none⟩ = some (.int .i64 h1) ∧ w'.cell? ⟨w.heap.size + 1, 2, none⟩ = some (.int .i64 e1) ∧ w'.cell? ⟨w.heap.size + 1, 3, none⟩ = some (.slice a pn c) ∧ w'.cell? ⟨w.heap.size + 1, 4, none⟩ = some (.string tx) ∧ Below w2.heap.size w2 w') w' → Below w2.heap.size w2 w') := fun _ h => h.2.2.2.2.2.2.2.2.2.2
  have toSh : Hid (∀ w', Below w2.heap.size w2 w' → (fun w' => w'.cell? ⟨w1.heap.size, 0, none⟩ = some (.int .i64 ep) ∧ w'.cell? ⟨w1.heap.size, 1, none⟩ = some (.int .i64 nx) ∧ w'.cell? ⟨w1.heap.size, 2, none⟩ = some (.slice ka K.length kc) ∧ w'.cell? ⟨w1.heap.size, 3, none⟩ = some (.slice oa KQ.length oc) ∧ w'.cell? ⟨w1.heap.size, 4, none⟩ = some (.int .i64 hd) ∧ w'.cell? ⟨w.heap.size + 1, 0, none⟩ = some (.int .i64 kd) ∧ w'.cell? ⟨w.heap.size + 1, 1, none⟩ = some (.int .i64 h1) ∧ w'.cell? ⟨w.heap.size + 1, 2, none⟩ = some (.int .i64 e1) ∧ w'.cell? ⟨w.heap.size + 1, 3, none⟩ = some (.slice a pn c) ∧ w'.cell? ⟨w.heap.size + 1, 4, none⟩ = some (.string tx) ∧ Below w2.heap.size w2 w') w') := fun w' hb => by
    have g : ∀ j, w'.cell? ⟨w1.heap.size, j, none⟩ = w2.cell? ⟨w1.heap.size, j, none⟩ := fun j => hb.cell (p := ⟨w1.heap.size, j, none⟩) hkl2
    have g' : ∀ j, w'.cell? ⟨w.heap.size + 1, j, none⟩ = w2.cell? ⟨w.heap.size + 1, j, none⟩ := fun j => hb.cell (p := ⟨w.heap.size + 1, j, none⟩) hfl2
    exact ⟨(g 0).trans (k0 0), (g 1).trans (k0 1), (g 2).trans (k0 2), (g 3).trans (k0 3), (g 4).trans (k0 4), (g' 0).trans (f0 0), (g' 1).trans (f0 1), (g' 2).trans (f0 2), (g' 3).trans (f0 3), (g' 4).trans (f0 4), hb⟩
  have keepAh : Hid (∀ (w' : World) (o : Obj), (fun w' => w'.cell? ⟨w1.heap.size, 0, none⟩ = some (.int .i64 ep) ∧ w'.cell? ⟨w1.heap.size, 1, none⟩ = some (.int .i64 nx) ∧ w'.cell? ⟨w1.heap.size, 2, none⟩ = some (.slice ka K.length kc) ∧ w'.cell? ⟨w1.heap.size, 3, none⟩ = some (.slice oa KQ.length oc) ∧ w'.cell? ⟨w1.heap.size, 4, none⟩ = some (.int .i64 hd) ∧ w'.cell? ⟨w.heap.size + 1, 0, none⟩ = some (.int .i64 kd) ∧ w'.cell? ⟨w.heap.size + 1, 1, none⟩ = some (.int .i64 h1) ∧ w'.cell? ⟨w.heap.size + 1, 2, none⟩ = some (.int .i64 e1) ∧ w'.cell? ⟨w.heap.size + 1, 3, none⟩ = some (.slice a pn c) ∧ w'.cell? ⟨w.heap.size + 1, 4, none⟩ = some (.string tx) ∧ Below w2.heap.size w2 w') w' → (fun w' => w'.cell? ⟨w1.heap.size, 0, none⟩ = some (.int .i64 ep) ∧ w'.cell? ⟨w1.heap.size, 1, none⟩ = some (.int .i64 nx) ∧ w'.cell? ⟨w1.heap.size, 2, none⟩ = some (.slice ka K.length kc) ∧ w'.cell? ⟨w1.heap.size, 3, none⟩ = some (.slice oa KQ.length oc) ∧ w'.cell? ⟨w1.heap.size, 4, none⟩ = some (.int .i64 hd) ∧ w'.cell? ⟨w.heap.size + 1, 0, none⟩ = some (.int .i64 kd) ∧ w'.cell? ⟨w.heap.size + 1, 1, none⟩ = some (.int .i64 h1) ∧ w'.cell? ⟨w.heap.size + 1, 2, none⟩ = some (.int .i64 e1) ∧ w'.cell? ⟨w.heap.size + 1, 3, none⟩ = some (.slice a pn c) ∧ w'.cell? ⟨w.heap.size + 1, 4, none⟩ = some (.string tx) ∧ Below w2.heap.size w2 w') (w'.alloc o)) := fun w' o h => toSh.out _ ((toBh.out _ h).alloc (toBh.out _ h).size o)
  have keepDh : Hid (∀ (w' : World) (o : Obj), (fun w' => w'.cell? ⟨w1.heap.size, 0, none⟩ = some (.int .i64 ep) ∧ w'.cell? ⟨w1.heap.size, 1, none⟩ = some (.int .i64 nx) ∧ w'.cell? ⟨w1.heap.size, 2, none⟩ = some (.slice ka K.length kc) ∧ w'.cell? ⟨w1.heap.size, 3, none⟩ = some (.slice oa KQ.length oc) ∧ w'.cell? ⟨w1.heap.size, 4, none⟩ = some (.int .i64 hd) ∧ w'.cell? ⟨w.heap.size + 1, 0, none⟩ = some (.int .i64 kd) ∧ w'.cell? ⟨w.heap.size + 1, 1, none⟩ = some (.int .i64 h1) ∧ w'.cell? ⟨w.heap.size + 1, 2, none⟩ = some (.int .i64 e1) ∧ w'.cell? ⟨w.heap.size + 1, 3, none⟩ = some (.slice a pn c) ∧ w'.cell? ⟨w.heap.size + 1, 4, none⟩ = some (.string tx) ∧ Below w2.heap.size w2 w') w'.drew → (fun w' => w'.cell? ⟨w1.heap.size, 0, none⟩ = some (.int .i64 ep) ∧ w'.cell? ⟨w1.heap.size, 1, none⟩ = some (.int .i64 nx) ∧ w'.cell? ⟨w1.heap.size, 2, none⟩ = some (.slice ka K.length kc) ∧ w'.cell? ⟨w1.heap.size, 3, none⟩ = some (.slice oa KQ.length oc) ∧ w'.cell? ⟨w1.heap.size, 4, none⟩ = some (.int .i64 hd) ∧ w'.cell? ⟨w.heap.size + 1, 0, none⟩ = some (.int .i64 kd) ∧ w'.cell? ⟨w.heap.size + 1, 1, none⟩ = some (.int .i64 h1) ∧ w'.cell? ⟨w.heap.size + 1, 2, none⟩ = some (.int .i64 e1) ∧ w'.cell? ⟨w.heap.size + 1, 3, none⟩ = some (.slice a pn c) ∧ w'.cell? ⟨w.heap.size + 1, 4, none⟩ = some (.string tx) ∧ Below w2.heap.size w2 w') (w'.alloc o).drew) := fun w' o h => by
    have hb := toBh.out _ h
    exact toSh.out _ (hb.trans ⟨rfl, rfl, rfl, by show w'.heap.size ≤ (w'.alloc o).heap.size; simp, fun k hk => Below.heap_alloc w' o k (by have := hb.size; exact Nat.lt_of_lt_of_le hk this)⟩)
  have keepPh : Hid (∀ (w' : World) (b : Nat) (x0 x1 x2 x3 x4 : Value), (fun w' => w'.cell? ⟨w1.heap.size, 0, none⟩ = some (.int .i64 ep) ∧ w'.cell? ⟨w1.heap.size, 1, none⟩ = some (.int .i64 nx) ∧ w'.cell? ⟨w1.heap.size, 2, none⟩ = some (.slice ka K.length kc) ∧ w'.cell? ⟨w1.heap.size, 3, none⟩ = some (.slice oa KQ.length oc) ∧ w'.cell? ⟨w1.heap.size, 4, none⟩ = some (.int .i64 hd) ∧ w'.cell? ⟨w.heap.size + 1, 0, none⟩ = some (.int .i64 kd) ∧ w'.cell? ⟨w.heap.size + 1, 1, none⟩ = some (.int .i64 h1) ∧ w'.cell? ⟨w.heap.size + 1, 2, none⟩ = some (.int .i64 e1) ∧ w'.cell? ⟨w.heap.size + 1, 3, none⟩ = some (.slice a pn c) ∧ w'.cell? ⟨w.heap.size + 1, 4, none⟩ = some (.string tx) ∧ Below w2.heap.size w2 w') w' → w2.heap.size ≤ b → (fun w' => w'.cell? ⟨w1.heap.size, 0, none⟩ = some (.int .i64 ep) ∧ w'.cell? ⟨w1.heap.size, 1, none⟩ = some (.int .i64 nx) ∧ w'.cell? ⟨w1.heap.size, 2, none⟩ = some (.slice ka K.length kc) ∧ w'.cell? ⟨w1.heap.size, 3, none⟩ = some (.slice oa KQ.length oc) ∧ w'.cell? ⟨w1.heap.size, 4, none⟩ = some (.int .i64 hd) ∧ w'.cell? ⟨w.heap.size + 1, 0, none⟩ = some (.int .i64 kd) ∧ w'.cell? ⟨w.heap.size + 1, 1, none⟩ = some (.int .i64 h1) ∧ w'.cell? ⟨w.heap.size + 1, 2, none⟩ = some (.int .i64 e1) ∧ w'.cell? ⟨w.heap.size + 1, 3, none⟩ = some (.slice a pn c) ∧ w'.cell? ⟨w.heap.size + 1, 4, none⟩ = some (.string tx) ∧ Below w2.heap.size w2 w') (((((w'.setCell ⟨b, 0, none⟩ x0).setCell ⟨b, 1, none⟩ x1).setCell ⟨b, 2, none⟩ x2).setCell ⟨b, 3, none⟩ x3).setCell ⟨b, 4, none⟩ x4)) := fun w' b x0 x1 x2 x3 x4 h hb => toSh.out _ ((((((toBh.out _ h).setCell hb x0).setCell hb x1).setCell hb x2).setCell hb x3).setCell hb x4)
  have szd : w2.heap.size ≤ w2.drew.heap.size := Nat.le_refl _
  have szd2 : w2.heap.size ≤ w2.heap.size := Nat.le_refl _
  clear k0 kl0 f0 fl0
  go_wp2_with fail
  refine with_postL ?_
  intro E1 HE1
  have key : Hid (∀ (bn : Nat) (w6 : World) (yo : Value) (S6 Q6 : List FrK) (P6 : List PkK) (sa6 qa6 pa6 : Option Addr) (sc6 qc6 pc6 : Nat), w6.heap[bn]? = some (Obj.cells #[.int .i64 re, .int .i64 rn, .slice sa6 S6.length sc6, .slice qa6 Q6.length qc6, .int .i64 rh] 45 (0, 0)) → SendT w6 0 S6 Q6 P6 sa6 qa6 pa6 sc6 qc6 pc6 (⟨re, rn, rs, rq, rh⟩, rp) → Below w2.heap.size w2 w6 → E1 Exit.normal { tmps := #[Value.agg #[Value.int IntKind.i64 ep, Value.int IntKind.i64 nx, Value.slice sa S.length sc, Value.slice qa Q.length qc, Value.int IntKind.i64 hd], Value.agg #[Value.int IntKind.i64 kd, Value.int IntKind.i64 h1, Value.int IntKind.i64 e1, Value.slice a pn c, Value.string tx], Value.pointer (some ⟨w.heap.size, 0, none⟩), Value.pointer (some ⟨w.heap.size + 1, 0, none⟩), Value.bool false, Value.pointer (some ⟨w1.heap.size, 0, none⟩), Value.pointer (some ⟨bn, 0, none⟩), Value.slice pa6 P6.length pc6, Value.int IntKind.i64 er, undef, undef, undef, Value.agg #[Value.int IntKind.i64 ep, Value.int IntKind.i64 nx, Value.slice sa S.length sc, Value.slice qa Q.length qc, Value.int IntKind.i64 hd], Value.agg #[Value.int IntKind.i64 ep, Value.int IntKind.i64 nx, Value.slice ka K.length kc, Value.slice oa KQ.length oc, Value.int IntKind.i64 hd], Value.tuple #[Value.agg #[Value.int IntKind.i64 re, Value.int IntKind.i64 rn, Value.slice sa6 S6.length sc6, Value.slice qa6 Q6.length qc6, Value.int IntKind.i64 rh], Value.slice pa6 P6.length pc6, Value.int IntKind.i64 er], Value.agg #[Value.int IntKind.i64 ep, Value.int IntKind.i64 nx, Value.slice ka K.length kc, Value.slice oa KQ.length oc, Value.int IntKind.i64 hd], Value.agg #[Value.int IntKind.i64 kd, Value.int IntKind.i64 h1, Value.int IntKind.i64 e1, Value.slice a pn c, Value.string tx], Value.agg #[Value.int IntKind.i64 kd, Value.int IntKind.i64 h1, Value.int IntKind.i64 e1, yo, Value.string tx], Value.tuple #[Value.agg #[Value.int IntKind.i64 re, Value.int IntKind.i64 rn, Value.slice sa6 S6.length sc6, Value.slice qa6 Q6.length qc6, Value.int IntKind.i64 rh], Value.slice pa6 P6.length pc6, Value.int IntKind.i64 er], Value.agg #[Value.int IntKind.i64 re, Value.int IntKind.i64 rn, Value.slice sa6 S6.length sc6, Value.slice qa6 Q6.length qc6, Value.int IntKind.i64 rh], Value.slice pa6 P6.length pc6, Value.int IntKind.i64 er, undef, undef, undef, undef, undef, undef, undef, undef, undef, undef, undef, undef, undef, undef, undef, undef, undef, undef, undef, undef, undef, undef, undef, undef, undef], defers := [] } w6) := by
    as_aux_lemma =>
    intro bn w6 yo S6 Q6 P6 sa6 qa6 pa6 sc6 qc6 pc6 hN6 hG6 HBW
    rw [HE1.out]
    have HB6 := below_two HB1 HBW (Nat.le_refl _)
    have hl6 := (HBW.block _ (Array.getElem?_eq_some_iff.1 hl).1).trans hl
    have hf6 := (HBW.block _ hfl2).trans hf
    have hk6 := (HBW.block _ hkl2).trans hk2
    have hK6 := hK.below HBW
    have hKQ6 := hKQ.below HBW
    have cT6 := cT w6 HB6
    obtain ⟨l6, ll6, _⟩ := blk hl6
    obtain ⟨f6, fl6, _⟩ := blk hf6
    clear hl hf hk2 hK hKQ cT cO2 cS2 hS0 toBh toSh keepAh keepDh keepPh szd szd2 hdd HBW HE1 HB1 hz0 hz1 hkl2 hfl2 HPN
    go_wp2_with fail
    refine cT6.mono ?_
    rintro r w7 ⟨hsd, hb7⟩
    obtain ⟨S7, Q7, P7, sa7, sc7, qa7, qc7, pa7, pc7, rfl, hG7⟩ := hsd.ex
    have hba := (Below.refl w7.heap.size w7).alloc (Nat.le_refl _) (.cells #[.int .i64 re, .int .i64 rn, .slice sa7 S7.length sc7, .slice qa7 Q7.length qc7, .int .i64 rh] 45)
    have hb8 := below_two hb7 hba (Nat.le_refl _)
    have hN8 := (hb8.block _ (Array.getElem?_eq_some_iff.1 hN6).1).trans hN6
    have hB8 := heap_alloc_new w7 (.cells #[.int .i64 re, .int .i64 rn, .slice sa7 S7.length sc7, .slice qa7 Q7.length qc7, .int .i64 rh] 45)
    have hl8 := (hb8.block _ ll6).trans hl6
    have hk8 := (hb8.block _ (Array.getElem?_eq_some_iff.1 hk6).1).trans hk6
    have hG8 := hG6.below hb8
    have hG9 := hG7.below hba
    have HB8 := below_two HB6 hb8 (Nat.le_refl _)
    have hK8 := hK6.below hb8
    have hKQ8 := hKQ6.below hb8
    obtain ⟨m1, m2, m3, m4, m5, m6⟩ := HSM.out
    have lS6 : S6.length ≤ 1048577 := by have := congrArg List.length hG6.eS; rw [List.length_map] at this; simp only at this; omega
    have lQ6 : Q6.length ≤ 1048577 := by have := congrArg List.length hG6.eQ; rw [List.length_map] at this; simp only at this; omega
    have lP6 : P6.length ≤ 1048577 := by have := congrArg List.length hG6.eP; rw [List.length_map] at this; simp only at this; omega
    have fP6 : ∀ x ∈ P6, x.1.frame.op.length ≤ 1048577 := fun x hx => m5 _ (by have := List.mem_map_of_mem (f := (·.1)) hx; rw [hG6.eP] at this; exact this)
    have c1 := sameLink_true re rn rh S6 Q6 S7 Q7 (.slice sa6 S6.length sc6) (.slice qa6 Q6.length qc6) (.slice sa7 S7.length sc7) (.slice qa7 Q7.length qc7) (w7.alloc (.cells #[.int .i64 re, .int .i64 rn, .slice sa7 S7.length sc7, .slice qa7 Q7.length qc7, .int .i64 rh] 45)) hG8.inS.inK hG8.inQ.inK hG9.inS.inK hG9.inQ.inK (hG8.eS.trans hG9.eS.symm) (hG8.eQ.trans hG9.eQ.symm) (map_small hG8.eS m1) (map_small hG8.eQ m2) lS6 lQ6
    have c2 := fun wx (hb : Below (w7.alloc (.cells #[.int .i64 re, .int .i64 rn, .slice sa7 S7.length sc7, .slice qa7 Q7.length qc7, .int .i64 rh] 45)).heap.size (w7.alloc (.cells #[.int .i64 re, .int .i64 rn, .slice sa7 S7.length sc7, .slice qa7 Q7.length qc7, .int .i64 rh] 45)) wx) => samePackets_true P6 P7 (.slice pa6 P6.length pc6) (.slice pa7 P7.length pc7) wx (hG8.inP.below hb).inK (hG9.inP.below hb).inK (hG8.eP.trans hG9.eP.symm) fP6 lP6
    clear m1 m2 m3 m4 m5 m6 lS6 lQ6 lP6 fP6 hG6 hG7 hG8 hG9 l6 ll6 f6 fl6 hl6 hf6 hk6 hN6 hK6 hKQ6 cT6 hsd hb7 hba hb8 HB6
    obtain ⟨n8, nl8, _⟩ := blk hN8
    obtain ⟨b8, bl8, _⟩ := blk hB8
    go_wp2_with fail
    refine c1.mono ?_
    generalize (w7.alloc (.cells #[.int .i64 re, .int .i64 rn, .slice sa7 S7.length sc7, .slice qa7 Q7.length qc7, .int .i64 rh] 45)) = w8 at *
    rintro r w9 ⟨rfl, hb9⟩
    have c2' := c2 w9 hb9
    clear c1 c2 n8 nl8 b8 bl8 hN8 hB8
    go_wp2_with fail
    refine c2'.mono ?_
    rintro r w10 ⟨rfl, hb10⟩
    have hb := below_two hb9 hb10 (Nat.le_refl _)
    have HB10 := below_two HB8 hb (Nat.le_refl _)
    have c3 := cK w10 (.slice ka K.length kc) (.slice oa KQ.length oc) _ _ K KQ HB10 (hK8.below hb).inK HEK.out (hKQ8.below hb).inK HEQ.out
    have hl10 := (hb.block _ (Array.getElem?_eq_some_iff.1 hl8).1).trans hl8
    have hk10 := (hb.block _ (Array.getElem?_eq_some_iff.1 hk8).1).trans hk8
    clear c2' cK hK8 hKQ8 hb9 hb10 hb hl8 hk8
    obtain ⟨l10, ll10, _⟩ := blk hl10
    obtain ⟨k10, kl10, _⟩ := blk hk10
    go_wp2_with fail
    refine c3.mono ?_
    rintro r w11 ⟨rfl, hb11⟩
    go_wp2_with fail
    go_ret
    exact ⟨by simp, below_two HB10 hb11 (Nat.le_refl _)⟩
  clear HE1
  go_region_held3 (fun w' => w'.cell? ⟨w1.heap.size, 0, none⟩ = some (.int .i64 ep) ∧ w'.cell? ⟨w1.heap.size, 1, none⟩ = some (.int .i64 nx) ∧ w'.cell? ⟨w1.heap.size, 2, none⟩ = some (.slice ka K.length kc) ∧ w'.cell? ⟨w1.heap.size, 3, none⟩ = some (.slice oa KQ.length oc) ∧ w'.cell? ⟨w1.heap.size, 4, none⟩ = some (.int .i64 hd) ∧ w'.cell? ⟨w.heap.size + 1, 0, none⟩ = some (.int .i64 kd) ∧ w'.cell? ⟨w.heap.size + 1, 1, none⟩ = some (.int .i64 h1) ∧ w'.cell? ⟨w.heap.size + 1, 2, none⟩ = some (.int .i64 e1) ∧ w'.cell? ⟨w.heap.size + 1, 3, none⟩ = some (.slice a pn c) ∧ w'.cell? ⟨w.heap.size + 1, 4, none⟩ = some (.string tx) ∧ Below w2.heap.size w2 w') (with_reducible first | exact hS0 | exact keepDh.out _ _ hS0 | assumption | exact hSv | exact hSy | exact keepAh.out _ _ (by assumption) | exact keepPh.out _ _ _ _ _ _ _ (by assumption) (by first | exact szy | exact szv | exact szd | exact szd2)) (first | (go_at_call 22; with_reducible refine Calls.mono (cO2 _ (toBh.out _ (by assumption))) ?_; rintro e wy ⟨u, rfl, hou, hby⟩; have hBy := below_two (toBh.out _ (by assumption)) hby (Nat.le_refl _); have hSy := toSh.out _ hBy; have szy := hBy.size; (first | have ny := kept_drewL hby | skip)) | (go_at_call 21; with_reducible refine Calls.mono (cS2 _ _ _ (toBh.out _ (by assumption)) (by first | exact hou | exact own_below hou ((Below.refl _ _).alloc (Nat.le_refl _) _))) ?_; rintro e wv ⟨hsd, hbv⟩; obtain ⟨S6, Q6, P6, sa6, sc6, qa6, qc6, pa6, pc6, rfl, hG⟩ := hsd.ex; have hBv := below_two (toBh.out _ (by assumption)) hbv (Nat.le_refl _); have hSv := toSh.out _ hBv; have szv := hBv.size; (first | have nv := kept_newL hbv | have nv := kept_moreL ny hbv | skip); (first | (have hnf := blk nv; obtain ⟨n0, nl, nf⟩ := hnf) | skip)))
  · have hBa := (Below.refl wv.heap.size wv).alloc (Nat.le_refl _) (.cells #[.int .i64 re, .int .i64 rn, .slice sa6 S6.length sc6, .slice qa6 Q6.length qc6, .int .i64 rh] 45)
    exact key.out _ _ _ _ _ _ _ _ _ _ _ _ (heap_alloc_new wv (.cells #[.int .i64 re, .int .i64 rn, .slice sa6 S6.length sc6, .slice qa6 Q6.length qc6, .int .i64 rh] 45)) (hG.below hBa) (below_two hBv hBa (Nat.le_refl _))
  all_goals
    obtain ⟨hN6, hch⟩ := puts_all nv [.int .i64 re, .int .i64 rn, .slice sa6 S6.length sc6, .slice qa6 Q6.length qc6, .int .i64 rh] rfl
    simp only [puts, Nat.zero_add, Nat.reduceAdd] at hN6 hch
    exact key.out _ _ _ _ _ _ _ _ _ _ _ _ hN6 ⟨hG.inS.stored nv (by decide) (by decide) hch, hG.eS, hG.inQ.stored nv (by decide) (by decide) hch, hG.eQ, hG.inP.stored nv (by decide) (by decide) hch, hG.eP⟩ (hBv.trans (hch.below (B := w2.heap.size) (fun i e => by first | exact Nat.le_trans szy (Nat.le_of_eq e.symm) | (subst e; exact szy) | (subst e; exact Nat.le_refl _) | omega) hBv.size))

end Go.Proofs.YtpgcjpiabciekaaDoor
