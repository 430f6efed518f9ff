/-
  Walk: wherrylaw.LinkHears.
-/
import Derived.Test.YtnpjcdfkjgenbaaDoorHearBoth
import Derived.Test.YtnpjcdfkjgenbaaDoorLinkSame
import Derived.Deep.RegionHeld3
namespace Go.Proofs.YtnpjcdfkjgenbaaDoor
open Go.RowKit Go.Lib

theorem kept_newL {X W' : World} {cs : Array Value} {T : TypeId} (hb : Below (X.alloc (.cells cs T)).heap.size (X.alloc (.cells cs T)) W') : W'.heap[X.heap.size]? = some (.cells cs T (0, 0)) := (hb.block _ (by simp)).trans (heap_alloc_new X _)
theorem kept_drewL {X W' : World} {cs : Array Value} {T : TypeId} (hb : Below (X.alloc (.cells cs T)).drew.heap.size (X.alloc (.cells cs T)).drew W') : W'.heap[X.heap.size]? = some (.cells cs T (0, 0)) := (hb.block X.heap.size (show X.heap.size < (X.alloc (.cells cs T)).heap.size by simp)).trans (heap_alloc_new X _)
theorem kept_moreL {W W' : World} {b : Nat} {o : Obj} (h : W.heap[b]? = some o) (hb : Below W.heap.size W W') : W'.heap[b]? = some o := (hb.block _ (Array.getElem?_eq_some_iff.1 h).1).trans h

theorem with_postL {P : Program} {c : Code} {E : Exit → Act → World → Prop} {st : Act} {w : World} (h : ∀ E' : Exit → Act → World → Prop, Hid (E' = E) → Code.wp P c E' st w) : Code.wp P c E st w := h E rfl

set_option maxRecDepth 100000 in
set_option maxHeartbeats 8000000 in
theorem linkHears_walk (ep nx hd : Int) (S Q : List FrK) (sv qv : Value) (pe num : Int) (bare : Bool) (ack kd h1 e1 : Int) (ps : List Part) (a : Option Addr) (c : Nat) (tx : ByteArray) (w : World) (hS : InK frS w 0 sv S) (hQ : InK frS w 0 qv Q) (fS : ∀ x ∈ S, FrSmall x.1) (fQ : ∀ x ∈ Q, FrSmall x.1) (lS : S.length ≤ 1048576) (lQ : Q.length ≤ 1048576) (_be : -9223372036854775808 ≤ ep ∧ ep ≤ 9223372036854775807) (_bn : -9223372036854775808 ≤ nx ∧ nx ≤ 9223372036854775807) (_bh : -9223372036854775808 ≤ hd ∧ hd ≤ 9223372036854775807) (ho : OpVal w (.slice a ps.length c) ps) (hs : OpSmall ps) (hx : tx.size ≤ 1048576) (hT : Tabs w) :
    Calls Tryd.prog 3 #[.agg #[.int .i64 ep, .int .i64 nx, sv, qv, .int .i64 hd], .agg #[.int .i64 pe, .int .i64 num, .bool bare, .int .i64 ack, .int .i64 kd, .int .i64 h1, .int .i64 e1, .slice a ps.length c, .string tx]] w fun r w' => r = .returned (.bool true) ∧ Below w.heap.size w w' := by
  have hsf : FrSmall ⟨kd, h1, e1, ps, tx⟩ := ⟨hs, hx⟩
  have cL := fun w1 (hb : Below w.heap.size w w1) => linkCopy_any ep nx hd S Q sv qv w1 (hS.below hb) (hQ.below hb) (fun x hx => (fS x hx).op.1) (fun x hx => (fQ x hx).op.1) (by omega) (by omega)
  obtain ⟨re, rn, rh, er, rs, rq, rp, rf, rt, cH0, cT0, hsm⟩ := hear_both ep nx hd S Q pe num bare ack kd h1 e1 ps tx fS fQ lS lQ hsf
  have HSM : Hid ((∀ x ∈ rs, x.op.length ≤ 1048577) ∧ (∀ x ∈ rq, x.op.length ≤ 1048577) ∧ rs.length ≤ 1048577 ∧ rq.length ≤ 1048577 ∧ (∀ p ∈ rp, p.frame.op.length ≤ 1048577) ∧ rp.length ≤ 1048577 ∧ rf.op.length ≤ 1048577) := hsm
  have cH := fun w1 sv1 qv1 B1 B2 S1 Q1 (hb : Below w.heap.size w w1) h1' e1' h2' e2' => cH0 w1 sv1 qv1 (.slice a ps.length c) B1 B2 S1 Q1 (hT.below hb) h1' e1' h2' e2' (ho.below hb)
  have cT := fun w1 (hb : Below w.heap.size w w1) => cT0 w1 sv qv (.slice a ps.length c) 0 0 S Q (hT.below hb) (hS.below hb) rfl (hQ.below hb) rfl (ho.below hb)
  have cK : ∀ (w1 : World) (sv1 qv1 : Value) (B1 B2 : Nat) (S1 Q1 : List FrK), Below w.heap.size w w1 → InK frS w1 B1 sv1 S1 → S1.map (·.1) = S.map (·.1) → InK frS w1 B2 qv1 Q1 → Q1.map (·.1) = Q.map (·.1) → Calls Tryd.prog 7 #[.agg #[.int .i64 ep, .int .i64 nx, sv1, qv1, .int .i64 hd], .agg #[.int .i64 ep, .int .i64 nx, sv, qv, .int .i64 hd]] w1 fun r w' => r = .returned (.bool true) ∧ Below w1.heap.size w1 w' := fun w1 sv1 qv1 B1 B2 S1 Q1 hb h1' e1' h2' e2' => by
    have l1 : S1.length = S.length := by have := congrArg List.length e1'; simpa using this
    have l2 : Q1.length = Q.length := by have := congrArg List.length e2'; simpa using this
    exact sameLink_true ep nx hd S1 Q1 S Q sv1 qv1 sv qv w1 h1' h2' (hS.below hb) (hQ.below hb) e1' e2' (map_small e1' (fun g hg => by obtain ⟨y, hy, rfl⟩ := List.mem_map.1 hg; have := (fS y hy).op.1; omega)) (map_small e2' (fun g hg => by obtain ⟨y, hy, rfl⟩ := List.mem_map.1 hg; have := (fQ y hy).op.1; omega)) (by omega) (by omega)
  obtain ⟨sa, sc, rfl, -⟩ := hS.row
  obtain ⟨qa, qc, rfl, -⟩ := hQ.row
  obtain ⟨hl, hf, HB0, hz⟩ := two_blocks w (.cells #[.int .i64 ep, .int .i64 nx, .slice sa S.length sc, .slice qa Q.length qc, .int .i64 hd] 24) (.cells #[.int .i64 pe, .int .i64 num, .bool bare, .int .i64 ack, .int .i64 kd, .int .i64 h1, .int .i64 e1, .slice a ps.length c, .string tx] 30)
  have cL0 := cL _ HB0
  obtain ⟨S0, hS0⟩ : ∃ S0, S0 = S.map (·.1) := ⟨_, rfl⟩
  obtain ⟨Q0, hQ0⟩ : ∃ Q0, Q0 = Q.map (·.1) := ⟨_, rfl⟩
  rw [← hS0, ← hQ0] at cL0 cK
  simp only [← hS0, ← hQ0] at cH
  clear hsm hS hQ fS fQ hT hsf hs hx cL ho lS lQ hz hS0 hQ0 cH0 cT0
  obtain ⟨l0, ll0, lf0⟩ := blk hl
  obtain ⟨f0, fl0, ff0⟩ := blk hf
  go_enter Tryd.func3, Tryd.ntmps3
  go_wp2_with fail
  refine cL0.mono ?_
  generalize ((w.alloc (.cells #[.int .i64 ep, .int .i64 nx, .slice sa S.length sc, .slice qa Q.length qc, .int .i64 hd] 24)).alloc (.cells #[.int .i64 pe, .int .i64 num, .bool bare, .int .i64 ack, .int .i64 kd, .int .i64 h1, .int .i64 e1, .slice a ps.length c, .string tx] 30)) = w0 at *
  rintro r w1 ⟨sv3, qv3, rfl, ⟨K, KQ, hK, eK, hKQ, eQ⟩, hb1⟩
  obtain ⟨ka, kc, rfl⟩ := own_form hK.row
  obtain ⟨oa, oc, rfl⟩ := own_form hKQ.row
  have HEK : Hid (K.map (·.1) = S0) := eK
  have HEQ : Hid (KQ.map (·.1) = Q0) := eQ
  have HB1 := below_two HB0 hb1 (Nat.le_refl _)
  have hz0 := HB0.size
  have hz1 := hb1.size
  replace hl := (hb1.block _ ll0).trans hl
  replace hf := (hb1.block _ fl0).trans hf
  clear cL0 l0 ll0 lf0 f0 fl0 ff0 eK eQ hb1 HB0
  have hba := (Below.refl w1.heap.size w1).alloc (Nat.le_refl _) (.cells #[.int .i64 ep, .int .i64 nx, .slice ka K.length kc, .slice oa KQ.length oc, .int .i64 hd] 24)
  have hk2 := heap_alloc_new w1 (.cells #[.int .i64 ep, .int .i64 nx, .slice ka K.length kc, .slice oa KQ.length oc, .int .i64 hd] 24)
  replace hK := hK.below hba
  replace hKQ := hKQ.below hba
  replace hl := row_old hl (.cells #[.int .i64 ep, .int .i64 nx, .slice ka K.length kc, .slice oa KQ.length oc, .int .i64 hd] 24)
  replace hf := row_old hf (.cells #[.int .i64 ep, .int .i64 nx, .slice ka K.length kc, .slice oa KQ.length oc, .int .i64 hd] 24)
  replace HB1 := below_two HB1 hba (Nat.le_refl _)
  have hz2 : w1.heap.size + 1 ≤ (w1.alloc (.cells #[.int .i64 ep, .int .i64 nx, .slice ka K.length kc, .slice oa KQ.length oc, .int .i64 hd] 24)).heap.size := by simp
  obtain ⟨k0, kl0, _⟩ := blk hk2
  obtain ⟨f0, fl0, _⟩ := blk hf
  clear hba
  go_wp2_with fail
  generalize (w1.alloc (.cells #[.int .i64 ep, .int .i64 nx, .slice ka K.length kc, .slice oa KQ.length oc, .int .i64 hd] 24)) = w2 at *
  have cH2 := cH w2 (.slice ka K.length kc) (.slice oa KQ.length oc) _ _ K KQ HB1 hK.inK HEK.out hKQ.inK HEQ.out
  clear k0 f0
  refine cH2.mono ?_
  rintro r w3 ⟨hsd, hb3⟩
  obtain ⟨S6, Q6, P6, sa6, sc6, qa6, qc6, pa6, pc6, ua6, uc6, rfl, hG6, ho6⟩ := hsd.ex
  obtain ⟨hA, hX, hB4, hz4⟩ := two_blocks w3 (.cells #[.int .i64 re, .int .i64 rn, .slice sa6 S6.length sc6, .slice qa6 Q6.length qc6, .int .i64 rh] 24) (.cells #[.int .i64 rf.kind, .int .i64 rf.heard, .int .i64 rf.epoch, .slice ua6 rf.op.length uc6, .string rf.text] 28)
  have hb4 := below_two hb3 hB4 (Nat.le_refl _)
  have hl4 := (hb4.block _ (Array.getElem?_eq_some_iff.1 hl).1).trans hl
  have hf4 := (hb4.block _ fl0).trans hf
  have hk4 := (hb4.block _ kl0).trans hk2
  have hK4 := hK.below hb4
  have hKQ4 := hKQ.below hb4
  have HB4 := below_two HB1 hb4 (Nat.le_refl _)
  have cT4 := cT _ HB4
  have hG8 := hG6.below hB4
  have ho8 := ho6.below hB4
  obtain ⟨l4, ll4, _⟩ := blk hl4
  obtain ⟨f4, fl4, _⟩ := blk hf4
  obtain ⟨m1, m2, m3, m4, m5, m6, m7⟩ := HSM.out
  have lS6 : S6.length ≤ 1048577 := by have := congrArg List.length hG6.eS; rw [List.length_map] at this; simp only at this; omega
  have lQ6 : Q6.length ≤ 1048577 := by have := congrArg List.length hG6.eQ; rw [List.length_map] at this; simp only at this; omega
  have lP6 : P6.length ≤ 1048577 := by have := congrArg List.length hG6.eP; rw [List.length_map] at this; simp only at this; omega
  have fP6 : ∀ x ∈ P6, x.1.frame.op.length ≤ 1048577 := fun x hx => m5 _ (by have := List.mem_map_of_mem (f := (·.1)) hx; rw [hG6.eP] at this; exact this)
  have hfl1 : w.heap.size + 1 < w3.heap.size := by have := hb3.size; omega
  have hfl0 : w.heap.size < w3.heap.size := by omega
  clear hsd hb3 hz4 hB4 hb4 hl hf hk2 hK hKQ cH cH2 cT HB1 hz0 hz1 hz2 hG6 ho6
  have CS : Hid (∀ (wx : World) (S7 Q7 : List FrK) (P7 : List PkK) (sa7 qa7 pa7 : Option Addr) (sc7 qc7 pc7 : Nat), Below ((w3.alloc (.cells #[.int .i64 re, .int .i64 rn, .slice sa6 S6.length sc6, .slice qa6 Q6.length qc6, .int .i64 rh] 24)).alloc (.cells #[.int .i64 rf.kind, .int .i64 rf.heard, .int .i64 rf.epoch, .slice ua6 rf.op.length uc6, .string rf.text] 28)).heap.size ((w3.alloc (.cells #[.int .i64 re, .int .i64 rn, .slice sa6 S6.length sc6, .slice qa6 Q6.length qc6, .int .i64 rh] 24)).alloc (.cells #[.int .i64 rf.kind, .int .i64 rf.heard, .int .i64 rf.epoch, .slice ua6 rf.op.length uc6, .string rf.text] 28)) wx → SendT wx 0 S7 Q7 P7 sa7 qa7 pa7 sc7 qc7 pc7 (⟨re, rn, rs, rq, rh⟩, rp) → Calls Tryd.prog 7 #[.agg #[.int .i64 re, .int .i64 rn, .slice sa6 S6.length sc6, .slice qa6 Q6.length qc6, .int .i64 rh], .agg #[.int .i64 re, .int .i64 rn, .slice sa7 S7.length sc7, .slice qa7 Q7.length qc7, .int .i64 rh]] wx fun e w' => e = .returned (.bool true) ∧ Below wx.heap.size wx w') := fun wx S7 Q7 P7 sa7 qa7 pa7 sc7 qc7 pc7 hb hG7 => sameLink_true re rn rh S6 Q6 S7 Q7 _ _ _ _ wx (hG8.inS.below hb).inK (hG8.inQ.below hb).inK hG7.inS.inK hG7.inQ.inK (hG8.eS.trans hG7.eS.symm) (hG8.eQ.trans hG7.eQ.symm) (map_small hG8.eS m1) (map_small hG8.eQ m2) lS6 lQ6
  have CF : Hid (∀ (wx : World) (ua7 : Option Addr) (uc7 : Nat), Below ((w3.alloc (.cells #[.int .i64 re, .int .i64 rn, .slice sa6 S6.length sc6, .slice qa6 Q6.length qc6, .int .i64 rh] 24)).alloc (.cells #[.int .i64 rf.kind, .int .i64 rf.heard, .int .i64 rf.epoch, .slice ua6 rf.op.length uc6, .string rf.text] 28)).heap.size ((w3.alloc (.cells #[.int .i64 re, .int .i64 rn, .slice sa6 S6.length sc6, .slice qa6 Q6.length qc6, .int .i64 rh] 24)).alloc (.cells #[.int .i64 rf.kind, .int .i64 rf.heard, .int .i64 rf.epoch, .slice ua6 rf.op.length uc6, .string rf.text] 28)) wx → OpAt wx ua7 rf.op → Calls Tryd.prog 8 #[.agg #[.int .i64 rf.kind, .int .i64 rf.heard, .int .i64 rf.epoch, .slice ua6 rf.op.length uc6, .string rf.text], .agg #[.int .i64 rf.kind, .int .i64 rf.heard, .int .i64 rf.epoch, .slice ua7 rf.op.length uc7, .string rf.text]] wx fun e w' => e = .returned (.bool true) ∧ Below wx.heap.size wx w') := fun wx ua7 uc7 hb ho7 => sameFr_true rf.kind rf.heard rf.epoch rf.op rf.text ua6 ua7 uc6 uc7 wx (ho8.below hb) ho7 m7
  have CP : Hid (∀ (wx : World) (S7 Q7 : List FrK) (P7 : List PkK) (sa7 qa7 pa7 : Option Addr) (sc7 qc7 pc7 : Nat), Below ((w3.alloc (.cells #[.int .i64 re, .int .i64 rn, .slice sa6 S6.length sc6, .slice qa6 Q6.length qc6, .int .i64 rh] 24)).alloc (.cells #[.int .i64 rf.kind, .int .i64 rf.heard, .int .i64 rf.epoch, .slice ua6 rf.op.length uc6, .string rf.text] 28)).heap.size ((w3.alloc (.cells #[.int .i64 re, .int .i64 rn, .slice sa6 S6.length sc6, .slice qa6 Q6.length qc6, .int .i64 rh] 24)).alloc (.cells #[.int .i64 rf.kind, .int .i64 rf.heard, .int .i64 rf.epoch, .slice ua6 rf.op.length uc6, .string rf.text] 28)) wx → SendT wx 0 S7 Q7 P7 sa7 qa7 pa7 sc7 qc7 pc7 (⟨re, rn, rs, rq, rh⟩, rp) → Calls Tryd.prog 9 #[.slice pa6 P6.length pc6, .slice pa7 P7.length pc7] wx fun e w' => e = .returned (.bool true) ∧ Below wx.heap.size wx w') := fun wx S7 Q7 P7 sa7 qa7 pa7 sc7 qc7 pc7 hb hG7 => samePackets_true P6 P7 _ _ wx (hG8.inP.below hb).inK hG7.inP.inK (hG8.eP.trans hG7.eP.symm) fP6 lP6
  clear m1 m2 m3 m4 m5 m6 m7 lS6 lQ6 lP6 fP6 hG8 ho8
  go_wp2_with fail
  refine cT4.mono ?_
  generalize ((w3.alloc (.cells #[.int .i64 re, .int .i64 rn, .slice sa6 S6.length sc6, .slice qa6 Q6.length qc6, .int .i64 rh] 24)).alloc (.cells #[.int .i64 rf.kind, .int .i64 rf.heard, .int .i64 rf.epoch, .slice ua6 rf.op.length uc6, .string rf.text] 28)) = w4 at *
  rintro r w5 ⟨hsd, hb5⟩
  obtain ⟨S7, Q7, P7, sa7, sc7, qa7, qc7, pa7, pc7, ua7, uc7, rfl, hG7, ho7⟩ := hsd.ex
  obtain ⟨hB, hY, hB6, hz6⟩ := two_blocks w5 (.cells #[.int .i64 re, .int .i64 rn, .slice sa7 S7.length sc7, .slice qa7 Q7.length qc7, .int .i64 rh] 24) (.cells #[.int .i64 rf.kind, .int .i64 rf.heard, .int .i64 rf.epoch, .slice ua7 rf.op.length uc7, .string rf.text] 28)
  have hb6 := below_two hb5 hB6 (Nat.le_refl _)
  have hl6 := (hb6.block _ ll4).trans hl4
  have hk6 := (hb6.block _ (Array.getElem?_eq_some_iff.1 hk4).1).trans hk4
  have hA6 := (hb6.block _ (Array.getElem?_eq_some_iff.1 hA).1).trans hA
  have hX6 := (hb6.block _ (Array.getElem?_eq_some_iff.1 hX).1).trans hX
  have hK6 := hK4.below hb6
  have hKQ6 := hKQ4.below hb6
  have HB6 := below_two HB4 hb6 (Nat.le_refl _)
  have hG9 := hG7.below hB6
  have ho9 := ho7.below hB6
  have c1 := CS.out _ S7 Q7 P7 sa7 qa7 pa7 sc7 qc7 pc7 hb6 hG9
  clear hsd hb5 hB6 hz6 hl4 hf4 hk4 hA hX hK4 hKQ4 HB4 cT4 hG7 ho7 l4 ll4 f4 fl4 CS
  obtain ⟨a6, al6, _⟩ := blk hA6
  obtain ⟨b6, bl6, _⟩ := blk hB
  go_wp2_with fail
  refine c1.mono ?_
  generalize ((w5.alloc (.cells #[.int .i64 re, .int .i64 rn, .slice sa7 S7.length sc7, .slice qa7 Q7.length qc7, .int .i64 rh] 24)).alloc (.cells #[.int .i64 rf.kind, .int .i64 rf.heard, .int .i64 rf.epoch, .slice ua7 rf.op.length uc7, .string rf.text] 28)) = w6 at *
  rintro r w7 ⟨rfl, hb7⟩
  have hb76 := below_two hb6 hb7 (Nat.le_refl _)
  have c2 := CF.out w7 ua7 uc7 hb76 (ho9.below hb7)
  have hX7 := (hb7.block _ (Array.getElem?_eq_some_iff.1 hX6).1).trans hX6
  have hY7 := (hb7.block _ (Array.getElem?_eq_some_iff.1 hY).1).trans hY
  clear c1 a6 al6 b6 bl6 CF hX6 hY hA6 hB
  obtain ⟨x7, xl7, _⟩ := blk hX7
  obtain ⟨y7, yl7, _⟩ := blk hY7
  go_wp2_with fail
  refine c2.mono ?_
  rintro r w8 ⟨rfl, hb8⟩
  have hb86 := below_two hb76 hb8 (Nat.le_refl _)
  have hb87 := below_two hb7 hb8 (Nat.le_refl _)
  have c3 := CP.out w8 S7 Q7 P7 sa7 qa7 pa7 sc7 qc7 pc7 hb86 (hG9.below hb87)
  clear c2 x7 xl7 y7 yl7 hX7 hY7 CP hb76 hb7
  go_wp2_with fail
  refine c3.mono ?_
  rintro r w9 ⟨rfl, hb9⟩
  have hb := below_two hb87 hb9 (Nat.le_refl _)
  have HB9 := below_two HB6 hb (Nat.le_refl _)
  have c4 := cK w9 (.slice ka K.length kc) (.slice oa KQ.length oc) _ _ K KQ HB9 (hK6.below hb).inK HEK.out (hKQ6.below hb).inK HEQ.out
  have hl9 := (hb.block _ (Array.getElem?_eq_some_iff.1 hl6).1).trans hl6
  have hk9 := (hb.block _ (Array.getElem?_eq_some_iff.1 hk6).1).trans hk6
  clear c3 cK hK6 hKQ6 hb9 hb87 hb86 hb8 hb hl6 hk6 hG9 ho9 hb6
  obtain ⟨l9, ll9, _⟩ := blk hl9
  obtain ⟨k9, kl9, _⟩ := blk hk9
  go_wp2_with fail
  refine c4.mono ?_
  rintro r w10 ⟨rfl, hb10⟩
  go_wp2_with fail
  go_ret
  exact ⟨by simp, below_two HB9 hb10 (Nat.le_refl _)⟩

end Go.Proofs.YtnpjcdfkjgenbaaDoor
