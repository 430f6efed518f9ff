/-
  link.Hear and wherryref.LinkHeard answer the same.
-/
import Derived.Test.YtnpjcdfkjgenbaaDoorLinkHrdR
namespace Go.Proofs.YtnpjcdfkjgenbaaDoor
open Go.RowKit Go.Lib

theorem lhear_ok {B : Nat} (ep nx hd : Int) (S Q : List FrK) (sv qv : Value) (pe num : Int) (bare : Bool) (ack fk fh fe : Int) (ps : List Part) (tx : ByteArray) (v : Value) (w : World) (hS : InK frS w B sv S) (hQ : InK frS w B qv Q) (fS : ∀ x ∈ S, FrSmall x.1) (fQ : ∀ x ∈ Q, FrSmall x.1) (lS : S.length ≤ 1048576) (lQ : Q.length ≤ 1048576) (ho : OpVal w v ps) (hs : FrSmall ⟨fk, fh, fe, ps, tx⟩) (hT : Tabs w) (herr : lhearErr (mkL ep nx hd S Q) ⟨pe, num, bare, ack, ⟨fk, fh, fe, ps, tx⟩⟩ = 0)
    (H : Int) (T : Bool) (F : FrI) (hH : (bare = false ∧ num = hd + 1 ∧ H = hd + 1 ∧ T = true ∧ F = ⟨fk, fh, fe, ps, tx⟩) ∨ ((bare = true ∨ num ≠ hd + 1) ∧ H = hd ∧ T = false ∧ F = fr0)) :
    Calls Tryd.prog 5 #[.agg #[.int .i64 ep, .int .i64 nx, sv, qv, .int .i64 hd], .agg #[.int .i64 pe, .int .i64 num, .bool bare, .int .i64 ack, .int .i64 fk, .int .i64 fh, .int .i64 fe, v, .string tx]] w fun r w' => ∃ sv' qv' pv fv, r = .returned (.tuple #[.agg #[.int .i64 ep, .int .i64 (nx + (goK (behindL (mkL ep nx hd S Q) ack).sent.length (Q.map (·.1)).length nx : Nat)), sv', qv', .int .i64 H], .agg #[.int .i64 F.kind, .int .i64 F.heard, .int .i64 F.epoch, fv, .string F.text], .bool T, pv, .int .i64 0]) ∧ GoOk w' 0 w.heap.size sv' qv' pv ((LinkI.go ⟨ep, nx, (behindL (mkL ep nx hd S Q) ack).sent, Q.map (·.1), H⟩).1, (LinkI.go ⟨ep, nx, (behindL (mkL ep nx hd S Q) ack).sent, Q.map (·.1), H⟩).2 ++ (if bare = true then [] else [⟨ep, 0, true, H, fr0⟩])) ∧ w'.ownsRow w.heap.size 63 3 fv F.op.length (partCells F.op) ∧ Below w.heap.size w w' := by
  cases bare with
  | true =>
    obtain ⟨rfl, rfl, rfl⟩ : H = hd ∧ T = false ∧ F = fr0 := by
      rcases hH with ⟨h, _⟩ | ⟨_, h⟩
      · cases h
      · exact h
    refine (lhear_bare ep nx H S Q sv qv pe num ack fk fh fe ps tx v w hS hQ fS fQ (by omega) lQ ho hs hT herr).mono ?_
    rintro r w' ⟨sv', qv', pv, rfl, hG, hb⟩
    refine ⟨sv', qv', pv, .slice none 0 0, rfl, ?_, World.ownsRow_nil _ _ _ _, hb⟩
    rw [if_pos rfl, List.append_nil]
    exact hG.base (Nat.zero_le _) (Nat.le_refl _)
  | false =>
    refine (lhear_full ep nx hd S Q sv qv pe num ack fk fh fe ps tx v w hS hQ fS fQ (by omega) lQ ho hs hT herr H T F ?_).mono ?_
    · rcases hH with ⟨_, h⟩ | ⟨h, h'⟩
      · exact .inl h
      · rcases h with h | h
        · cases h
        · exact .inr ⟨h, h'⟩
    · rintro r w' ⟨sv', qv', pv, fv, rfl, hG, ho', hb⟩
      refine ⟨sv', qv', pv, fv, rfl, ?_, ho', hb⟩
      rw [if_neg (by decide)]
      exact hG.base (Nat.zero_le _) (Nat.le_refl _)
theorem hear_way (bare : Bool) (num hd : Int) (f : FrI) : ∃ (H : Int) (T : Bool) (F : FrI), (bare = false ∧ num = hd + 1 ∧ H = hd + 1 ∧ T = true ∧ F = f) ∨ ((bare = true ∨ num ≠ hd + 1) ∧ H = hd ∧ T = false ∧ F = fr0) := by
  by_cases h : bare = false ∧ num = hd + 1
  · exact ⟨hd + 1, true, f, .inl ⟨h.1, h.2, rfl, rfl, rfl⟩⟩
  · refine ⟨hd, false, fr0, .inr ⟨?_, rfl, rfl, rfl⟩⟩
    cases bare with
    | true => exact .inl rfl
    | false => exact .inr (fun e => h ⟨rfl, e⟩)

/-- what is answered, in memory -/
structure Hears (w : World) (r : Ending) (re rn rh er : Int) (rs rq : List FrI) (rp : List PkI) (rf : FrI) (rt : Bool) : Prop where
  ex : ∃ S Q P sa sc qa qc pa pc ua uc, r = .returned (.tuple #[.agg #[.int .i64 re, .int .i64 rn, .slice sa S.length sc, .slice qa Q.length qc, .int .i64 rh], .agg #[.int .i64 rf.kind, .int .i64 rf.heard, .int .i64 rf.epoch, .slice ua rf.op.length uc, .string rf.text], .bool rt, .slice pa P.length pc, .int .i64 er]) ∧ SendT w 0 S Q P sa qa pa sc qc pc (⟨re, rn, rs, rq, rh⟩, rp) ∧ OpAt w ua rf.op
theorem own_opAtH {w : World} {B : Nat} {ua : Option Addr} {uc : Nat} {os : List Part} (h : w.ownsRow B 63 3 (.slice ua os.length uc) os.length (partCells os)) : OpAt w ua os := by
  obtain ⟨a, c, e, hop, _⟩ := (opVal_own h).form
  simp only [Value.slice.injEq, true_and] at e
  obtain ⟨rfl, rfl⟩ := e
  exact hop
theorem packs_framesH {ep hd : Int} : ∀ (a : List FrI) (n : Int), ∀ p ∈ packs ep hd n a, p.frame ∈ a := packs_frames

theorem hear_both (ep nx hd : Int) (S Q : List FrK) (pe num : Int) (bare : Bool) (ack fk fh fe : Int) (ps : List Part) (tx : ByteArray) (fS : ∀ x ∈ S, FrSmall x.1) (fQ : ∀ x ∈ Q, FrSmall x.1) (lS : S.length ≤ 1048576) (lQ : Q.length ≤ 1048576) (hs : FrSmall ⟨fk, fh, fe, ps, tx⟩) :
    ∃ (re rn rh er : Int) (rs rq : List FrI) (rp : List PkI) (rf : FrI) (rt : Bool),
      (∀ (w : World) (sv qv v : Value) (B1 B2 : Nat) (S1 Q1 : List FrK), Tabs w → InK frS w B1 sv S1 → S1.map (·.1) = S.map (·.1) → InK frS w B2 qv Q1 → Q1.map (·.1) = Q.map (·.1) → OpVal w v ps → Calls Tryd.prog 5 #[.agg #[.int .i64 ep, .int .i64 nx, sv, qv, .int .i64 hd], .agg #[.int .i64 pe, .int .i64 num, .bool bare, .int .i64 ack, .int .i64 fk, .int .i64 fh, .int .i64 fe, v, .string tx]] w fun r w' => Hears w' r re rn rh er rs rq rp rf rt ∧ Below w.heap.size w w') ∧
      (∀ (w : World) (sv qv v : Value) (B1 B2 : Nat) (S1 Q1 : List FrK), Tabs w → InK frS w B1 sv S1 → S1.map (·.1) = S.map (·.1) → InK frS w B2 qv Q1 → Q1.map (·.1) = Q.map (·.1) → OpVal w v ps → Calls Tryd.prog 6 #[.agg #[.int .i64 ep, .int .i64 nx, sv, qv, .int .i64 hd], .agg #[.int .i64 pe, .int .i64 num, .bool bare, .int .i64 ack, .int .i64 fk, .int .i64 fh, .int .i64 fe, v, .string tx]] w fun r w' => Hears w' r re rn rh er rs rq rp rf rt ∧ Below w.heap.size w w') ∧
      ((∀ x ∈ rs, x.op.length ≤ 1048577) ∧ (∀ x ∈ rq, x.op.length ≤ 1048577) ∧ rs.length ≤ 1048577 ∧ rq.length ≤ 1048577 ∧ (∀ p ∈ rp, p.frame.op.length ≤ 1048577) ∧ rp.length ≤ 1048577 ∧ rf.op.length ≤ 1048577) := by
  have hfr : ∀ {S1 Q1 : List FrK}, S1.map (·.1) = S.map (·.1) → Q1.map (·.1) = Q.map (·.1) → mkL ep nx hd S1 Q1 = mkL ep nx hd S Q ∧ (∀ x ∈ S1, FrSmall x.1) ∧ (∀ x ∈ Q1, FrSmall x.1) ∧ S1.length ≤ 1048576 ∧ Q1.length ≤ 1048576 := by
    intro S1 Q1 e1 e2
    refine ⟨by unfold mkL; rw [e1, e2], fun x hx => ?_, fun x hx => ?_, ?_, ?_⟩
    · have : x.1 ∈ S.map (·.1) := by rw [← e1]; exact List.mem_map_of_mem hx
      obtain ⟨y, hy, he⟩ := List.mem_map.1 this
      rw [← he]
      exact fS y hy
    · have : x.1 ∈ Q.map (·.1) := by rw [← e2]; exact List.mem_map_of_mem hx
      obtain ⟨y, hy, he⟩ := List.mem_map.1 this
      rw [← he]
      exact fQ y hy
    · have := congrArg List.length e1
      simp only [List.length_map] at this
      omega
    · have := congrArg List.length e2
      simp only [List.length_map] at this
      omega
  by_cases herr : lhearErr (mkL ep nx hd S Q) ⟨pe, num, bare, ack, ⟨fk, fh, fe, ps, tx⟩⟩ = 0
  · obtain ⟨H, T, F, hH⟩ := hear_way bare num hd ⟨fk, fh, fe, ps, tx⟩
    have hS0 : ∀ x ∈ (behindL (mkL ep nx hd S Q) ack).sent, x.op.length ≤ 1048577 := fun x hx => by
      obtain ⟨y, hy, rfl⟩ := List.mem_map.1 (List.mem_of_mem_drop (show x ∈ (S.map (·.1)).drop _ from hx))
      have := (fS y hy).op.1
      omega
    have hQ0 : ∀ x ∈ Q.map (·.1), x.op.length ≤ 1048577 := fun x hx => by
      obtain ⟨y, hy, rfl⟩ := List.mem_map.1 hx
      have := (fQ y hy).op.1
      omega
    have hSl : (behindL (mkL ep nx hd S Q) ack).sent.length ≤ 1048576 := by
      show ((S.map (·.1)).drop _).length ≤ _
      rw [List.length_drop, List.length_map]
      omega
    have hQl : (Q.map (·.1)).length ≤ 1048576 := by rw [List.length_map]; exact lQ
    have hgk := goK_le (behindL (mkL ep nx hd S Q) ack).sent.length (Q.map (·.1)).length nx
    refine ⟨ep, nx + (goK (behindL (mkL ep nx hd S Q) ack).sent.length (Q.map (·.1)).length nx : Nat), H, 0, (LinkI.go ⟨ep, nx, (behindL (mkL ep nx hd S Q) ack).sent, Q.map (·.1), H⟩).1.sent, (LinkI.go ⟨ep, nx, (behindL (mkL ep nx hd S Q) ack).sent, Q.map (·.1), H⟩).1.queue, (LinkI.go ⟨ep, nx, (behindL (mkL ep nx hd S Q) ack).sent, Q.map (·.1), H⟩).2 ++ (if bare = true then [] else [⟨ep, 0, true, H, fr0⟩]), F, T, ?_, ?_, ?_⟩
    · intro w sv qv v B1 B2 S1 Q1 hT h1 e1 h2 e2 ho
      obtain ⟨em, s1, s2, l1, l2⟩ := hfr e1 e2
      have := lhear_ok ep nx hd S1 Q1 sv qv pe num bare ack fk fh fe ps tx v w (h1.base (Nat.zero_le _)) (h2.base (Nat.zero_le _)) s1 s2 l1 l2 ho hs hT (by rw [em]; exact herr) H T F hH
      rw [em, e2] at this
      refine this.mono ?_
      rintro r w' ⟨sv', qv', pv, fv, rfl, hG, ho', hb⟩
      obtain ⟨S', Q', P', sa', sc', qa', qc', pa', pc', rfl, rfl, rfl, hG'⟩ := hG.laid0
      obtain ⟨ua, uc, rfl⟩ := own_form ho'
      exact ⟨⟨S', Q', P', sa', sc', qa', qc', pa', pc', ua, uc, rfl, hG', own_opAtH ho'⟩, hb⟩
    · intro w sv qv v B1 B2 S1 Q1 hT h1 e1 h2 e2 ho
      obtain ⟨em, s1, s2, l1, l2⟩ := hfr e1 e2
      have := linkHeard_ok ep nx hd S1 Q1 sv qv pe num bare ack fk fh fe ps tx v w (h1.base (Nat.zero_le _)) (h2.base (Nat.zero_le _)) s1 s2 l1 l2 ho hs hT (by rw [em]; exact herr) H T F hH
      rw [em, e2] at this
      refine this.mono ?_
      rintro r w' ⟨sv', qv', pv, fv, rfl, hG, ho', hb⟩
      obtain ⟨S', Q', P', sa', sc', qa', qc', pa', pc', rfl, rfl, rfl, hG'⟩ := hG.laid0
      obtain ⟨ua, uc, rfl⟩ := own_form ho'
      exact ⟨⟨S', Q', P', sa', sc', qa', qc', pa', pc', ua, uc, rfl, hG', own_opAtH ho'⟩, hb⟩
    · have hF : F.op.length ≤ 1048577 := by
        rcases hH with ⟨_, _, _, _, rfl⟩ | ⟨_, _, _, rfl⟩
        · have := hs.op.1
          show ps.length ≤ _
          have h2 : ps.length ≤ 1048576 := this
          omega
        · exact Nat.zero_le _
      unfold LinkI.go
      simp only
      generalize goK (behindL (mkL ep nx hd S Q) ack).sent.length (Q.map (·.1)).length nx = k at *
      generalize (behindL (mkL ep nx hd S Q) ack).sent = S0 at *
      generalize Q.map (·.1) = Q0 at *
      refine ⟨fun x hx => ?_, fun x hx => hQ0 x (List.mem_of_mem_drop hx), ?_, ?_, ?_, ?_, hF⟩
      · rcases List.mem_append.1 hx with hx | hx
        · exact hS0 x hx
        · exact hQ0 x (List.mem_of_mem_take hx)
      · rw [List.length_append, List.length_take]; omega
      · rw [List.length_drop]; omega
      · intro p hp
        rcases List.mem_append.1 hp with hp | hp
        · exact hQ0 _ (List.mem_of_mem_take (packs_frames _ _ p hp))
        · split at hp
          · simp at hp
          · rw [List.mem_singleton.1 hp]; exact Nat.zero_le _
      · rw [List.length_append, packs_length, List.length_take]
        split <;> simp <;> omega
  · refine ⟨0, 0, 0, lhearErr (mkL ep nx hd S Q) ⟨pe, num, bare, ack, ⟨fk, fh, fe, ps, tx⟩⟩, [], [], [], fr0, false, ?_, ?_, by simp [fr0]⟩
    · intro w sv qv v B1 B2 S1 Q1 hT h1 e1 h2 e2 ho
      obtain ⟨em, s1, s2, l1, l2⟩ := hfr e1 e2
      have := lhear_bad ep nx hd S1 Q1 sv qv ⟨pe, num, bare, ack, ⟨fk, fh, fe, ps, tx⟩⟩ v w (h1.base (Nat.zero_le _)) (h2.base (Nat.zero_le _)) s1 s2 (by omega) (by omega) ho hs hT (by rw [em]; exact herr)
      rw [em] at this
      refine this.mono ?_
      rintro r w' ⟨rfl, hb⟩
      exact ⟨⟨[], [], [], none, 0, none, 0, none, 0, none, 0, rfl, ⟨inT_nil _ _ _, rfl, inT_nil _ _ _, rfl, inT_nil _ _ _, rfl⟩, own_opAtH (ua := none) (uc := 0) (os := []) (World.ownsRow_nil w' 0 _ _)⟩, hb⟩
    · intro w sv qv v B1 B2 S1 Q1 hT h1 e1 h2 e2 ho
      obtain ⟨em, s1, s2, l1, l2⟩ := hfr e1 e2
      have := linkHeard_bad ep nx hd S1 Q1 sv qv pe num bare ack fk fh fe ps tx v w (h1.base (Nat.zero_le _)) (h2.base (Nat.zero_le _)) s1 s2 (by omega) (by omega) ho hs hT (by rw [em]; exact herr)
      rw [em] at this
      refine this.mono ?_
      rintro r w' ⟨rfl, hb⟩
      exact ⟨⟨[], [], [], none, 0, none, 0, none, 0, none, 0, rfl, ⟨inT_nil _ _ _, rfl, inT_nil _ _ _, rfl, inT_nil _ _ _, rfl⟩, own_opAtH (ua := none) (uc := 0) (os := []) (World.ownsRow_nil w' 0 _ _)⟩, hb⟩

end Go.Proofs.YtnpjcdfkjgenbaaDoor
