/-
  PLAIN LEAN: steps that differ only in where, between two that are kept, the insertions stand; what grouping keeps.
-/
import Derived.Test.YtodnocplljkjnaaDoorPure

/- PLAIN LEAN: steps that differ only in where, between two that are kept, the insertions stand; what grouping keeps. -/
namespace Go.Proofs.YtodnocplljkjnaaDoor
open Go.RowKit

/-- how many runes of the old text steps go through; how many the new one has -/
def oldN : List Step → Nat
  | [] => 0
  | s :: l => (if s.1 = 2 then 0 else 1) + oldN l
def newN : List Step → Nat
  | [] => 0
  | s :: l => (if s.1 = 3 then 0 else 1) + newN l
theorem oldN_append (a b : List Step) : oldN (a ++ b) = oldN a + oldN b := by
  induction a with
  | nil => simp [oldN]
  | cons s a ih => simp only [List.cons_append, oldN, ih]; omega
theorem newN_append (a b : List Step) : newN (a ++ b) = newN a + newN b := by
  induction a with
  | nil => simp [newN]
  | cons s a ih => simp only [List.cons_append, newN, ih]; omega
theorem oldN_rep (n : Nat) (k r : Int) (h : k ≠ 2) : oldN (List.replicate n (k, r)) = n := by
  induction n with
  | zero => rfl
  | succ n ih => simp only [List.replicate_succ, oldN, if_neg h, ih]; omega
theorem newN_rep (n : Nat) (k r : Int) (h : k ≠ 3) : newN (List.replicate n (k, r)) = n := by
  induction n with
  | zero => rfl
  | succ n ih => simp only [List.replicate_succ, newN, if_neg h, ih]; omega
theorem newN_del (n : Nat) (r : Int) : newN (List.replicate n (3, r)) = 0 := by
  induction n with
  | zero => rfl
  | succ n ih => simp [List.replicate_succ, newN, ih]
theorem oldN_ins (rs : List Nat) : oldN (insS rs) = 0 := by
  induction rs with
  | nil => rfl
  | cons r rs ih => simpa [insS, oldN] using ih
theorem newN_ins (rs : List Nat) : newN (insS rs) = rs.length := by
  induction rs with
  | nil => rfl
  | cons r rs ih =>
    have : newN (insS (r :: rs)) = 1 + newN (insS rs) := by simp [insS, newN]
    rw [this, ih, List.length_cons]; omega
theorem oldN_le (l : List Step) : oldN l ≤ l.length := by
  induction l with
  | nil => simp [oldN]
  | cons s l ih => simp only [oldN, List.length_cons]; split <;> omega
theorem newN_le (l : List Step) : newN l ≤ l.length := by
  induction l with
  | nil => simp [newN]
  | cons s l ih => simp only [newN, List.length_cons]; split <;> omega
theorem len_le (l : List Step) : l.length ≤ oldN l + newN l := by
  induction l with
  | nil => simp
  | cons s l ih =>
    simp only [oldN, newN, List.length_cons]
    split
    · rw [if_neg (by omega)]; omega
    · omega

theorem oldN_stepsOf (p : Part) : oldN (stepsOf p) = if p.kind = 2 then 0 else p.n.toNat := by
  unfold stepsOf
  split
  · exact oldN_ins _
  · rename_i h; exact oldN_rep _ _ _ h
theorem newN_stepsOf (p : Part) : newN (stepsOf p) = if p.kind = 3 then 0 else weight p := by
  unfold stepsOf weight
  by_cases h2 : p.kind = 2
  · rw [if_pos h2, if_pos h2, if_neg (by omega)]; exact newN_ins _
  · rw [if_neg h2, if_neg h2]
    by_cases h3 : p.kind = 3
    · rw [if_pos h3, h3]; exact newN_del _ _
    · rw [if_neg h3]; exact newN_rep _ _ _ h3
theorem fromN_steps (ps : List Part) : fromN ps = oldN (steps ps) := by
  induction ps with
  | nil => rfl
  | cons p r ih => rw [steps_cons, oldN_append, oldN_stepsOf, ← ih]; rfl
theorem toN_steps (ps : List Part) : toN ps = newN (steps ps) := by
  induction ps with
  | nil => rfl
  | cons p r ih => rw [steps_cons, newN_append, newN_stepsOf, ← ih]; rfl

/-- a step as it may be -/
def StepOk (s : Step) : Prop := s = (1, 0) ∨ s = (3, 0) ∨ ∃ r : Nat, CP r ∧ s = (2, (r : Int))
def StepsOk (l : List Step) : Prop := ∀ s ∈ l, StepOk s
theorem StepsOk.nil : StepsOk [] := fun s h => by cases h
theorem StepsOk.tail {s : Step} {l : List Step} (h : StepsOk (s :: l)) : StepsOk l := fun x hx => h x (List.mem_cons_of_mem _ hx)
theorem StepsOk.head {s : Step} {l : List Step} (h : StepsOk (s :: l)) : StepOk s := h s List.mem_cons_self
theorem StepsOk.cons {s : Step} {l : List Step} (h : StepOk s) (k : StepsOk l) : StepsOk (s :: l) := fun x hx => by
  rcases List.mem_cons.1 hx with rfl | hx
  · exact h
  · exact k x hx
theorem StepsOk.append {a b : List Step} (h : StepsOk a) (k : StepsOk b) : StepsOk (a ++ b) := fun x hx => by
  rcases List.mem_append.1 hx with hx | hx
  · exact h x hx
  · exact k x hx
theorem StepOk.keep : StepOk (1, 0) := .inl rfl
theorem StepsOk.keeps (n : Nat) : StepsOk (List.replicate n (1, 0)) := fun x hx => by rw [List.eq_of_mem_replicate hx]; exact .inl rfl
theorem StepsOk.dels (n : Nat) : StepsOk (List.replicate n (3, 0)) := fun x hx => by rw [List.eq_of_mem_replicate hx]; exact .inr (.inl rfl)
theorem StepsOk.ins {rs : List Nat} (h : ∀ r ∈ rs, CP r) : StepsOk (insS rs) := fun x hx => by
  obtain ⟨r, hr, rfl⟩ := List.mem_map.1 hx
  exact .inr (.inr ⟨r, h r hr, rfl⟩)
theorem StepOk.cp {s : Step} (h : StepOk s) (h2 : s.1 = 2) : CP s.2.toNat := by
  rcases h with rfl | rfl | ⟨r, hr, rfl⟩
  · simp at h2
  · simp at h2
  · simpa using hr
theorem steps_ok {ps : List Part} (h : ∀ p ∈ ps, Good p) : StepsOk (steps ps) := by
  intro s hs
  obtain ⟨p, hp, hs⟩ := List.mem_flatMap.1 hs
  unfold stepsOf at hs
  have g := h p hp
  split at hs
  · rename_i hk
    obtain ⟨r, hr, rfl⟩ := List.mem_map.1 hs
    exact .inr (.inr ⟨r, (g.text hk).2.1.cp r hr, rfl⟩)
  · rename_i hk
    rw [List.eq_of_mem_replicate hs]
    rcases g.kind with h1 | h1 | h1
    · rw [h1]; exact .inl rfl
    · exact absurd h1 hk
    · rw [h1]; exact .inr (.inl rfl)

/-- the same but for an insertion and a deletion side by side -/
inductive Sim : List Step → List Step → Prop
  | refl (l : List Step) : Sim l l
  | swap (r : Nat) (l : List Step) : Sim ((3, 0) :: (2, (r : Int)) :: l) ((2, (r : Int)) :: (3, 0) :: l)
  | cons (s : Step) {a b : List Step} : Sim a b → Sim (s :: a) (s :: b)
  | trans {a b c : List Step} : Sim a b → Sim b c → Sim a c
  | symm {a b : List Step} : Sim a b → Sim b a

theorem Sim.of_eq {a b : List Step} (h : a = b) : Sim a b := h ▸ .refl a
theorem Sim.left (c : List Step) {a b : List Step} (h : Sim a b) : Sim (c ++ a) (c ++ b) := by
  induction c with
  | nil => exact h
  | cons s c ih => exact ih.cons s
theorem Sim.right {a b : List Step} (h : Sim a b) (c : List Step) : Sim (a ++ c) (b ++ c) := by
  induction h with
  | refl l => exact .refl _
  | swap r l => exact .swap r (l ++ c)
  | cons s _ ih => exact ih.cons s
  | trans _ _ i j => exact i.trans j
  | symm _ ih => exact ih.symm
theorem Sim.pen {a b : List Step} (h : Sim a b) : ∀ P : PenS, a.foldl penStep P = b.foldl penStep P := by
  induction h with
  | refl l => intro P; rfl
  | swap r l => intro P; simp [penStep, PenS.insert, PenS.remove]
  | cons s _ ih => intro P; exact ih _
  | trans _ _ i j => intro P; exact (i P).trans (j P)
  | symm _ ih => intro P; exact (ih P).symm
theorem Sim.group {a b : List Step} (h : Sim a b) : group a = group b := by unfold YtodnocplljkjnaaDoor.group penOf; rw [h.pen]
theorem Sim.apply {a b : List Step} (h : Sim a b) : ∀ rs, applyS rs a = applyS rs b := by
  induction h with
  | refl l => intro rs; rfl
  | swap r l => intro rs; simp [applyS]
  | cons s _ ih => intro rs; simp only [applyS, ih]
  | trans _ _ i j => intro rs; exact (i rs).trans (j rs)
  | symm _ ih => intro rs; exact (ih rs).symm
theorem Sim.olds {a b : List Step} (h : Sim a b) : oldN a = oldN b := by
  induction h with
  | refl l => rfl
  | swap r l => simp [oldN]
  | cons s _ ih => simp only [oldN, ih]
  | trans _ _ i j => exact i.trans j
  | symm _ ih => exact ih.symm
theorem Sim.news {a b : List Step} (h : Sim a b) : newN a = newN b := by
  induction h with
  | refl l => rfl
  | swap r l => simp [newN]
  | cons s _ ih => simp only [newN, ih]
  | trans _ _ i j => exact i.trans j
  | symm _ ih => exact ih.symm
theorem Sim.len {a b : List Step} (h : Sim a b) : a.length = b.length := by
  induction h with
  | refl l => rfl
  | swap r l => rfl
  | cons s _ ih => simp [ih]
  | trans _ _ i j => exact i.trans j
  | symm _ ih => exact ih.symm
theorem Sim.mem {a b : List Step} (h : Sim a b) : ∀ s, s ∈ a ↔ s ∈ b := by
  induction h with
  | refl l => intro s; rfl
  | swap r l => intro s; simp only [List.mem_cons]; constructor <;> (rintro (h | h | h) <;> simp [h])
  | cons x _ ih => intro s; simp only [List.mem_cons, ih]
  | trans _ _ i j => intro s; exact (i s).trans (j s)
  | symm _ ih => intro s; exact (ih s).symm
theorem Sim.inv {a b : List Step} (h : Sim a b) : ∀ rs, Sim (invS rs a) (invS rs b) := by
  induction h with
  | refl l => intro rs; exact .refl _
  | swap r l => intro rs; simp only [invS]; exact (Sim.swap _ _).symm
  | cons s _ ih =>
    intro rs
    simp only [invS]
    split
    · exact (ih _).cons _
    · split
      · exact (ih _).cons _
      · exact (ih _).cons _
  | trans _ _ i j => intro rs; exact (i rs).trans (j rs)
  | symm _ ih => intro rs; exact (ih rs).symm
/-- an insertion goes ahead of deletions -/
theorem Sim.dels (n r : Nat) (l : List Step) : Sim (List.replicate n (3, 0) ++ (2, (r : Int)) :: l) ((2, (r : Int)) :: (List.replicate n (3, 0) ++ l)) := by
  induction n with
  | zero => exact .refl _
  | succ n ih =>
    rw [List.replicate_succ, List.cons_append, List.cons_append]
    exact (ih.cons (3, 0)).trans (.swap r _)

/-- what a pen that wrote proper steps holds -/
structure PenGood (m : Nat) (P : PenS) (rs : List Nat) : Prop where
  cp : ∀ r ∈ rs, CP r
  ins : P.ins = str rs
  few : rs.length ≤ m
  del : P.del ≤ m
  chain : Chain 0 P.done
  last : ∀ D p, P.done = D ++ [p] → p.kind = 1

theorem chain_last : ∀ (ps : List Part) (ah : Int) (p : Part), Chain ah ps → Good p → (∀ D q, ps = D ++ [q] → Fits q.kind p.kind) → (ps = [] → Fits ah p.kind) → Chain ah (ps ++ [p])
  | [], ah, p, _, g, _, h0 => ⟨g, h0 rfl, trivial⟩
  | x :: r, ah, p, h, g, hl, _ => by
    refine ⟨h.1, h.2.1, chain_last r x.kind p h.2.2 g (fun D q e => hl (x :: D) q (by rw [e]; rfl)) (fun e => ?_)⟩
    subst e
    exact hl [] x rfl
theorem good_keep {n : Nat} (h1 : 1 ≤ n) (h2 : n ≤ 4000) : Good ⟨1, (n : Int), ByteArray.empty⟩ :=
  ⟨.inl rfl, fun _ => ⟨by simp only; omega, by simp only; omega, rfl⟩, fun h => by simp at h⟩
theorem good_del {n : Nat} (h1 : 1 ≤ n) (h2 : n ≤ 4000) : Good ⟨3, (n : Int), ByteArray.empty⟩ :=
  ⟨.inr (.inr rfl), fun _ => ⟨by simp only; omega, by simp only; omega, rfl⟩, fun h => by simp at h⟩
theorem good_ins {rs : List Nat} (h : ∀ r ∈ rs, CP r) (h1 : (str rs).size ≠ 0) (h2 : rs.length ≤ 4000) : Good ⟨2, 0, str rs⟩ :=
  ⟨.inr (.inl rfl), fun h => absurd rfl h, fun _ => ⟨rfl, valid_str h, by simp only; rw [runes_str h]; exact h2, h1⟩⟩
theorem append_one_inj {α : Type} {a b : List α} {x y : α} (h : a ++ [x] = b ++ [y]) : a = b ∧ x = y := by
  have := List.append_inj' h rfl
  exact ⟨this.1, by simpa using this.2⟩

theorem PenGood.all {m : Nat} {P : PenS} {rs : List Nat} (h : PenGood m P rs) (hm : m ≤ 4000) : Chain 0 P.all ∧ steps P.all = steps P.done ++ insS rs ++ List.replicate P.del (3, 0) := by
  have h1 : Chain 0 (P.done ++ waitIns P) ∧ steps (P.done ++ waitIns P) = steps P.done ++ insS rs := by
    unfold waitIns
    by_cases hz : P.ins.size = 0
    · have hr : rs = [] := by
        cases rs with
        | nil => rfl
        | cons r rs =>
          exfalso
          rw [h.ins] at hz
          have e : str (r :: rs) = str [r] ++ str rs := by rw [← str_append]; rfl
          rw [e, ByteArray.size_append] at hz
          have h2 := enc_pos (h.cp r List.mem_cons_self)
          have h3 : (str [r]).size = (encs [r]).length := by
            rw [← str_bytes, bytes_len]
          rw [encs_cons, List.length_append] at h3
          omega
      rw [if_pos hz, hr]
      simp [insS, h.chain]
    · rw [if_neg hz, h.ins]
      have hz' : (str rs).size ≠ 0 := by rw [← h.ins]; exact hz
      refine ⟨chain_last _ _ _ h.chain (good_ins h.cp hz' (by have := h.few; omega)) (fun D q e => ?_) (fun _ => by unfold Fits; simp), ?_⟩
      · have := h.last D q e
        rw [this]; unfold Fits; simp
      · unfold steps
        rw [List.flatMap_append]
        congr 1
        simp [stepsOf, runes_str h.cp, insS]
  unfold PenS.all waitDel
  by_cases hd : P.del = 0
  · rw [if_pos hd, hd]
    simpa using h1
  · rw [if_neg hd]
    refine ⟨chain_last _ _ _ h1.1 (good_del (by omega) (by have := h.del; omega)) (fun D q e => ?_) (fun _ => by unfold Fits; simp), ?_⟩
    · have hk : q.kind ≠ 3 := by
        unfold waitIns at e
        split at e
        · rw [List.append_nil] at e
          rw [h.last D q e]; decide
        · have := (append_one_inj e).2
          rw [← this]; simp
      unfold Fits
      simp only
      omega
    · have e : steps ((P.done ++ waitIns P) ++ [⟨3, (P.del : Int), ByteArray.empty⟩]) = steps (P.done ++ waitIns P) ++ List.replicate P.del (3, 0) := by
        unfold steps
        rw [List.flatMap_append]
        congr 1
        simp [stepsOf]
      rw [e, h1.2]

theorem steps_addKeep {D : List Part} (hD : ∀ p ∈ D, p.kind = 1 → 0 ≤ p.n) : steps (addKeep D 1) = steps D ++ [(1, 0)] := by
  rcases List.eq_nil_or_concat D with rfl | ⟨D0, p, rfl⟩
  · rw [addKeep_nil]; rfl
  · rw [List.concat_eq_append] at *
    by_cases hk : p.kind = 1
    · have hn := hD p (by simp) hk
      rw [addKeep_grow _ _ _ hk]
      unfold steps
      rw [List.flatMap_append, List.flatMap_append, List.append_assoc]
      congr 1
      have e : (p.n + 1).toNat = p.n.toNat + 1 := by omega
      simp [stepsOf, hk, e, List.replicate_succ']
    · rw [addKeep_new _ _ _ hk]
      unfold steps
      rw [List.flatMap_append]
      congr 1
theorem good_all_keep {ps : List Part} (h : ∀ p ∈ ps, Good p) : ∀ p ∈ ps, p.kind = 1 → 0 ≤ p.n := fun p hp hk => by
  have := (h p hp).count (by omega)
  omega
theorem chain_addKeep {m : Nat} {D : List Part} (h : Chain 0 D) (hm : m < 4000) (hk : ∀ p ∈ D, p.kind = 1 → p.n ≤ m) : Chain 0 (addKeep D 1) ∧ ∀ D0 p, addKeep D 1 = D0 ++ [p] → p.kind = 1 := by
  rcases List.eq_nil_or_concat D with rfl | ⟨D0, p, rfl⟩
  · rw [addKeep_nil]
    refine ⟨⟨good_keep (by omega) (by omega), by unfold Fits; simp, trivial⟩, fun D0 p e => ?_⟩
    have := (append_one_inj (a := []) e).2
    rw [← this]
  · rw [List.concat_eq_append] at *
    have gp := h.good p (by simp)
    by_cases h1 : p.kind = 1
    · rw [addKeep_grow _ _ _ h1]
      obtain ⟨g1, g2, g3⟩ := gp.count (by omega)
      have hkp := hk p (by simp) h1
      have hc : ∀ (ps : List Part) (ah : Int), Chain ah (ps ++ [p]) → Chain ah ps ∧ (∀ D q, ps = D ++ [q] → Fits q.kind p.kind) ∧ (ps = [] → Fits ah p.kind) := by
        intro ps
        induction ps with
        | nil => intro ah hc; exact ⟨trivial, fun D q e => by simp at e, fun _ => hc.2.1⟩
        | cons x r ih =>
          intro ah hc
          obtain ⟨i1, i2, i3⟩ := ih x.kind hc.2.2
          refine ⟨⟨hc.1, hc.2.1, i1⟩, fun D q e => ?_, fun e => by cases e⟩
          cases D with
          | nil =>
            simp at e
            obtain ⟨rfl, rfl⟩ := e
            exact i3 rfl
          | cons y D =>
            simp at e
            exact i2 D q e.2
      obtain ⟨c1, c2, c3⟩ := hc D0 0 h
      refine ⟨chain_last _ _ _ c1 ?_ (fun D q e => by have := c2 D q e; rw [h1] at this; exact this) (fun e => by have := c3 e; rw [h1] at this; exact this), fun D p' e => by rw [← (append_one_inj e).2]⟩
      exact ⟨.inl rfl, fun _ => ⟨by simp only; omega, by simp only; omega, g3⟩, fun h => by simp at h⟩
    · rw [addKeep_new _ _ _ h1]
      refine ⟨chain_last _ _ _ h (good_keep (n := 1) (by omega) (by omega)) (fun D q e => ?_) (fun e => by simp at e), fun D q e => by rw [← (append_one_inj e).2]⟩
      have := (append_one_inj e).2
      subst this
      have := gp.kind
      unfold Fits
      simp only
      omega

/-- a pen that wrote proper steps -/
theorem penOf_good (l : List Step) : StepsOk l → l.length ≤ 4000 → (∃ rs, PenGood l.length (penOf l) rs) ∧ Sim (steps (penOf l).all) l := by
  induction h : l.length generalizing l with
  | zero =>
    intro _ _
    have : l = [] := List.length_eq_zero_iff.1 h
    subst this
    exact ⟨⟨[], ⟨(fun r hr => by cases hr), rfl, Nat.le_refl _, Nat.le_refl _, trivial, fun D p e => by simp [penOf, PenS.new] at e⟩⟩, .refl _⟩
  | succ m ih =>
    intro hok hl
    rcases List.eq_nil_or_concat l with rfl | ⟨l0, s, rfl⟩
    · simp at h
    · rw [List.concat_eq_append] at *
      have h0 : l0.length = m := by simpa using h
      obtain ⟨⟨rs, hg⟩, hs⟩ := ih l0 h0 (fun x hx => hok x (List.mem_append_left _ hx)) (by omega)
      obtain ⟨hca, hst⟩ := hg.all (by omega)
      have hps := penOf_ok l0
      rw [h0] at hps
      have hstep : penOf (l0 ++ [s]) = penStep (penOf l0) s := by rw [penOf_append]; rfl
      rw [hstep]
      rcases hok s (by simp) with rfl | rfl | ⟨r, hr, rfl⟩
      · have e : penStep (penOf l0) (1, 0) = (penOf l0).keep 1 := by simp [penStep]
        rw [e]
        have hall : ∀ p ∈ (penOf l0).all, p.kind = 1 → p.n ≤ (m : Int) := fun p hp hk => (hps.all.2 p hp hk).2
        obtain ⟨k1, k2⟩ := chain_addKeep hca (by omega) hall
        refine ⟨⟨[], ⟨(fun r hr => by cases hr), rfl, Nat.zero_le _, Nat.zero_le _, k1, k2⟩⟩, ?_⟩
        have e2 : ((penOf l0).keep 1).all = addKeep (penOf l0).all 1 := all_keep _
        rw [e2, steps_addKeep (good_all_keep hca.good)]
        exact hs.right _
      · have e : penStep (penOf l0) (3, 0) = (penOf l0).remove 1 := by simp [penStep]
        rw [e]
        have hg' : PenGood (m + 1) ((penOf l0).remove 1) rs := ⟨hg.cp, hg.ins, by have := hg.few; omega, by have := hg.del; simp only [PenS.remove]; omega, hg.chain, hg.last⟩
        refine ⟨⟨rs, hg'⟩, ?_⟩
        rw [(hg'.all (by omega)).2]
        have e2 : steps ((penOf l0).remove 1).done ++ insS rs ++ List.replicate ((penOf l0).remove 1).del (3, 0) = steps (penOf l0).all ++ [(3, 0)] := by
          rw [hst]
          simp [PenS.remove, List.replicate_succ']
        rw [e2]
        exact hs.right _
      · have e : penStep (penOf l0) (2, (r : Int)) = (penOf l0).insert (str [r]) := by simp [penStep]
        rw [e]
        have hg' : PenGood (m + 1) ((penOf l0).insert (str [r])) (rs ++ [r]) := by
          refine ⟨fun x hx => ?_, ?_, by have := hg.few; simp; omega, by have := hg.del; simp only [PenS.insert]; omega, hg.chain, hg.last⟩
          · rcases List.mem_append.1 hx with hx | hx
            · exact hg.cp x hx
            · simp at hx; subst hx; exact hr
          · rw [str_append, ← hg.ins]; rfl
        refine ⟨⟨_, hg'⟩, ?_⟩
        rw [(hg'.all (by omega)).2]
        refine Sim.trans ?_ (hs.right _)
        rw [hst]
        have e3 : insS (rs ++ [r]) = insS rs ++ [(2, (r : Int))] := by simp [insS]
        rw [e3]
        simp only [PenS.insert, List.append_assoc]
        exact (((Sim.dels _ r []).left (insS rs)).left _).symm |> fun q => by simpa using q

/-- GROUPED STEPS MAY BE, and do what the steps do. -/
theorem group_sim {l : List Step} (h : StepsOk l) (hl : l.length ≤ 4000) : Sim (steps (group l)) l := (penOf_good l h hl).2
theorem group_chain {l : List Step} (h : StepsOk l) (hl : l.length ≤ 4000) : Chain 0 (group l) := by
  obtain ⟨⟨rs, hg⟩, _⟩ := penOf_good l h hl
  exact (hg.all hl).1
theorem group_ok {l : List Step} (h : StepsOk l) (hl : l.length ≤ 4000) : OpOk (group l) := by
  have s := group_sim h hl
  refine ⟨group_chain h hl, ?_, ?_, ?_⟩
  · have := group_len l; omega
  · rw [fromN_steps, s.olds]; have := oldN_le l; omega
  · rw [toN_steps, s.news]; have := newN_le l; omega
theorem group_from {l : List Step} (h : StepsOk l) (hl : l.length ≤ 4000) : fromN (group l) = oldN l := by rw [fromN_steps, (group_sim h hl).olds]
theorem group_to {l : List Step} (h : StepsOk l) (hl : l.length ≤ 4000) : toN (group l) = newN l := by rw [toN_steps, (group_sim h hl).news]
theorem group_lens {l : List Step} (h : StepsOk l) (hl : l.length ≤ 4000) : lens (group l) = ((oldN l : Int), (newN l : Int)) := by
  rw [(group_ok h hl).lens, group_from h hl, group_to h hl]
theorem group_stepsOk {l : List Step} (h : StepsOk l) (hl : l.length ≤ 4000) : StepsOk (steps (group l)) := fun s hs => h s (((group_sim h hl).mem s).1 hs)
theorem group_again {l : List Step} (h : StepsOk l) (hl : l.length ≤ 4000) : group (steps (group l)) = group l := (group_sim h hl).group

end Go.Proofs.YtodnocplljkjnaaDoor

/- PLAIN LEAN: TWO WAYS MEET, two in one do what both do, what is inverted brings the text back; on steps. -/
namespace Go.Proofs.YtodnocplljkjnaaDoor
open Go.RowKit

theorem nil_of_oldN {l : List Step} (h : oldN l = 0) (s : Step) (r : List Step) (e : l = s :: r) : s.1 = 2 := by
  subst e
  simp only [oldN] at h
  by_cases h2 : s.1 = 2
  · exact h2
  · rw [if_neg h2] at h; omega

/-- TWO WAYS MEET. -/
theorem xf_apply (p q : List Step) : ∀ rs : List Nat, StepsOk p → StepsOk q → oldN p = rs.length → oldN q = rs.length →
    applyS (applyS rs p) (xf p q).2 = applyS (applyS rs q) (xf p q).1 := by
  fun_induction xf p q with
  | case1 => intro rs _ _ _ _; simp [applyS]
  | case2 x p h ih =>
    intro rs hp hq h1 h2
    have h1' : oldN p = rs.length := by simpa [oldN, h] using h1
    have := ih rs hp.tail hq h1' h2
    simp only [applyS, h] at this ⊢
    simpa using this
  | case3 x p h =>
    intro rs _ _ h1 h2
    simp only [oldN, if_neg h] at h1 h2; omega
  | case4 y q h ih =>
    intro rs hp hq h1 h2
    have h2' : oldN q = rs.length := by simpa [oldN, h] using h2
    have := ih rs hp hq.tail h1 h2'
    simp only [applyS, h] at this ⊢
    simpa using this
  | case5 y q h =>
    intro rs _ _ h1 h2
    simp only [oldN, if_neg h] at h1 h2; omega
  | case6 x p y q h ih =>
    intro rs hp hq h1 h2
    have h1' : oldN p = rs.length := by simpa [oldN, h] using h1
    have := ih rs hp.tail hq h1' h2
    generalize applyS rs (y :: q) = Y at *
    simp only [applyS, h]
    simpa using this
  | case7 x p y q h h' ih =>
    intro rs hp hq h1 h2
    have h2' : oldN q = rs.length := by simpa [oldN, h'] using h2
    have := ih rs hp hq.tail h1 h2'
    generalize applyS rs (x :: p) = X at *
    simp only [applyS, h']
    simpa using this
  | case8 x p y q h h' ih =>
    intro rs hp hq h1 h2
    cases rs with
    | nil => simp only [oldN, if_neg h, List.length_nil] at h1; omega
    | cons r rs =>
      have h1' : oldN p = rs.length := by simp only [oldN, if_neg h, List.length_cons] at h1; omega
      have h2' : oldN q = rs.length := by simp only [oldN, if_neg h', List.length_cons] at h2; omega
      have := ih rs hp.tail hq.tail h1' h2'
      rcases hp.head with rfl | rfl | ⟨_, _, rfl⟩
      · rcases hq.head with rfl | rfl | ⟨_, _, rfl⟩
        · simp [applyS, this]
        · simp [applyS, this]
        · simp at h'
      · rcases hq.head with rfl | rfl | ⟨_, _, rfl⟩
        · simp [applyS, this]
        · simp [applyS, this]
        · simp at h'
      · simp at h
theorem xf_ok (p q : List Step) (hp : StepsOk p) (hq : StepsOk q) : StepsOk (xf p q).1 ∧ StepsOk (xf p q).2 := by
  fun_induction xf p q with
  | case1 => exact ⟨.nil, .nil⟩
  | case2 x p h ih => exact ⟨.cons hp.head (ih hp.tail hq).1, .cons .keep (ih hp.tail hq).2⟩
  | case3 x p h => exact ⟨.nil, .nil⟩
  | case4 y q h ih => exact ⟨.cons .keep (ih hp hq.tail).1, .cons hq.head (ih hp hq.tail).2⟩
  | case5 y q h => exact ⟨.nil, .nil⟩
  | case6 x p y q h ih => exact ⟨.cons hp.head (ih hp.tail hq).1, .cons .keep (ih hp.tail hq).2⟩
  | case7 x p y q h h' ih => exact ⟨.cons .keep (ih hp hq.tail).1, .cons hq.head (ih hp hq.tail).2⟩
  | case8 x p y q h h' ih =>
    have i := ih hp.tail hq.tail
    refine ⟨?_, ?_⟩
    · show StepsOk ((if y.1 = 1 then [x] else []) ++ (xf p q).1)
      split
      · exact .cons hp.head i.1
      · exact i.1
    · show StepsOk ((if x.1 = 1 then [y] else []) ++ (xf p q).2)
      split
      · exact .cons hq.head i.2
      · exact i.2
theorem xf_counts (p q : List Step) (hp : StepsOk p) (hq : StepsOk q) (h : oldN p = oldN q) : oldN (xf p q).1 = newN q ∧ oldN (xf p q).2 = newN p ∧ newN (xf p q).1 = newN (xf p q).2 := by
  fun_induction xf p q with
  | case1 => simp [oldN, newN]
  | case2 x p hx ih =>
    have := ih hp.tail hq (by simpa [oldN, hx] using h)
    simp only [oldN, newN, hx] at this ⊢
    simp
    omega
  | case3 x p hx => simp only [oldN, if_neg hx] at h; omega
  | case4 y q hy ih =>
    have := ih hp hq.tail (by simpa [oldN, hy] using h)
    simp only [oldN, newN, hy] at this ⊢
    simp
    omega
  | case5 y q hy => simp only [oldN, if_neg hy] at h; omega
  | case6 x p y q hx ih =>
    have := ih hp.tail hq (by simpa [oldN, hx] using h)
    generalize newN (y :: q) = Y at *
    simp only [oldN, newN, hx] at this ⊢
    simp
    omega
  | case7 x p y q hx hy ih =>
    have := ih hp hq.tail (by simpa [oldN, hy] using h)
    generalize newN (x :: p) = X at *
    simp only [oldN, newN, hy] at this ⊢
    simp
    omega
  | case8 x p y q hx hy ih =>
    have := ih hp.tail hq.tail (by simp only [oldN, if_neg hx, if_neg hy] at h; omega)
    rcases hp.head with rfl | rfl | ⟨_, _, rfl⟩
    · rcases hq.head with rfl | rfl | ⟨_, _, rfl⟩
      · simp [oldN, newN]; omega
      · simp [oldN, newN]; omega
      · simp at hy
    · rcases hq.head with rfl | rfl | ⟨_, _, rfl⟩
      · simp [oldN, newN]; omega
      · simp [newN]; omega
      · simp at hy
    · simp at hx

/-- TWO IN ONE DO WHAT BOTH DO. -/
theorem cf_apply (p q : List Step) : ∀ rs : List Nat, StepsOk p → StepsOk q → oldN p = rs.length → newN p = oldN q → applyS rs (cf p q) = applyS (applyS rs p) q := by
  fun_induction cf p q with
  | case1 => intro rs _ _ _ _; simp [applyS]
  | case2 x p h ih =>
    intro rs hp hq h1 h2
    cases rs with
    | nil => simp only [oldN, List.length_nil] at h1; rw [if_neg (by omega)] at h1; omega
    | cons r rs =>
      have h1' : oldN p = rs.length := by simp only [oldN, List.length_cons] at h1; rw [if_neg (by omega)] at h1; omega
      have := ih rs hp.tail hq h1' (by simpa [newN, h] using h2)
      simp only [applyS, h] at this ⊢
      simpa using this
  | case3 x p h =>
    intro rs hp _ _ h2
    simp only [newN, oldN, if_neg h] at h2; omega
  | case4 y q h ih =>
    intro rs hp hq h1 h2
    have := ih rs hp hq.tail h1 (by simpa [oldN, h] using h2)
    simp only [applyS, h] at this ⊢
    simpa using this
  | case5 y q h =>
    intro rs hp _ _ h2
    simp only [newN, oldN, if_neg h] at h2; omega
  | case6 x p y q h ih =>
    intro rs hp hq h1 h2
    cases rs with
    | nil => simp only [oldN, List.length_nil] at h1; rw [if_neg (by omega)] at h1; omega
    | cons r rs =>
      have h1' : oldN p = rs.length := by simp only [oldN, List.length_cons] at h1; rw [if_neg (by omega)] at h1; omega
      have := ih rs hp.tail hq h1' (by simpa [newN, h] using h2)
      have e : applyS (r :: rs) (x :: p) = applyS rs p := by simp [applyS, h]
      have e2 : ∀ l, applyS (r :: rs) (x :: l) = applyS rs l := by intro l; simp [applyS, h]
      rw [e, e2, this]
  | case7 x p y q h h' ih =>
    intro rs hp hq h1 h2
    have := ih rs hp hq.tail h1 (by simpa [oldN, h'] using h2)
    generalize applyS rs (x :: p) = X at *
    simp only [applyS, h'] at this ⊢
    simpa using this
  | case8 x p y q h h' ih =>
    intro rs hp hq h1 h2
    rcases hp.head with rfl | rfl | ⟨r, _, rfl⟩
    · cases rs with
      | nil => simp [oldN] at h1
      | cons r rs =>
        have h1' : oldN p = rs.length := by simp [oldN] at h1; omega
        have := ih rs hp.tail hq.tail h1' (by simp only [oldN, newN, if_neg h'] at h2; simp at h2; omega)
        rcases hq.head with rfl | rfl | ⟨_, _, rfl⟩
        · simp [applyS, this]
        · simp [applyS, this]
        · simp at h'
    · simp at h
    · have := ih rs hp.tail hq.tail (by simpa [oldN] using h1) (by simp only [oldN, newN, if_neg h'] at h2; simp at h2; omega)
      rcases hq.head with rfl | rfl | ⟨_, _, rfl⟩
      · simp [applyS, this]
      · simp [applyS, this]
      · simp at h'
theorem cf_ok (p q : List Step) (hp : StepsOk p) (hq : StepsOk q) : StepsOk (cf p q) := by
  fun_induction cf p q with
  | case1 => exact .nil
  | case2 x p h ih => exact .cons hp.head (ih hp.tail hq)
  | case3 x p h => exact .nil
  | case4 y q h ih => exact .cons hq.head (ih hp hq.tail)
  | case5 y q h => exact .nil
  | case6 x p y q h ih => exact .cons hp.head (ih hp.tail hq)
  | case7 x p y q h h' ih => exact .cons hq.head (ih hp hq.tail)
  | case8 x p y q h h' ih =>
    have i := ih hp.tail hq.tail
    split
    · exact .cons hp.head i
    · split
      · exact .cons hq.head i
      · exact i
theorem cf_counts (p q : List Step) (hp : StepsOk p) (hq : StepsOk q) (h : newN p = oldN q) : oldN (cf p q) = oldN p ∧ newN (cf p q) = newN q := by
  fun_induction cf p q with
  | case1 => simp [oldN, newN]
  | case2 x p hx ih =>
    have := ih hp.tail hq (by simpa [newN, hx] using h)
    simp only [oldN, newN, hx] at this ⊢
    simp
    omega
  | case3 x p hx => simp only [newN, oldN, if_neg hx] at h; omega
  | case4 y q hy ih =>
    have := ih hp hq.tail (by simpa [oldN, hy] using h)
    simp only [oldN, newN, hy] at this ⊢
    simp
    omega
  | case5 y q hy => simp only [oldN, newN, if_neg hy] at h; omega
  | case6 x p y q hx ih =>
    have := ih hp.tail hq (by simpa [newN, hx] using h)
    generalize newN (y :: q) = Y at *
    simp only [oldN, newN, hx] at this ⊢
    simp
    omega
  | case7 x p y q hx hy ih =>
    have := ih hp hq.tail (by simpa [oldN, hy] using h)
    generalize oldN (x :: p) = X at *
    simp only [oldN, newN, hy] at this ⊢
    simp
    omega
  | case8 x p y q hx hy ih =>
    have := ih hp.tail hq.tail (by simp only [oldN, newN, if_neg hx, if_neg hy] at h; omega)
    rcases hp.head with rfl | rfl | ⟨_, _, rfl⟩
    · rcases hq.head with rfl | rfl | ⟨_, _, rfl⟩
      · simp [oldN, newN]; omega
      · simp [oldN, newN]; omega
      · simp at hy
    · simp at hx
    · rcases hq.head with rfl | rfl | ⟨_, _, rfl⟩
      · simp [oldN, newN]; omega
      · simp [oldN, newN]; omega
      · simp at hy

/-- WHAT IS INVERTED BRINGS THE TEXT BACK, and inverted again it is the same. -/
theorem inv_apply (p : List Step) : ∀ rs : List Nat, StepsOk p → oldN p = rs.length → applyS (applyS rs p) (invS rs p) = rs ∧ invS (applyS rs p) (invS rs p) = p := by
  induction p with
  | nil =>
    intro rs _ h
    cases rs with
    | nil => simp [applyS, invS]
    | cons r rs => simp [oldN] at h
  | cons s p ih =>
    intro rs hp h
    rcases hp.head with rfl | rfl | ⟨r, _, rfl⟩
    · cases rs with
      | nil => simp [oldN] at h
      | cons r rs =>
        obtain ⟨i1, i2⟩ := ih rs hp.tail (by simp [oldN] at h; omega)
        simp [applyS, invS, i1, i2]
    · cases rs with
      | nil => simp [oldN] at h
      | cons r rs =>
        obtain ⟨i1, i2⟩ := ih rs hp.tail (by simp [oldN] at h; omega)
        simp [applyS, invS, i1, i2]
    · obtain ⟨i1, i2⟩ := ih rs hp.tail (by simpa [oldN] using h)
      simp [applyS, invS, i1, i2]
theorem inv_ok (p : List Step) : ∀ rs : List Nat, StepsOk p → (∀ r ∈ rs, CP r) → oldN p = rs.length → StepsOk (invS rs p) ∧ oldN (invS rs p) = newN p ∧ newN (invS rs p) = oldN p ∧ (invS rs p).length = p.length := by
  induction p with
  | nil => intro rs _ _ _; exact ⟨.nil, rfl, rfl, rfl⟩
  | cons s p ih =>
    intro rs hp hr h
    rcases hp.head with rfl | rfl | ⟨r, _, rfl⟩
    · cases rs with
      | nil => simp [oldN] at h
      | cons r rs =>
        obtain ⟨i1, i2, i3, i4⟩ := ih rs hp.tail (fun x hx => hr x (List.mem_cons_of_mem _ hx)) (by simp [oldN] at h; omega)
        refine ⟨?_, ?_, ?_, ?_⟩
        · exact .cons .keep i1
        all_goals simp [oldN, newN, invS, i2, i3, i4]
    · cases rs with
      | nil => simp [oldN] at h
      | cons r rs =>
        obtain ⟨i1, i2, i3, i4⟩ := ih rs hp.tail (fun x hx => hr x (List.mem_cons_of_mem _ hx)) (by simp [oldN] at h; omega)
        refine ⟨?_, ?_, ?_, ?_⟩
        · have e : invS (r :: rs) ((3, 0) :: p) = (2, (r : Int)) :: invS rs p := by simp [invS]
          rw [e]
          exact .cons (.inr (.inr ⟨r, hr r List.mem_cons_self, rfl⟩)) i1
        all_goals simp [oldN, newN, invS, i2, i3, i4]
    · obtain ⟨i1, i2, i3, i4⟩ := ih rs hp.tail hr (by simpa [oldN] using h)
      refine ⟨?_, ?_, ?_, ?_⟩
      · have e : invS rs ((2, (r : Int)) :: p) = (3, 0) :: invS rs p := by simp [invS]
        rw [e]
        exact .cons (.inr (.inl rfl)) i1
      all_goals simp [oldN, newN, invS, i2, i3, i4]

theorem applyS_len (p : List Step) : ∀ rs : List Nat, StepsOk p → oldN p = rs.length → (applyS rs p).length = newN p := by
  induction p with
  | nil => intro rs _ _; simp [applyS, newN]
  | cons s p ih =>
    intro rs hp h
    rcases hp.head with rfl | rfl | ⟨r, _, rfl⟩
    · cases rs with
      | nil => simp [oldN] at h
      | cons r rs =>
        have i := ih rs hp.tail (by simp [oldN] at h; omega)
        simp [applyS, newN, i]; omega
    · cases rs with
      | nil => simp [oldN] at h
      | cons r rs =>
        have i := ih rs hp.tail (by simp [oldN] at h; omega)
        simp [applyS, newN, i]
    · have i := ih rs hp.tail (by simpa [oldN] using h)
      simp [applyS, newN, i]; omega
theorem applyS_ok {p : List Step} {rs : List Nat} (hp : StepsOk p) (hr : ∀ r ∈ rs, CP r) : ∀ r ∈ applyS rs p, CP r := applyS_cp p (fun s hs h2 => (hp s hs).cp h2) rs hr

/-- PLACES KEEP THEIR ORDER. -/
theorem move_mono (l : List Step) (x y : Nat) (u v : Bool) (hxy : x ≤ y) (huv : u = true → v = true) : ∀ a b c : Nat, b ≤ c → (l.foldl (moveStep x u) (a, b)).2 ≤ (l.foldl (moveStep y v) (a, c)).2 := by
  induction l with
  | nil => intro a b c h; exact h
  | cons s l ih =>
    intro a b c h
    simp only [List.foldl_cons, moveStep]
    split
    · refine ih _ _ _ ?_
      split
      · rename_i hx
        rw [if_pos (by rcases hx with hx | ⟨hx, hu⟩; exact .inl (by omega); by_cases he : a < y; exact .inl he; exact .inr ⟨by omega, huv hu⟩)]
        omega
      · split <;> omega
    · refine ih _ _ _ ?_
      split
      · rename_i hx
        rw [if_pos ⟨hx.1, by omega⟩]; omega
      · split <;> omega
theorem move_top (l : List Step) (x : Nat) (u : Bool) : ∀ a b : Nat, (l.foldl (moveStep x u) (a, b)).2 ≤ b + newN l := by
  induction l with
  | nil => intro a b; simp [newN]
  | cons s l ih =>
    intro a b
    simp only [List.foldl_cons, moveStep, newN]
    split
    · rename_i h2
      rw [if_neg (show ¬ s.1 = 3 by omega)]
      split
      · exact Nat.le_trans (ih _ _) (by omega)
      · exact Nat.le_trans (ih _ _) (by omega)
    · by_cases h1 : s.1 = 1 ∧ a < x
      · rw [if_pos h1, if_neg (by rw [h1.1]; decide)]
        exact Nat.le_trans (ih _ _) (by omega)
      · rw [if_neg h1]
        exact Nat.le_trans (ih _ _) (by omega)
/-- steps of runes ahead of the place, all of them: the place goes by what they leave -/
theorem move_front (l : List Step) (x : Nat) (hl : StepsOk l) : ∀ a b : Nat, a + oldN l ≤ x → l.foldl (moveStep x true) (a, b) = (a + oldN l, b + newN l) := by
  induction l with
  | nil => intro a b _; simp [oldN, newN]
  | cons s l ih =>
    intro a b h
    rw [List.foldl_cons]
    rcases hl.head with rfl | rfl | ⟨r, _, rfl⟩
    · simp only [oldN] at h
      have e : moveStep x true (a, b) (1, 0) = (a + 1, b + 1) := by
        simp only [moveStep]
        rw [if_neg (by decide)]
        rw [if_pos ⟨trivial, by simp at h; omega⟩]
      rw [e, ih hl.tail _ _ (by simp at h; omega)]
      simp [oldN, newN]; omega
    · simp only [oldN] at h
      have e : moveStep x true (a, b) (3, 0) = (a + 1, b) := by simp [moveStep]
      rw [e, ih hl.tail _ _ (by simp at h; omega)]
      simp [oldN, newN]; omega
    · simp only [oldN] at h
      have e : moveStep x true (a, b) (2, (r : Int)) = (a, b + 1) := by
        simp only [moveStep]
        rw [if_pos trivial, if_pos (by simp at h; by_cases he : a < x; exact .inl he; exact .inr ⟨by omega, trivial⟩)]
      rw [e, ih hl.tail _ _ (by simpa using h)]
      simp [oldN, newN]; omega
end Go.Proofs.YtodnocplljkjnaaDoor

/- PLAIN LEAN: who keeps all changes nothing; steps that delete nothing, or insert nothing. -/
namespace Go.Proofs.YtodnocplljkjnaaDoor
open Go.RowKit

theorem xf_keepR (A : List Step) (h : StepsOk A) : xf A (List.replicate (oldN A) (1, 0)) = (A, List.replicate (newN A) (1, 0)) := by
  induction A with
  | nil => simp [oldN, newN, xf_nil]
  | cons s A ih =>
    have i := ih h.tail
    rcases h.head with rfl | rfl | ⟨r, _, rfl⟩
    · have e : oldN ((1, 0) :: A) = oldN A + 1 := by simp [oldN]; omega
      have e2 : newN ((1, 0) :: A) = newN A + 1 := by simp [newN]; omega
      rw [e, e2, List.replicate_succ, List.replicate_succ, xf_meet _ _ _ _ (by decide) (by decide), i]
      rfl
    · have e : oldN ((3, 0) :: A) = oldN A + 1 := by simp [oldN]; omega
      have e2 : newN ((3, 0) :: A) = newN A := by simp [newN]
      rw [e, e2, List.replicate_succ, xf_meet _ _ _ _ (by decide) (by decide), i]
      rfl
    · have e : oldN ((2, (r : Int)) :: A) = oldN A := by simp [oldN]
      have e2 : newN ((2, (r : Int)) :: A) = newN A + 1 := by simp [newN]; omega
      rw [e, e2, xf_insL _ _ _ rfl, i, List.replicate_succ]
theorem noIns_keeps (n : Nat) : NoIns (List.replicate n (1, 0)) := by
  intro x r e
  cases n with
  | zero => simp at e
  | succ n => rw [List.replicate_succ] at e; simp at e; rw [← e.1]; decide
theorem xf_keepL (A : List Step) (h : StepsOk A) : xf (List.replicate (oldN A) (1, 0)) A = (List.replicate (newN A) (1, 0), A) := by
  induction A with
  | nil => simp [oldN, newN, xf_nil]
  | cons s A ih =>
    have i := ih h.tail
    rcases h.head with rfl | rfl | ⟨r, _, rfl⟩
    · have e : oldN ((1, 0) :: A) = oldN A + 1 := by simp [oldN]; omega
      have e2 : newN ((1, 0) :: A) = newN A + 1 := by simp [newN]; omega
      rw [e, e2, List.replicate_succ, List.replicate_succ, xf_meet _ _ _ _ (by decide) (by decide), i]
      rfl
    · have e : oldN ((3, 0) :: A) = oldN A + 1 := by simp [oldN]; omega
      have e2 : newN ((3, 0) :: A) = newN A := by simp [newN]
      rw [e, e2, List.replicate_succ, xf_meet _ _ _ _ (by decide) (by decide), i]
      rfl
    · have e : oldN ((2, (r : Int)) :: A) = oldN A := by simp [oldN]
      have e2 : newN ((2, (r : Int)) :: A) = newN A + 1 := by simp [newN]; omega
      rw [e, e2, xf_insR _ _ _ (noIns_keeps _) rfl, i, List.replicate_succ]
/-- where nothing is deleted, or nothing is inserted, there is one form -/
theorem Sim.eq_noDel {a b : List Step} (h : Sim a b) : (∀ s ∈ a, s.1 ≠ 3) → a = b := by
  induction h with
  | refl l => intro _; rfl
  | swap r l => intro hd; exact absurd rfl (hd (3, 0) (by simp))
  | cons s _ ih => intro hd; rw [ih fun x hx => hd x (List.mem_cons_of_mem _ hx)]
  | trans h1 _ i j => intro hd; exact (i hd).trans (j fun x hx => hd x ((h1.mem x).2 hx))
  | symm h1 ih => intro hd; exact (ih fun x hx => hd x ((h1.mem x).1 hx)).symm
theorem Sim.eq_noIns {a b : List Step} (h : Sim a b) : (∀ s ∈ a, s.1 ≠ 2) → a = b := by
  induction h with
  | refl l => intro _; rfl
  | swap r l => intro hd; exact absurd rfl (hd (2, (r : Int)) (by simp))
  | cons s _ ih => intro hd; rw [ih fun x hx => hd x (List.mem_cons_of_mem _ hx)]
  | trans h1 _ i j => intro hd; exact (i hd).trans (j fun x hx => hd x ((h1.mem x).2 hx))
  | symm h1 ih => intro hd; exact (ih fun x hx => hd x ((h1.mem x).1 hx)).symm
theorem Sim.okR {a b : List Step} (h : Sim a b) (k : StepsOk a) : StepsOk b := fun s hs => k s ((h.mem s).2 hs)

end Go.Proofs.YtodnocplljkjnaaDoor

/- PLAIN LEAN: behind two one is as it is behind one of them and then the other, if these do not insert. -/
namespace Go.Proofs.YtodnocplljkjnaaDoor
open Go.RowKit

/-- nothing is inserted -/
def Bald (l : List Step) : Prop := ∀ s ∈ l, s.1 ≠ 2
theorem Bald.tail {s : Step} {l : List Step} (h : Bald (s :: l)) : Bald l := fun x hx => h x (List.mem_cons_of_mem _ hx)
theorem Bald.head {s : Step} {l : List Step} (h : Bald (s :: l)) : s.1 ≠ 2 := h s List.mem_cons_self
theorem Bald.cons {s : Step} {l : List Step} (h : s.1 ≠ 2) (k : Bald l) : Bald (s :: l) := fun x hx => by
  rcases List.mem_cons.1 hx with rfl | hx
  · exact h
  · exact k x hx
theorem Bald.nil : Bald [] := fun s h => by cases h
theorem Bald.append {a b : List Step} (h : Bald a) (k : Bald b) : Bald (a ++ b) := fun x hx => by
  rcases List.mem_append.1 hx with hx | hx
  · exact h x hx
  · exact k x hx
theorem Bald.rep (n : Nat) (k r : Int) (h : k ≠ 2) : Bald (List.replicate n (k, r)) := fun x hx => by rw [List.eq_of_mem_replicate hx]; exact h
theorem bald_split {s : Step} (h : StepOk s) (hb : s.1 ≠ 2) : s = (1, 0) ∨ s = (3, 0) := by
  rcases h with h | h | ⟨r, _, rfl⟩
  · exact .inl h
  · exact .inr h
  · simp at hb

theorem xf_bald (O X : List Step) (h : Bald X) : Bald (xf O X).2 := by
  fun_induction xf O X with
  | case1 => exact .nil
  | case2 x p hx ih => exact .cons (by decide) (ih h)
  | case3 x p hx => exact .nil
  | case4 y q hy ih => exact absurd hy h.head
  | case5 y q hy => exact .nil
  | case6 x p y q hx ih => exact .cons (by decide) (ih h)
  | case7 x p y q hx hy ih => exact absurd hy h.head
  | case8 x p y q hx hy ih =>
    show Bald ((if x.1 = 1 then [y] else []) ++ (xf p q).2)
    split
    · exact .cons h.head (ih h.tail)
    · exact ih h.tail
theorem cf_bald (X Y : List Step) (h : Bald X) (k : Bald Y) : Bald (cf X Y) := by
  fun_induction cf X Y with
  | case1 => exact .nil
  | case2 x p hx ih => exact .cons h.head (ih h.tail k)
  | case3 x p hx => exact .nil
  | case4 y q hy ih => exact absurd hy k.head
  | case5 y q hy => exact .nil
  | case6 x p y q hx ih => exact .cons h.head (ih h.tail k)
  | case7 x p y q hx hy ih => exact absurd hy k.head
  | case8 x p y q hx hy ih =>
    have i := ih h.tail k.tail
    split
    · exact .cons h.head i
    · split
      · exact .cons k.head i
      · exact i

/-- what stands in another form goes through as it is -/
theorem Sim.xfL {a b : List Step} (h : Sim a b) : ∀ Y : List Step, StepsOk a → StepsOk Y → Bald Y → oldN a = oldN Y → Sim (xf a Y).1 (xf b Y).1 ∧ (xf a Y).2 = (xf b Y).2 := by
  induction h with
  | refl l => intro Y _ _ _ _; exact ⟨.refl _, rfl⟩
  | swap r l =>
    intro Y ha hY hb he
    cases Y with
    | nil => simp [oldN] at he
    | cons y Y =>
      have hy := hb.head
      rw [xf_meet _ _ _ _ (by decide) hy, xf_insL _ _ _ rfl, xf_insL _ _ _ rfl, xf_meet _ _ _ _ (by decide) hy]
      rcases bald_split hY.head hy with rfl | rfl
      · exact ⟨.swap r _, rfl⟩
      · exact ⟨.refl _, rfl⟩
  | cons s _ ih =>
    intro Y ha hY hb he
    by_cases hs : s.1 = 2
    · rw [xf_insL _ _ _ hs, xf_insL _ _ _ hs]
      obtain ⟨i1, i2⟩ := ih Y ha.tail hY hb (by simpa [oldN, hs] using he)
      exact ⟨i1.cons _, by rw [i2]⟩
    · cases Y with
      | nil => simp only [oldN, if_neg hs] at he; omega
      | cons y Y =>
        have hy := hb.head
        rw [xf_meet _ _ _ _ hs hy, xf_meet _ _ _ _ hs hy]
        obtain ⟨i1, i2⟩ := ih Y ha.tail hY.tail hb.tail (by simp only [oldN, if_neg hs, if_neg hy] at he; omega)
        exact ⟨i1.left _, by rw [i2]⟩
  | trans h1 h2 i j =>
    intro Y ha hY hb he
    obtain ⟨a1, a2⟩ := i Y ha hY hb he
    obtain ⟨b1, b2⟩ := j Y (h1.okR ha) hY hb (by rw [← h1.olds]; exact he)
    exact ⟨a1.trans b1, a2.trans b2⟩
  | symm h1 ih =>
    intro Y ha hY hb he
    obtain ⟨a1, a2⟩ := ih Y (h1.symm.okR ha) hY hb (by rw [h1.olds]; exact he)
    exact ⟨a1.symm, a2.symm⟩

theorem xf_two (O : List Step) : ∀ X Y : List Step, StepsOk O → StepsOk X → StepsOk Y → Bald X → Bald Y → oldN O = oldN X → newN X = oldN Y →
    xf O (cf X Y) = ((xf (xf O X).1 Y).1, cf (xf O X).2 (xf (xf O X).1 Y).2) := by
  induction O with
  | nil =>
    intro X Y _ hX hY bX bY h1 h2
    cases X with
    | cons x X => simp only [oldN, if_neg bX.head] at h1; omega
    | nil =>
      cases Y with
      | cons y Y => simp only [newN, oldN, if_neg bY.head] at h2; omega
      | nil => simp [xf_nil, cf_nil]
  | cons o O ihO =>
    intro X
    induction X with
    | nil =>
      intro Y hO hX hY bX bY h1 h2
      by_cases ho : o.1 = 2
      · have i := ihO [] Y hO.tail hX hY bX bY (by simpa [oldN, ho] using h1) h2
        rw [xf_insL _ _ _ ho, xf_insL _ _ _ ho, i]
        simp only
        rw [xf_insL _ _ _ ho]
        simp only
        rw [cf_meet _ _ _ _ (by decide) (by decide)]
        simp
      · simp only [oldN, if_neg ho] at h1; omega
    | cons x X ihX =>
      intro Y hO hX hY bX bY h1 h2
      by_cases ho : o.1 = 2
      · have i := ihO (x :: X) Y hO.tail hX hY bX bY (by simpa [oldN, ho] using h1) h2
        rw [xf_insL _ _ _ ho, xf_insL _ _ _ ho, i]
        simp only
        rw [xf_insL _ _ _ ho]
        simp only
        rw [cf_meet _ _ _ _ (by decide) (by decide)]
        simp
      · have hx := bX.head
        have h1' : oldN O = oldN X := by simp only [oldN, if_neg ho, if_neg hx] at h1; omega
        rcases bald_split hX.head hx with rfl | rfl
        · cases Y with
          | nil => simp [newN, oldN] at h2
          | cons y Y =>
            have hy := bY.head
            have i := ihO X Y hO.tail hX.tail hY.tail bX.tail bY.tail h1' (by simp only [newN, oldN, if_neg hy] at h2; simp at h2; omega)
            rw [cf_meet _ _ _ _ (by decide) hy, xf_meet _ _ _ _ ho (by decide)]
            simp only
            rcases bald_split hO.head ho with rfl | rfl
            · rcases bald_split hY.head hy with rfl | rfl
              · simp only [List.cons_append, List.nil_append, if_true]
                rw [xf_meet _ _ _ _ (by decide) (by decide), xf_meet _ _ _ _ (by decide) (by decide), i]
                simp only [List.cons_append, List.nil_append, if_true]
                rw [cf_meet _ _ _ _ (by decide) (by decide)]
                simp
              · simp only [List.cons_append, List.nil_append, if_true, show ¬ (3 : Int) = 1 by decide, if_false]
                rw [xf_meet _ _ _ _ (by decide) (by decide), xf_meet _ _ _ _ (by decide) (by decide), i]
                simp only [List.cons_append, List.nil_append, if_true, show ¬ (3 : Int) = 1 by decide, if_false]
                rw [cf_meet _ _ _ _ (by decide) (by decide)]
                simp
            · rcases bald_split hY.head hy with rfl | rfl
              · simp only [List.cons_append, List.nil_append, if_true, show ¬ (3 : Int) = 1 by decide, if_false]
                rw [xf_meet _ _ _ _ (by decide) (by decide), xf_meet _ _ _ _ (by decide) (by decide), i]
                simp
              · simp only [List.cons_append, List.nil_append, if_true, show ¬ (3 : Int) = 1 by decide, if_false]
                rw [xf_meet _ _ _ _ (by decide) (by decide), xf_meet _ _ _ _ (by decide) (by decide), i]
                simp
        · have i := ihO X Y hO.tail hX.tail hY bX.tail bY h1' (by simpa [newN] using h2)
          rw [cf_delL _ _ _ rfl, xf_meet _ _ _ _ ho (by decide), xf_meet _ _ _ _ ho (by decide), i]
          simp only [show ¬ (3 : Int) = 1 by decide, if_false, List.nil_append]
          rcases bald_split hO.head ho with rfl | rfl
          · simp only [if_true, List.cons_append, List.nil_append]
            rw [cf_delL _ _ _ rfl]
          · simp

/-- a rune of so many is taken away, at a place -/
def cutS (n k : Nat) : List Step := List.replicate k (1, 0) ++ List.replicate (min (n - k) 1) (3, 0) ++ List.replicate (n - k - min (n - k) 1) (1, 0)
theorem cutS_ok (n k : Nat) : StepsOk (cutS n k) := ((StepsOk.keeps _).append (.dels _)).append (.keeps _)
theorem cutS_bald (n k : Nat) : Bald (cutS n k) := ((Bald.rep _ _ _ (by decide)).append (.rep _ _ _ (by decide))).append (.rep _ _ _ (by decide))
theorem cutS_old (n k : Nat) (h : k ≤ n) : oldN (cutS n k) = n := by
  unfold cutS
  rw [oldN_append, oldN_append, oldN_rep _ _ _ (by decide), oldN_rep _ _ _ (by decide), oldN_rep _ _ _ (by decide)]; omega
theorem cutS_len (n k : Nat) (h : k ≤ n) : (cutS n k).length = n := by
  unfold cutS
  simp only [List.length_append, List.length_replicate]; omega

end Go.Proofs.YtodnocplljkjnaaDoor

/- PLAIN LEAN: where both insert, the first one's text stands ahead. -/
namespace Go.Proofs.YtodnocplljkjnaaDoor
open Go.RowKit

/-- a text is inserted at a place -/
def hereS (n k : Nat) (X : List Nat) : List Step := List.replicate k (1, 0) ++ insS X ++ List.replicate (n - k) (1, 0)
theorem hereS_old (n k : Nat) (X : List Nat) (h : k ≤ n) : oldN (hereS n k X) = n := by
  unfold hereS
  rw [oldN_append, oldN_append, oldN_rep _ _ _ (by decide), oldN_rep _ _ _ (by decide), oldN_ins]; omega
theorem hereS_new (n k : Nat) (X : List Nat) (h : k ≤ n) : newN (hereS n k X) = n + X.length := by
  unfold hereS
  rw [newN_append, newN_append, newN_rep _ _ _ (by decide), newN_rep _ _ _ (by decide), newN_ins]; omega
theorem hereS_len (n k : Nat) (X : List Nat) (h : k ≤ n) : (hereS n k X).length = n + X.length := by
  unfold hereS
  simp [insS]; omega
theorem hereS_ok (n k : Nat) (X : List Nat) (h : ∀ r ∈ X, CP r) : StepsOk (hereS n k X) := ((StepsOk.keeps k).append (.ins h)).append (.keeps _)
theorem applyS_ends (rs : List Nat) (m : Nat) (h : rs.length = m) : applyS rs (List.replicate m ((1 : Int), (0 : Int))) = rs := by
  have := applyS_keep [] m rs
  rw [List.append_nil] at this
  rw [this, List.take_of_length_le (by omega)]
  simp [applyS]
theorem hereS_apply (t : List Nat) (k : Nat) (X : List Nat) : applyS t (hereS t.length k X) = t.take k ++ X ++ t.drop k := by
  unfold hereS
  rw [List.append_assoc, applyS_keep]
  have e := applyS_ins (List.replicate (t.length - k) ((1 : Int), (0 : Int))) X (t.drop k)
  show _ ++ applyS (t.drop k) (X.map (fun r : Nat => ((2 : Int), (r : Int))) ++ _) = _
  rw [e, applyS_ends _ _ (by simp), List.append_assoc]
theorem xf_keeps (m : Nat) : xf (List.replicate m (1, 0)) (List.replicate m (1, 0)) = (List.replicate m (1, 0), List.replicate m (1, 0)) := by
  have := xf_keepR (List.replicate m (1, 0)) (.keeps m)
  rw [oldN_rep _ _ _ (by decide), newN_rep _ _ _ (by decide)] at this
  exact this
theorem hereS_xf (n k : Nat) (X Y : List Nat) : xf (hereS n k X) (hereS n k Y) = (List.replicate k (1, 0) ++ (insS X ++ (List.replicate Y.length (1, 0) ++ List.replicate (n - k) (1, 0))), List.replicate k (1, 0) ++ (List.replicate X.length (1, 0) ++ (insS Y ++ List.replicate (n - k) (1, 0)))) := by
  unfold hereS
  rw [List.append_assoc, List.append_assoc, xf_meets k 1 1 _ _ (by decide) (by decide), xf_insLs, xf_insRs _ _ _ (noIns_keeps _), xf_keeps]
  rfl
theorem first_pure (t : List Nat) (k : Nat) (X Y : List Nat) (h : k ≤ t.length) : applyS (applyS t (hereS t.length k X)) (xf (hereS t.length k X) (hereS t.length k Y)).2 = t.take k ++ X ++ Y ++ t.drop k := by
  rw [hereS_apply t k X, hereS_xf _ _ _ _]
  simp only
  rw [applyS_keep, applyS_keep]
  have e := applyS_ins (List.replicate (t.length - k) ((1 : Int), (0 : Int))) Y (((t.take k ++ X ++ t.drop k).drop k).drop X.length)
  show _ ++ (_ ++ applyS _ (Y.map (fun r : Nat => ((2 : Int), (r : Int))) ++ _)) = _
  rw [e]
  have k1 : (t.take k).length = k := by simp; omega
  have d1 : (t.take k ++ X ++ t.drop k).drop k = X ++ t.drop k := by
    rw [List.append_assoc, List.drop_append_of_le_length (by omega), List.drop_of_length_le (by omega), List.nil_append]
  have t1 : (t.take k ++ X ++ t.drop k).take k = t.take k := by
    rw [List.append_assoc, List.take_append_of_le_length (by omega), List.take_of_length_le (by omega)]
  rw [d1, t1, List.drop_left, List.take_left, applyS_ends _ _ (by simp)]
  simp

end Go.Proofs.YtodnocplljkjnaaDoor
