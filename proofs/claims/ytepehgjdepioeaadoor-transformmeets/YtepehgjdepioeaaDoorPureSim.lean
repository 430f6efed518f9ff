/-
  PLAIN LEAN: steps that differ only in where, between two that are kept, the insertions stand; what grouping keeps.
-/
import Derived.Test.YtepehgjdepioeaaDoorPureBoth
import Derived.Test.YtepehgjdepioeaaDoorPureTrans
import Derived.Test.YtepehgjdepioeaaDoorPureInvert
import Derived.Test.YtepehgjdepioeaaDoorPureMove
namespace Go.Proofs.YtepehgjdepioeaaDoor
open Go.RowKit

/-- how many runes of the old text steps go through; how many the new one has -/
def oldN : List Step → Nat
  | [] => 0
  | s :: l => (if s.1 = 2 then 0 else 1) + oldN l
def newN : List Step → Nat
  | [] => 0
  | s :: l => (if s.1 = 3 then 0 else 1) + newN l
theorem oldN_append (a b : List Step) : oldN (a ++ b) = oldN a + oldN b := by
  induction a with
  | nil => simp [oldN]
  | cons s a ih => simp only [List.cons_append, oldN, ih]; omega
theorem newN_append (a b : List Step) : newN (a ++ b) = newN a + newN b := by
  induction a with
  | nil => simp [newN]
  | cons s a ih => simp only [List.cons_append, newN, ih]; omega
theorem oldN_rep (n : Nat) (k r : Int) (h : k ≠ 2) : oldN (List.replicate n (k, r)) = n := by
  induction n with
  | zero => rfl
  | succ n ih => simp only [List.replicate_succ, oldN, if_neg h, ih]; omega
theorem newN_rep (n : Nat) (k r : Int) (h : k ≠ 3) : newN (List.replicate n (k, r)) = n := by
  induction n with
  | zero => rfl
  | succ n ih => simp only [List.replicate_succ, newN, if_neg h, ih]; omega
theorem newN_del (n : Nat) (r : Int) : newN (List.replicate n (3, r)) = 0 := by
  induction n with
  | zero => rfl
  | succ n ih => simp [List.replicate_succ, newN, ih]
theorem oldN_ins (rs : List Nat) : oldN (insS rs) = 0 := by
  induction rs with
  | nil => rfl
  | cons r rs ih => simpa [insS, oldN] using ih
theorem newN_ins (rs : List Nat) : newN (insS rs) = rs.length := by
  induction rs with
  | nil => rfl
  | cons r rs ih =>
    have : newN (insS (r :: rs)) = 1 + newN (insS rs) := by simp [insS, newN]
    rw [this, ih, List.length_cons]; omega
theorem oldN_le (l : List Step) : oldN l ≤ l.length := by
  induction l with
  | nil => simp [oldN]
  | cons s l ih => simp only [oldN, List.length_cons]; split <;> omega
theorem newN_le (l : List Step) : newN l ≤ l.length := by
  induction l with
  | nil => simp [newN]
  | cons s l ih => simp only [newN, List.length_cons]; split <;> omega
theorem len_le (l : List Step) : l.length ≤ oldN l + newN l := by
  induction l with
  | nil => simp
  | cons s l ih =>
    simp only [oldN, newN, List.length_cons]
    split
    · rw [if_neg (by omega)]; omega
    · omega

theorem oldN_stepsOf (p : Part) : oldN (stepsOf p) = if p.kind = 2 then 0 else p.n.toNat := by
  unfold stepsOf
  split
  · exact oldN_ins _
  · rename_i h; exact oldN_rep _ _ _ h
theorem newN_stepsOf (p : Part) : newN (stepsOf p) = if p.kind = 3 then 0 else weight p := by
  unfold stepsOf weight
  by_cases h2 : p.kind = 2
  · rw [if_pos h2, if_pos h2, if_neg (by omega)]; exact newN_ins _
  · rw [if_neg h2, if_neg h2]
    by_cases h3 : p.kind = 3
    · rw [if_pos h3, h3]; exact newN_del _ _
    · rw [if_neg h3]; exact newN_rep _ _ _ h3
theorem fromN_steps (ps : List Part) : fromN ps = oldN (steps ps) := by
  induction ps with
  | nil => rfl
  | cons p r ih => rw [steps_cons, oldN_append, oldN_stepsOf, ← ih]; rfl
theorem toN_steps (ps : List Part) : toN ps = newN (steps ps) := by
  induction ps with
  | nil => rfl
  | cons p r ih => rw [steps_cons, newN_append, newN_stepsOf, ← ih]; rfl

/-- a step as it may be -/
def StepOk (s : Step) : Prop := s = (1, 0) ∨ s = (3, 0) ∨ ∃ r : Nat, CP r ∧ s = (2, (r : Int))
def StepsOk (l : List Step) : Prop := ∀ s ∈ l, StepOk s
theorem StepsOk.nil : StepsOk [] := fun s h => by cases h
theorem StepsOk.tail {s : Step} {l : List Step} (h : StepsOk (s :: l)) : StepsOk l := fun x hx => h x (List.mem_cons_of_mem _ hx)
theorem StepsOk.head {s : Step} {l : List Step} (h : StepsOk (s :: l)) : StepOk s := h s List.mem_cons_self
theorem StepsOk.cons {s : Step} {l : List Step} (h : StepOk s) (k : StepsOk l) : StepsOk (s :: l) := fun x hx => by
  rcases List.mem_cons.1 hx with rfl | hx
  · exact h
  · exact k x hx
theorem StepsOk.append {a b : List Step} (h : StepsOk a) (k : StepsOk b) : StepsOk (a ++ b) := fun x hx => by
  rcases List.mem_append.1 hx with hx | hx
  · exact h x hx
  · exact k x hx
theorem StepOk.keep : StepOk (1, 0) := .inl rfl
theorem StepsOk.keeps (n : Nat) : StepsOk (List.replicate n (1, 0)) := fun x hx => by rw [List.eq_of_mem_replicate hx]; exact .inl rfl
theorem StepsOk.dels (n : Nat) : StepsOk (List.replicate n (3, 0)) := fun x hx => by rw [List.eq_of_mem_replicate hx]; exact .inr (.inl rfl)
theorem StepsOk.ins {rs : List Nat} (h : ∀ r ∈ rs, CP r) : StepsOk (insS rs) := fun x hx => by
  obtain ⟨r, hr, rfl⟩ := List.mem_map.1 hx
  exact .inr (.inr ⟨r, h r hr, rfl⟩)
theorem StepOk.cp {s : Step} (h : StepOk s) (h2 : s.1 = 2) : CP s.2.toNat := by
  rcases h with rfl | rfl | ⟨r, hr, rfl⟩
  · simp at h2
  · simp at h2
  · simpa using hr
theorem steps_ok {ps : List Part} (h : ∀ p ∈ ps, Good p) : StepsOk (steps ps) := by
  intro s hs
  obtain ⟨p, hp, hs⟩ := List.mem_flatMap.1 hs
  unfold stepsOf at hs
  have g := h p hp
  split at hs
  · rename_i hk
    obtain ⟨r, hr, rfl⟩ := List.mem_map.1 hs
    exact .inr (.inr ⟨r, (g.text hk).2.1.cp r hr, rfl⟩)
  · rename_i hk
    rw [List.eq_of_mem_replicate hs]
    rcases g.kind with h1 | h1 | h1
    · rw [h1]; exact .inl rfl
    · exact absurd h1 hk
    · rw [h1]; exact .inr (.inl rfl)

/-- the same but for an insertion and a deletion side by side -/
inductive Sim : List Step → List Step → Prop
  | refl (l : List Step) : Sim l l
  | swap (r : Nat) (l : List Step) : Sim ((3, 0) :: (2, (r : Int)) :: l) ((2, (r : Int)) :: (3, 0) :: l)
  | cons (s : Step) {a b : List Step} : Sim a b → Sim (s :: a) (s :: b)
  | trans {a b c : List Step} : Sim a b → Sim b c → Sim a c
  | symm {a b : List Step} : Sim a b → Sim b a

theorem Sim.of_eq {a b : List Step} (h : a = b) : Sim a b := h ▸ .refl a
theorem Sim.left (c : List Step) {a b : List Step} (h : Sim a b) : Sim (c ++ a) (c ++ b) := by
  induction c with
  | nil => exact h
  | cons s c ih => exact ih.cons s
theorem Sim.right {a b : List Step} (h : Sim a b) (c : List Step) : Sim (a ++ c) (b ++ c) := by
  induction h with
  | refl l => exact .refl _
  | swap r l => exact .swap r (l ++ c)
  | cons s _ ih => exact ih.cons s
  | trans _ _ i j => exact i.trans j
  | symm _ ih => exact ih.symm
theorem Sim.pen {a b : List Step} (h : Sim a b) : ∀ P : PenS, a.foldl penStep P = b.foldl penStep P := by
  induction h with
  | refl l => intro P; rfl
  | swap r l => intro P; simp [penStep, PenS.insert, PenS.remove]
  | cons s _ ih => intro P; exact ih _
  | trans _ _ i j => intro P; exact (i P).trans (j P)
  | symm _ ih => intro P; exact (ih P).symm
theorem Sim.group {a b : List Step} (h : Sim a b) : group a = group b := by unfold YtepehgjdepioeaaDoor.group penOf; rw [h.pen]
theorem Sim.apply {a b : List Step} (h : Sim a b) : ∀ rs, applyS rs a = applyS rs b := by
  induction h with
  | refl l => intro rs; rfl
  | swap r l => intro rs; simp [applyS]
  | cons s _ ih => intro rs; simp only [applyS, ih]
  | trans _ _ i j => intro rs; exact (i rs).trans (j rs)
  | symm _ ih => intro rs; exact (ih rs).symm
theorem Sim.olds {a b : List Step} (h : Sim a b) : oldN a = oldN b := by
  induction h with
  | refl l => rfl
  | swap r l => simp [oldN]
  | cons s _ ih => simp only [oldN, ih]
  | trans _ _ i j => exact i.trans j
  | symm _ ih => exact ih.symm
theorem Sim.news {a b : List Step} (h : Sim a b) : newN a = newN b := by
  induction h with
  | refl l => rfl
  | swap r l => simp [newN]
  | cons s _ ih => simp only [newN, ih]
  | trans _ _ i j => exact i.trans j
  | symm _ ih => exact ih.symm
theorem Sim.len {a b : List Step} (h : Sim a b) : a.length = b.length := by
  induction h with
  | refl l => rfl
  | swap r l => rfl
  | cons s _ ih => simp [ih]
  | trans _ _ i j => exact i.trans j
  | symm _ ih => exact ih.symm
theorem Sim.mem {a b : List Step} (h : Sim a b) : ∀ s, s ∈ a ↔ s ∈ b := by
  induction h with
  | refl l => intro s; rfl
  | swap r l => intro s; simp only [List.mem_cons]; constructor <;> (rintro (h | h | h) <;> simp [h])
  | cons x _ ih => intro s; simp only [List.mem_cons, ih]
  | trans _ _ i j => intro s; exact (i s).trans (j s)
  | symm _ ih => intro s; exact (ih s).symm
theorem Sim.inv {a b : List Step} (h : Sim a b) : ∀ rs, Sim (invS rs a) (invS rs b) := by
  induction h with
  | refl l => intro rs; exact .refl _
  | swap r l => intro rs; simp only [invS]; exact (Sim.swap _ _).symm
  | cons s _ ih =>
    intro rs
    simp only [invS]
    split
    · exact (ih _).cons _
    · split
      · exact (ih _).cons _
      · exact (ih _).cons _
  | trans _ _ i j => intro rs; exact (i rs).trans (j rs)
  | symm _ ih => intro rs; exact (ih rs).symm
/-- an insertion goes ahead of deletions -/
theorem Sim.dels (n r : Nat) (l : List Step) : Sim (List.replicate n (3, 0) ++ (2, (r : Int)) :: l) ((2, (r : Int)) :: (List.replicate n (3, 0) ++ l)) := by
  induction n with
  | zero => exact .refl _
  | succ n ih =>
    rw [List.replicate_succ, List.cons_append, List.cons_append]
    exact (ih.cons (3, 0)).trans (.swap r _)

/-- what a pen that wrote proper steps holds -/
structure PenGood (m : Nat) (P : PenS) (rs : List Nat) : Prop where
  cp : ∀ r ∈ rs, CP r
  ins : P.ins = str rs
  few : rs.length ≤ m
  del : P.del ≤ m
  chain : Chain 0 P.done
  last : ∀ D p, P.done = D ++ [p] → p.kind = 1

theorem chain_last : ∀ (ps : List Part) (ah : Int) (p : Part), Chain ah ps → Good p → (∀ D q, ps = D ++ [q] → Fits q.kind p.kind) → (ps = [] → Fits ah p.kind) → Chain ah (ps ++ [p])
  | [], ah, p, _, g, _, h0 => ⟨g, h0 rfl, trivial⟩
  | x :: r, ah, p, h, g, hl, _ => by
    refine ⟨h.1, h.2.1, chain_last r x.kind p h.2.2 g (fun D q e => hl (x :: D) q (by rw [e]; rfl)) (fun e => ?_)⟩
    subst e
    exact hl [] x rfl
theorem good_keep {n : Nat} (h1 : 1 ≤ n) (h2 : n ≤ 4000) : Good ⟨1, (n : Int), ByteArray.empty⟩ :=
  ⟨.inl rfl, fun _ => ⟨by simp only; omega, by simp only; omega, rfl⟩, fun h => by simp at h⟩
theorem good_del {n : Nat} (h1 : 1 ≤ n) (h2 : n ≤ 4000) : Good ⟨3, (n : Int), ByteArray.empty⟩ :=
  ⟨.inr (.inr rfl), fun _ => ⟨by simp only; omega, by simp only; omega, rfl⟩, fun h => by simp at h⟩
theorem good_ins {rs : List Nat} (h : ∀ r ∈ rs, CP r) (h1 : (str rs).size ≠ 0) (h2 : rs.length ≤ 4000) : Good ⟨2, 0, str rs⟩ :=
  ⟨.inr (.inl rfl), fun h => absurd rfl h, fun _ => ⟨rfl, valid_str h, by simp only; rw [runes_str h]; exact h2, h1⟩⟩
theorem append_one_inj {α : Type} {a b : List α} {x y : α} (h : a ++ [x] = b ++ [y]) : a = b ∧ x = y := by
  have := List.append_inj' h rfl
  exact ⟨this.1, by simpa using this.2⟩

theorem PenGood.all {m : Nat} {P : PenS} {rs : List Nat} (h : PenGood m P rs) (hm : m ≤ 4000) : Chain 0 P.all ∧ steps P.all = steps P.done ++ insS rs ++ List.replicate P.del (3, 0) := by
  have h1 : Chain 0 (P.done ++ waitIns P) ∧ steps (P.done ++ waitIns P) = steps P.done ++ insS rs := by
    unfold waitIns
    by_cases hz : P.ins.size = 0
    · have hr : rs = [] := by
        cases rs with
        | nil => rfl
        | cons r rs =>
          exfalso
          rw [h.ins] at hz
          have e : str (r :: rs) = str [r] ++ str rs := by rw [← str_append]; rfl
          rw [e, ByteArray.size_append] at hz
          have h2 := enc_pos (h.cp r List.mem_cons_self)
          have h3 : (str [r]).size = (encs [r]).length := by
            rw [← str_bytes, bytes_len]
          rw [encs_cons, List.length_append] at h3
          omega
      rw [if_pos hz, hr]
      simp [insS, h.chain]
    · rw [if_neg hz, h.ins]
      have hz' : (str rs).size ≠ 0 := by rw [← h.ins]; exact hz
      refine ⟨chain_last _ _ _ h.chain (good_ins h.cp hz' (by have := h.few; omega)) (fun D q e => ?_) (fun _ => by unfold Fits; simp), ?_⟩
      · have := h.last D q e
        rw [this]; unfold Fits; simp
      · unfold steps
        rw [List.flatMap_append]
        congr 1
        simp [stepsOf, runes_str h.cp, insS]
  unfold PenS.all waitDel
  by_cases hd : P.del = 0
  · rw [if_pos hd, hd]
    simpa using h1
  · rw [if_neg hd]
    refine ⟨chain_last _ _ _ h1.1 (good_del (by omega) (by have := h.del; omega)) (fun D q e => ?_) (fun _ => by unfold Fits; simp), ?_⟩
    · have hk : q.kind ≠ 3 := by
        unfold waitIns at e
        split at e
        · rw [List.append_nil] at e
          rw [h.last D q e]; decide
        · have := (append_one_inj e).2
          rw [← this]; simp
      unfold Fits
      simp only
      omega
    · have e : steps ((P.done ++ waitIns P) ++ [⟨3, (P.del : Int), ByteArray.empty⟩]) = steps (P.done ++ waitIns P) ++ List.replicate P.del (3, 0) := by
        unfold steps
        rw [List.flatMap_append]
        congr 1
        simp [stepsOf]
      rw [e, h1.2]

theorem steps_addKeep {D : List Part} (hD : ∀ p ∈ D, p.kind = 1 → 0 ≤ p.n) : steps (addKeep D 1) = steps D ++ [(1, 0)] := by
  rcases List.eq_nil_or_concat D with rfl | ⟨D0, p, rfl⟩
  · rw [addKeep_nil]; rfl
  · rw [List.concat_eq_append] at *
    by_cases hk : p.kind = 1
    · have hn := hD p (by simp) hk
      rw [addKeep_grow _ _ _ hk]
      unfold steps
      rw [List.flatMap_append, List.flatMap_append, List.append_assoc]
      congr 1
      have e : (p.n + 1).toNat = p.n.toNat + 1 := by omega
      simp [stepsOf, hk, e, List.replicate_succ']
    · rw [addKeep_new _ _ _ hk]
      unfold steps
      rw [List.flatMap_append]
      congr 1
theorem good_all_keep {ps : List Part} (h : ∀ p ∈ ps, Good p) : ∀ p ∈ ps, p.kind = 1 → 0 ≤ p.n := fun p hp hk => by
  have := (h p hp).count (by omega)
  omega
theorem chain_addKeep {m : Nat} {D : List Part} (h : Chain 0 D) (hm : m < 4000) (hk : ∀ p ∈ D, p.kind = 1 → p.n ≤ m) : Chain 0 (addKeep D 1) ∧ ∀ D0 p, addKeep D 1 = D0 ++ [p] → p.kind = 1 := by
  rcases List.eq_nil_or_concat D with rfl | ⟨D0, p, rfl⟩
  · rw [addKeep_nil]
    refine ⟨⟨good_keep (by omega) (by omega), by unfold Fits; simp, trivial⟩, fun D0 p e => ?_⟩
    have := (append_one_inj (a := []) e).2
    rw [← this]
  · rw [List.concat_eq_append] at *
    have gp := h.good p (by simp)
    by_cases h1 : p.kind = 1
    · rw [addKeep_grow _ _ _ h1]
      obtain ⟨g1, g2, g3⟩ := gp.count (by omega)
      have hkp := hk p (by simp) h1
      have hc : ∀ (ps : List Part) (ah : Int), Chain ah (ps ++ [p]) → Chain ah ps ∧ (∀ D q, ps = D ++ [q] → Fits q.kind p.kind) ∧ (ps = [] → Fits ah p.kind) := by
        intro ps
        induction ps with
        | nil => intro ah hc; exact ⟨trivial, fun D q e => by simp at e, fun _ => hc.2.1⟩
        | cons x r ih =>
          intro ah hc
          obtain ⟨i1, i2, i3⟩ := ih x.kind hc.2.2
          refine ⟨⟨hc.1, hc.2.1, i1⟩, fun D q e => ?_, fun e => by cases e⟩
          cases D with
          | nil =>
            simp at e
            obtain ⟨rfl, rfl⟩ := e
            exact i3 rfl
          | cons y D =>
            simp at e
            exact i2 D q e.2
      obtain ⟨c1, c2, c3⟩ := hc D0 0 h
      refine ⟨chain_last _ _ _ c1 ?_ (fun D q e => by have := c2 D q e; rw [h1] at this; exact this) (fun e => by have := c3 e; rw [h1] at this; exact this), fun D p' e => by rw [← (append_one_inj e).2]⟩
      exact ⟨.inl rfl, fun _ => ⟨by simp only; omega, by simp only; omega, g3⟩, fun h => by simp at h⟩
    · rw [addKeep_new _ _ _ h1]
      refine ⟨chain_last _ _ _ h (good_keep (n := 1) (by omega) (by omega)) (fun D q e => ?_) (fun e => by simp at e), fun D q e => by rw [← (append_one_inj e).2]⟩
      have := (append_one_inj e).2
      subst this
      have := gp.kind
      unfold Fits
      simp only
      omega

/-- a pen that wrote proper steps -/
theorem penOf_good (l : List Step) : StepsOk l → l.length ≤ 4000 → (∃ rs, PenGood l.length (penOf l) rs) ∧ Sim (steps (penOf l).all) l := by
  induction h : l.length generalizing l with
  | zero =>
    intro _ _
    have : l = [] := List.length_eq_zero_iff.1 h
    subst this
    exact ⟨⟨[], ⟨(fun r hr => by cases hr), rfl, Nat.le_refl _, Nat.le_refl _, trivial, fun D p e => by simp [penOf, PenS.new] at e⟩⟩, .refl _⟩
  | succ m ih =>
    intro hok hl
    rcases List.eq_nil_or_concat l with rfl | ⟨l0, s, rfl⟩
    · simp at h
    · rw [List.concat_eq_append] at *
      have h0 : l0.length = m := by simpa using h
      obtain ⟨⟨rs, hg⟩, hs⟩ := ih l0 h0 (fun x hx => hok x (List.mem_append_left _ hx)) (by omega)
      obtain ⟨hca, hst⟩ := hg.all (by omega)
      have hps := penOf_ok l0
      rw [h0] at hps
      have hstep : penOf (l0 ++ [s]) = penStep (penOf l0) s := by rw [penOf_append]; rfl
      rw [hstep]
      rcases hok s (by simp) with rfl | rfl | ⟨r, hr, rfl⟩
      · have e : penStep (penOf l0) (1, 0) = (penOf l0).keep 1 := by simp [penStep]
        rw [e]
        have hall : ∀ p ∈ (penOf l0).all, p.kind = 1 → p.n ≤ (m : Int) := fun p hp hk => (hps.all.2 p hp hk).2
        obtain ⟨k1, k2⟩ := chain_addKeep hca (by omega) hall
        refine ⟨⟨[], ⟨(fun r hr => by cases hr), rfl, Nat.zero_le _, Nat.zero_le _, k1, k2⟩⟩, ?_⟩
        have e2 : ((penOf l0).keep 1).all = addKeep (penOf l0).all 1 := all_keep _
        rw [e2, steps_addKeep (good_all_keep hca.good)]
        exact hs.right _
      · have e : penStep (penOf l0) (3, 0) = (penOf l0).remove 1 := by simp [penStep]
        rw [e]
        have hg' : PenGood (m + 1) ((penOf l0).remove 1) rs := ⟨hg.cp, hg.ins, by have := hg.few; omega, by have := hg.del; simp only [PenS.remove]; omega, hg.chain, hg.last⟩
        refine ⟨⟨rs, hg'⟩, ?_⟩
        rw [(hg'.all (by omega)).2]
        have e2 : steps ((penOf l0).remove 1).done ++ insS rs ++ List.replicate ((penOf l0).remove 1).del (3, 0) = steps (penOf l0).all ++ [(3, 0)] := by
          rw [hst]
          simp [PenS.remove, List.replicate_succ']
        rw [e2]
        exact hs.right _
      · have e : penStep (penOf l0) (2, (r : Int)) = (penOf l0).insert (str [r]) := by simp [penStep]
        rw [e]
        have hg' : PenGood (m + 1) ((penOf l0).insert (str [r])) (rs ++ [r]) := by
          refine ⟨fun x hx => ?_, ?_, by have := hg.few; simp; omega, by have := hg.del; simp only [PenS.insert]; omega, hg.chain, hg.last⟩
          · rcases List.mem_append.1 hx with hx | hx
            · exact hg.cp x hx
            · simp at hx; subst hx; exact hr
          · rw [str_append, ← hg.ins]; rfl
        refine ⟨⟨_, hg'⟩, ?_⟩
        rw [(hg'.all (by omega)).2]
        refine Sim.trans ?_ (hs.right _)
        rw [hst]
        have e3 : insS (rs ++ [r]) = insS rs ++ [(2, (r : Int))] := by simp [insS]
        rw [e3]
        simp only [PenS.insert, List.append_assoc]
        exact (((Sim.dels _ r []).left (insS rs)).left _).symm |> fun q => by simpa using q

/-- GROUPED STEPS MAY BE, and do what the steps do. -/
theorem group_sim {l : List Step} (h : StepsOk l) (hl : l.length ≤ 4000) : Sim (steps (group l)) l := (penOf_good l h hl).2
theorem group_chain {l : List Step} (h : StepsOk l) (hl : l.length ≤ 4000) : Chain 0 (group l) := by
  obtain ⟨⟨rs, hg⟩, _⟩ := penOf_good l h hl
  exact (hg.all hl).1
theorem group_ok {l : List Step} (h : StepsOk l) (hl : l.length ≤ 4000) : OpOk (group l) := by
  have s := group_sim h hl
  refine ⟨group_chain h hl, ?_, ?_, ?_⟩
  · have := group_len l; omega
  · rw [fromN_steps, s.olds]; have := oldN_le l; omega
  · rw [toN_steps, s.news]; have := newN_le l; omega
theorem group_from {l : List Step} (h : StepsOk l) (hl : l.length ≤ 4000) : fromN (group l) = oldN l := by rw [fromN_steps, (group_sim h hl).olds]
theorem group_to {l : List Step} (h : StepsOk l) (hl : l.length ≤ 4000) : toN (group l) = newN l := by rw [toN_steps, (group_sim h hl).news]
theorem group_lens {l : List Step} (h : StepsOk l) (hl : l.length ≤ 4000) : lens (group l) = ((oldN l : Int), (newN l : Int)) := by
  rw [(group_ok h hl).lens, group_from h hl, group_to h hl]
theorem group_stepsOk {l : List Step} (h : StepsOk l) (hl : l.length ≤ 4000) : StepsOk (steps (group l)) := fun s hs => h s (((group_sim h hl).mem s).1 hs)
theorem group_again {l : List Step} (h : StepsOk l) (hl : l.length ≤ 4000) : group (steps (group l)) = group l := (group_sim h hl).group

end Go.Proofs.YtepehgjdepioeaaDoor
