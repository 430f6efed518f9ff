/-
  Walks: text.join, text.compose.
-/
import Derived.Test.YtepehgjdepioeaaDoorViewWalk
import Derived.Test.YtepehgjdepioeaaDoorPureTrans
namespace Go.Proofs.YtepehgjdepioeaaDoor
open Go.RowKit Go.Lib

/-- a pen, with what it has written -/
def Pen1 (w : World) (B b : Nat) (l : List Step) : Prop := ∃ dv iv, PenL w B b dv iv l ∧ B ≤ w.heap.size
theorem Pen1.kept {F : Nat → Prop} {w w' : World} {B b : Nat} {l : List Step} (h : Pen1 w B b l) (c : Chg F w w') (hF : ∀ k, F k → k < B) : Pen1 w' B b l := by
  obtain ⟨dv, iv, h, hB⟩ := h
  exact ⟨dv, iv, PenAt.kept h c (fun k hk e => by have := (PenAt.F_lt h k hk).1; have := hF k e; omega), Nat.le_trans hB c.size⟩
theorem Pen1.below {w w' : World} {B b : Nat} {l : List Step} (h : Pen1 w B b l) (hb : Below w.heap.size w w') : Pen1 w' B b l := by
  obtain ⟨dv, iv, h, hB⟩ := h
  exact ⟨dv, iv, penL_below h hb, Nat.le_trans hB hb.size⟩
theorem pen1_keep (w : World) (B b : Nat) (l : List Step) (n : Nat) (h : Pen1 w B b l) (hl : l.length ≤ 100000) (h1 : 1 ≤ n) (hk : n ≤ 100000) :
    Calls Tryd.prog 41 #[.pointer (some ⟨b, 0, none⟩), .int .i64 (n : Int)] w fun e w' => e = .returned (.tuple #[]) ∧ Pen1 w' B b (l ++ List.replicate n (1, 0)) ∧ Chg (fun k => B ≤ k) w w' := by
  obtain ⟨dv, iv, h, hB⟩ := h
  refine (keepL w B b dv iv l n h hB hl h1 hk).mono ?_
  rintro e w' ⟨rfl, dv', iv', hp, hs⟩
  exact ⟨rfl, ⟨dv', iv', hp, Nat.le_trans hB hs.chg.size⟩, chg_base h hs⟩
theorem pen1_remove (w : World) (B b : Nat) (l : List Step) (n : Nat) (h : Pen1 w B b l) (hl : l.length ≤ 100000) (hk : n ≤ 100000) :
    Calls Tryd.prog 43 #[.pointer (some ⟨b, 0, none⟩), .int .i64 (n : Int)] w fun e w' => e = .returned (.tuple #[]) ∧ Pen1 w' B b (l ++ List.replicate n (3, 0)) ∧ Chg (fun k => B ≤ k) w w' := by
  obtain ⟨dv, iv, h, hB⟩ := h
  refine (removeL w B b dv iv l n h hl hk).mono ?_
  rintro e w' ⟨rfl, hp, hs⟩
  exact ⟨rfl, ⟨dv, iv, hp, Nat.le_trans hB hs.chg.size⟩, chg_base h hs⟩
theorem pen1_insert (w : World) (B b : Nat) (l : List Step) (rs : List Nat) (h : Pen1 w B b l) (hl : l.length ≤ 100000) (hs : (str rs).size ≤ 10000000) :
    Calls Tryd.prog 42 #[.pointer (some ⟨b, 0, none⟩), .string (str rs)] w fun e w' => e = .returned (.tuple #[]) ∧ Pen1 w' B b (l ++ insS rs) ∧ Chg (fun k => B ≤ k) w w' := by
  obtain ⟨dv, iv, h, hB⟩ := h
  refine (insertL w B b dv iv l rs h hB hl hs).mono ?_
  rintro e w' ⟨rfl, iv', hp, hs⟩
  exact ⟨rfl, ⟨dv, iv', hp, Nat.le_trans hB hs.chg.size⟩, chg_base h hs⟩

set_option maxRecDepth 100000 in
set_option maxHeartbeats 1000000 in
theorem join_ik (w : World) (B b : Nat) (l : List Step) (kx ky : Int) (n : Nat) (rs : List Nat) (ty : ByteArray) (h : Pen1 w B b l) (hl : l.length ≤ 100000) (hs : (str rs).size ≤ 10000000) (hx : kx = 2) (hy : ky = 1) :
    Calls Tryd.prog 57 #[.agg #[.int .i64 kx, .int .i64 (n : Int), .string (str rs)], .agg #[.int .i64 ky, .int .i64 (n : Int), .string ty], .pointer (some ⟨b, 0, none⟩)] w fun e w' => e = .returned (.tuple #[]) ∧ Pen1 w' B b (l ++ insS rs) ∧ Chg (fun k => B ≤ k) w w' := by
  subst hx hy
  go_enter Tryd.func57, Tryd.ntmps57
  go_wp2_with fail
  refine (pen1_insert _ B b l rs (h.below (alloc2 w _ _)) hl hs).mono ?_
  rintro e w1 ⟨rfl, hP1, hc1⟩
  have hc : Chg (fun k => B ≤ k) w w1 := (((Chg.refl _ w).alloc _).alloc _).trans hc1 (fun _ _ e => e)
  clear hc1
  go_wp2
  go_end0
  exact ⟨rfl, hP1, hc⟩
set_option maxRecDepth 100000 in
set_option maxHeartbeats 1000000 in
theorem join_kk (w : World) (B b : Nat) (l : List Step) (kx ky : Int) (n : Nat) (rs : List Nat) (ty : ByteArray) (h : Pen1 w B b l) (hl : l.length ≤ 100000) (h1 : 1 ≤ n) (hk : n ≤ 100000) (hx : kx = 1) (hy : ky = 1) :
    Calls Tryd.prog 57 #[.agg #[.int .i64 kx, .int .i64 (n : Int), .string (str rs)], .agg #[.int .i64 ky, .int .i64 (n : Int), .string ty], .pointer (some ⟨b, 0, none⟩)] w fun e w' => e = .returned (.tuple #[]) ∧ Pen1 w' B b (l ++ List.replicate n (1, 0)) ∧ Chg (fun k => B ≤ k) w w' := by
  subst hx hy
  go_enter Tryd.func57, Tryd.ntmps57
  go_wp2_with fail
  refine (pen1_keep _ B b l n (h.below (alloc2 w _ _)) hl h1 hk).mono ?_
  rintro e w1 ⟨rfl, hP1, hc1⟩
  have hc : Chg (fun k => B ≤ k) w w1 := (((Chg.refl _ w).alloc _).alloc _).trans hc1 (fun _ _ e => e)
  clear hc1
  go_wp2
  go_end0
  exact ⟨rfl, hP1, hc⟩
set_option maxRecDepth 100000 in
set_option maxHeartbeats 1000000 in
theorem join_kd (w : World) (B b : Nat) (l : List Step) (kx ky : Int) (n : Nat) (rs : List Nat) (ty : ByteArray) (h : Pen1 w B b l) (hl : l.length ≤ 100000) (hk : n ≤ 100000) (hx : kx = 1) (hy : ky = 3) :
    Calls Tryd.prog 57 #[.agg #[.int .i64 kx, .int .i64 (n : Int), .string (str rs)], .agg #[.int .i64 ky, .int .i64 (n : Int), .string ty], .pointer (some ⟨b, 0, none⟩)] w fun e w' => e = .returned (.tuple #[]) ∧ Pen1 w' B b (l ++ List.replicate n (3, 0)) ∧ Chg (fun k => B ≤ k) w w' := by
  subst hx hy
  go_enter Tryd.func57, Tryd.ntmps57
  go_wp2_with fail
  refine (pen1_remove _ B b l n (h.below (alloc2 w _ _)) hl hk).mono ?_
  rintro e w1 ⟨rfl, hP1, hc1⟩
  have hc : Chg (fun k => B ≤ k) w w1 := (((Chg.refl _ w).alloc _).alloc _).trans hc1 (fun _ _ e => e)
  clear hc1
  go_wp2
  go_end0
  exact ⟨rfl, hP1, hc⟩
set_option maxRecDepth 100000 in
set_option maxHeartbeats 1000000 in
theorem join_id (w : World) (B b : Nat) (l : List Step) (kx ky : Int) (n : Nat) (rs : List Nat) (ty : ByteArray) (h : Pen1 w B b l) (hx : kx = 2) (hy : ky = 3) :
    Calls Tryd.prog 57 #[.agg #[.int .i64 kx, .int .i64 (n : Int), .string (str rs)], .agg #[.int .i64 ky, .int .i64 (n : Int), .string ty], .pointer (some ⟨b, 0, none⟩)] w fun e w' => e = .returned (.tuple #[]) ∧ Pen1 w' B b l ∧ Chg (fun k => B ≤ k) w w' := by
  subst hx hy
  go_enter Tryd.func57, Tryd.ntmps57
  go_wp2
  go_end0
  exact ⟨rfl, h.below (alloc2 w _ _), ((Chg.refl _ w).alloc _).alloc _⟩

/-- how many runes of the new text steps make -/
def news : List Step → Nat
  | [] => 0
  | s :: l => (if s.1 = 3 then 0 else 1) + news l
theorem news_append (a b : List Step) : news (a ++ b) = news a + news b := by
  induction a with
  | nil => simp [news]
  | cons s a ih => simp only [List.cons_append, news, ih]; omega
theorem news_ins (rs : List Nat) (S : List Step) : news (insS rs ++ S) = rs.length + news S := by
  rw [news_append]
  congr 1
  induction rs with
  | nil => rfl
  | cons r rs ih =>
    show news ((2, (r : Int)) :: insS rs) = _
    simp only [news, ih, List.length_cons]
    rw [if_neg (by decide)]; omega
theorem news_cnt (n : Nat) (k : Int) (S : List Step) (hk : k ≠ 3) : news (List.replicate n (k, 0) ++ S) = n + news S := by
  rw [news_append]
  congr 1
  induction n with
  | zero => rfl
  | succ n ih => rw [List.replicate_succ]; simp only [news, if_neg hk, ih]; omega
theorem news_del (n : Nat) (S : List Step) : news (List.replicate n (3, 0) ++ S) = news S := by
  rw [news_append]
  have : news (List.replicate n ((3 : Int), (0 : Int))) = 0 := by
    induction n with
    | zero => rfl
    | succ n ih => rw [List.replicate_succ]; simp only [news, ih]; rfl
  omega
theorem news_steps {ps : List Part} (h : ∀ p ∈ ps, Good p) : news (steps ps) = toN ps := by
  induction ps with
  | nil => rfl
  | cons p r ih =>
    have ih' := ih fun q hq => h q (List.mem_cons_of_mem _ hq)
    have g := h p (by simp)
    rw [steps_cons]
    by_cases hk : p.kind = 2
    · have e : stepsOf p = insS (runes p.text) := by simp [stepsOf, hk, insS]
      rw [e, news_ins, ih']
      simp [toN, hk, weight]
    · have e : stepsOf p = List.replicate p.n.toNat (p.kind, 0) := by simp [stepsOf, hk]
      rw [e]
      by_cases hd : p.kind = 3
      · rw [hd, news_del, ih']
        simp [toN, hd]
      · rw [news_cnt _ _ _ hd, ih']
        have h1 : p.kind = 1 := by rcases g.kind with h | h | h; exact h; exact absurd h hk; exact absurd h hd
        simp [toN, h1, weight]
theorem noDel_nil : NoDel [] := fun _ _ e => by cases e
theorem noDel_ins {rs : List Nat} {S : List Step} (h1 : 1 ≤ rs.length) : NoDel (insS rs ++ S) := by
  intro x r e
  cases rs with
  | nil => simp at h1
  | cons q rs =>
    have e' : insS (q :: rs) ++ S = (2, (q : Int)) :: (insS rs ++ S) := rfl
    rw [e'] at e
    simp only [List.cons.injEq] at e
    rw [← e.1]
    simp
theorem noDel_cnt {k : Int} {n : Nat} {S : List Step} (h1 : 1 ≤ n) (hk : k ≠ 3) : NoDel (List.replicate n (k, 0) ++ S) := by
  intro x r e
  obtain ⟨m, rfl⟩ : ∃ m, n = m + 1 := ⟨n - 1, by omega⟩
  rw [List.replicate_succ, List.cons_append] at e
  simp only [List.cons.injEq] at e
  rw [← e.1]
  exact hk
theorem ins_drop {n : Nat} {rs : List Nat} {S : List Step} (h : n ≤ rs.length) : insS rs ++ S = insS (rs.take n) ++ (insS rs ++ S).drop n := by
  have e : insS rs = insS (rs.take n) ++ insS (rs.drop n) := by
    unfold insS
    rw [← List.map_append, List.take_append_drop]
  have hl : (insS (rs.take n)).length = n := by rw [insS_length, List.length_take]; omega
  conv => rhs; rw [e, List.append_assoc]
  have : (insS (rs.take n) ++ (insS (rs.drop n) ++ S)).drop n = insS (rs.drop n) ++ S := by
    exact List.drop_left' hl
  rw [this, ← List.append_assoc, ← e]
theorem cf_cutK {n m1 m2 : Nat} {k1 k2 : Int} {S1 S2 L1 L2 : List Step} (e1 : L1 = List.replicate m1 (k1, 0) ++ S1) (e2 : L2 = List.replicate m2 (k2, 0) ++ S2) (h1 : n ≤ m1) (h2 : n ≤ m2) (hk1 : k1 ≠ 3) (hk2 : k2 ≠ 2) :
    cf L1 L2 = (if k2 = 1 then List.replicate n (k1, 0) else if k1 = 1 then List.replicate n (k2, 0) else []) ++ cf (L1.drop n) (L2.drop n) := by
  subst e1 e2
  conv => lhs; rw [cnt_drop (k := k1) (S := S1) h1, cnt_drop (k := k2) (S := S2) h2]
  rw [cf_joinK _ _ _ _ _ hk1 hk2]
theorem cf_cutI {n m2 : Nat} {rs : List Nat} {k2 : Int} {S1 S2 L1 L2 : List Step} (e1 : L1 = insS rs ++ S1) (e2 : L2 = List.replicate m2 (k2, 0) ++ S2) (h1 : n ≤ rs.length) (h2 : n ≤ m2) (hk2 : k2 ≠ 2) :
    cf L1 L2 = (if k2 = 1 then insS (rs.take n) else []) ++ cf (L1.drop n) (L2.drop n) := by
  subst e1 e2
  have hl : (rs.take n).length = n := by rw [List.length_take]; omega
  conv => lhs; rw [ins_drop (S := S1) h1, cnt_drop (k := k2) (S := S2) h2]
  have := cf_joinI (rs.take n) k2 ((insS rs ++ S1).drop n) ((List.replicate m2 (k2, 0) ++ S2).drop n) hk2
  rw [hl] at this
  exact this
theorem news_cutK {n m : Nat} {k : Int} {S L : List Step} (e : L = List.replicate m (k, 0) ++ S) (h : n ≤ m) (hk : k ≠ 3) : news L = n + news (L.drop n) := by
  subst e
  conv => lhs; rw [cnt_drop (k := k) (S := S) h]
  rw [news_cnt _ _ _ hk]
theorem news_cutI {n : Nat} {rs : List Nat} {S L : List Step} (e : L = insS rs ++ S) (h : n ≤ rs.length) : news L = n + news (L.drop n) := by
  subst e
  have hl : (rs.take n).length = n := by rw [List.length_take]; omega
  conv => lhs; rw [ins_drop (S := S) h]
  rw [news_ins, hl]

end Go.Proofs.YtepehgjdepioeaaDoor
