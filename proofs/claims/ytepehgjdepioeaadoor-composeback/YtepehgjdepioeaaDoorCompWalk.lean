/-
  Walks: text.join, text.compose.
-/
import Derived.Test.YtepehgjdepioeaaDoorViewWalk
import Derived.Test.YtepehgjdepioeaaDoorPure
import Derived.Deep.LoopGhost
import Derived.Test.YtepehgjdepioeaaDoorCheck

/- Walks: text.join, text.compose. -/
namespace Go.Proofs.YtepehgjdepioeaaDoor
open Go.RowKit Go.Lib

/-- a pen, with what it has written -/
def Pen1 (w : World) (B b : Nat) (l : List Step) : Prop := ∃ dv iv, PenL w B b dv iv l ∧ B ≤ w.heap.size
theorem Pen1.kept {F : Nat → Prop} {w w' : World} {B b : Nat} {l : List Step} (h : Pen1 w B b l) (c : Chg F w w') (hF : ∀ k, F k → k < B) : Pen1 w' B b l := by
  obtain ⟨dv, iv, h, hB⟩ := h
  exact ⟨dv, iv, PenAt.kept h c (fun k hk e => by have := (PenAt.F_lt h k hk).1; have := hF k e; omega), Nat.le_trans hB c.size⟩
theorem Pen1.below {w w' : World} {B b : Nat} {l : List Step} (h : Pen1 w B b l) (hb : Below w.heap.size w w') : Pen1 w' B b l := by
  obtain ⟨dv, iv, h, hB⟩ := h
  exact ⟨dv, iv, penL_below h hb, Nat.le_trans hB hb.size⟩
theorem pen1_keep (w : World) (B b : Nat) (l : List Step) (n : Nat) (h : Pen1 w B b l) (hl : l.length ≤ 100000) (h1 : 1 ≤ n) (hk : n ≤ 100000) :
    Calls Tryd.prog 41 #[.pointer (some ⟨b, 0, none⟩), .int .i64 (n : Int)] w fun e w' => e = .returned (.tuple #[]) ∧ Pen1 w' B b (l ++ List.replicate n (1, 0)) ∧ Chg (fun k => B ≤ k) w w' := by
  obtain ⟨dv, iv, h, hB⟩ := h
  refine (keepL w B b dv iv l n h hB hl h1 hk).mono ?_
  rintro e w' ⟨rfl, dv', iv', hp, hs⟩
  exact ⟨rfl, ⟨dv', iv', hp, Nat.le_trans hB hs.chg.size⟩, chg_base h hs⟩
theorem pen1_remove (w : World) (B b : Nat) (l : List Step) (n : Nat) (h : Pen1 w B b l) (hl : l.length ≤ 100000) (hk : n ≤ 100000) :
    Calls Tryd.prog 43 #[.pointer (some ⟨b, 0, none⟩), .int .i64 (n : Int)] w fun e w' => e = .returned (.tuple #[]) ∧ Pen1 w' B b (l ++ List.replicate n (3, 0)) ∧ Chg (fun k => B ≤ k) w w' := by
  obtain ⟨dv, iv, h, hB⟩ := h
  refine (removeL w B b dv iv l n h hl hk).mono ?_
  rintro e w' ⟨rfl, hp, hs⟩
  exact ⟨rfl, ⟨dv, iv, hp, Nat.le_trans hB hs.chg.size⟩, chg_base h hs⟩
theorem pen1_insert (w : World) (B b : Nat) (l : List Step) (rs : List Nat) (h : Pen1 w B b l) (hl : l.length ≤ 100000) (hs : (str rs).size ≤ 10000000) :
    Calls Tryd.prog 42 #[.pointer (some ⟨b, 0, none⟩), .string (str rs)] w fun e w' => e = .returned (.tuple #[]) ∧ Pen1 w' B b (l ++ insS rs) ∧ Chg (fun k => B ≤ k) w w' := by
  obtain ⟨dv, iv, h, hB⟩ := h
  refine (insertL w B b dv iv l rs h hB hl hs).mono ?_
  rintro e w' ⟨rfl, iv', hp, hs⟩
  exact ⟨rfl, ⟨dv, iv', hp, Nat.le_trans hB hs.chg.size⟩, chg_base h hs⟩

set_option maxRecDepth 100000 in
set_option maxHeartbeats 1000000 in
theorem join_ik (w : World) (B b : Nat) (l : List Step) (kx ky : Int) (n : Nat) (rs : List Nat) (ty : ByteArray) (h : Pen1 w B b l) (hl : l.length ≤ 100000) (hs : (str rs).size ≤ 10000000) (hx : kx = 2) (hy : ky = 1) :
    Calls Tryd.prog 57 #[.agg #[.int .i64 kx, .int .i64 (n : Int), .string (str rs)], .agg #[.int .i64 ky, .int .i64 (n : Int), .string ty], .pointer (some ⟨b, 0, none⟩)] w fun e w' => e = .returned (.tuple #[]) ∧ Pen1 w' B b (l ++ insS rs) ∧ Chg (fun k => B ≤ k) w w' := by
  subst hx hy
  go_enter Tryd.func57, Tryd.ntmps57
  go_wp2_with fail
  refine (pen1_insert _ B b l rs (h.below (alloc2 w _ _)) hl hs).mono ?_
  rintro e w1 ⟨rfl, hP1, hc1⟩
  have hc : Chg (fun k => B ≤ k) w w1 := (((Chg.refl _ w).alloc _).alloc _).trans hc1 (fun _ _ e => e)
  clear hc1
  go_wp2
  go_end0
  exact ⟨rfl, hP1, hc⟩
set_option maxRecDepth 100000 in
set_option maxHeartbeats 1000000 in
theorem join_kk (w : World) (B b : Nat) (l : List Step) (kx ky : Int) (n : Nat) (rs : List Nat) (ty : ByteArray) (h : Pen1 w B b l) (hl : l.length ≤ 100000) (h1 : 1 ≤ n) (hk : n ≤ 100000) (hx : kx = 1) (hy : ky = 1) :
    Calls Tryd.prog 57 #[.agg #[.int .i64 kx, .int .i64 (n : Int), .string (str rs)], .agg #[.int .i64 ky, .int .i64 (n : Int), .string ty], .pointer (some ⟨b, 0, none⟩)] w fun e w' => e = .returned (.tuple #[]) ∧ Pen1 w' B b (l ++ List.replicate n (1, 0)) ∧ Chg (fun k => B ≤ k) w w' := by
  subst hx hy
  go_enter Tryd.func57, Tryd.ntmps57
  go_wp2_with fail
  refine (pen1_keep _ B b l n (h.below (alloc2 w _ _)) hl h1 hk).mono ?_
  rintro e w1 ⟨rfl, hP1, hc1⟩
  have hc : Chg (fun k => B ≤ k) w w1 := (((Chg.refl _ w).alloc _).alloc _).trans hc1 (fun _ _ e => e)
  clear hc1
  go_wp2
  go_end0
  exact ⟨rfl, hP1, hc⟩
set_option maxRecDepth 100000 in
set_option maxHeartbeats 1000000 in
theorem join_kd (w : World) (B b : Nat) (l : List Step) (kx ky : Int) (n : Nat) (rs : List Nat) (ty : ByteArray) (h : Pen1 w B b l) (hl : l.length ≤ 100000) (hk : n ≤ 100000) (hx : kx = 1) (hy : ky = 3) :
    Calls Tryd.prog 57 #[.agg #[.int .i64 kx, .int .i64 (n : Int), .string (str rs)], .agg #[.int .i64 ky, .int .i64 (n : Int), .string ty], .pointer (some ⟨b, 0, none⟩)] w fun e w' => e = .returned (.tuple #[]) ∧ Pen1 w' B b (l ++ List.replicate n (3, 0)) ∧ Chg (fun k => B ≤ k) w w' := by
  subst hx hy
  go_enter Tryd.func57, Tryd.ntmps57
  go_wp2_with fail
  refine (pen1_remove _ B b l n (h.below (alloc2 w _ _)) hl hk).mono ?_
  rintro e w1 ⟨rfl, hP1, hc1⟩
  have hc : Chg (fun k => B ≤ k) w w1 := (((Chg.refl _ w).alloc _).alloc _).trans hc1 (fun _ _ e => e)
  clear hc1
  go_wp2
  go_end0
  exact ⟨rfl, hP1, hc⟩
set_option maxRecDepth 100000 in
set_option maxHeartbeats 1000000 in
theorem join_id (w : World) (B b : Nat) (l : List Step) (kx ky : Int) (n : Nat) (rs : List Nat) (ty : ByteArray) (h : Pen1 w B b l) (hx : kx = 2) (hy : ky = 3) :
    Calls Tryd.prog 57 #[.agg #[.int .i64 kx, .int .i64 (n : Int), .string (str rs)], .agg #[.int .i64 ky, .int .i64 (n : Int), .string ty], .pointer (some ⟨b, 0, none⟩)] w fun e w' => e = .returned (.tuple #[]) ∧ Pen1 w' B b l ∧ Chg (fun k => B ≤ k) w w' := by
  subst hx hy
  go_enter Tryd.func57, Tryd.ntmps57
  go_wp2
  go_end0
  exact ⟨rfl, h.below (alloc2 w _ _), ((Chg.refl _ w).alloc _).alloc _⟩

/-- how many runes of the new text steps make -/
def news : List Step → Nat
  | [] => 0
  | s :: l => (if s.1 = 3 then 0 else 1) + news l
theorem news_append (a b : List Step) : news (a ++ b) = news a + news b := by
  induction a with
  | nil => simp [news]
  | cons s a ih => simp only [List.cons_append, news, ih]; omega
theorem news_ins (rs : List Nat) (S : List Step) : news (insS rs ++ S) = rs.length + news S := by
  rw [news_append]
  congr 1
  induction rs with
  | nil => rfl
  | cons r rs ih =>
    show news ((2, (r : Int)) :: insS rs) = _
    simp only [news, ih, List.length_cons]
    rw [if_neg (by decide)]; omega
theorem news_cnt (n : Nat) (k : Int) (S : List Step) (hk : k ≠ 3) : news (List.replicate n (k, 0) ++ S) = n + news S := by
  rw [news_append]
  congr 1
  induction n with
  | zero => rfl
  | succ n ih => rw [List.replicate_succ]; simp only [news, if_neg hk, ih]; omega
theorem news_del (n : Nat) (S : List Step) : news (List.replicate n (3, 0) ++ S) = news S := by
  rw [news_append]
  have : news (List.replicate n ((3 : Int), (0 : Int))) = 0 := by
    induction n with
    | zero => rfl
    | succ n ih => rw [List.replicate_succ]; simp only [news, ih]; rfl
  omega
theorem news_steps {ps : List Part} (h : ∀ p ∈ ps, Good p) : news (steps ps) = toN ps := by
  induction ps with
  | nil => rfl
  | cons p r ih =>
    have ih' := ih fun q hq => h q (List.mem_cons_of_mem _ hq)
    have g := h p (by simp)
    rw [steps_cons]
    by_cases hk : p.kind = 2
    · have e : stepsOf p = insS (runes p.text) := by simp [stepsOf, hk, insS]
      rw [e, news_ins, ih']
      simp [toN, hk, weight]
    · have e : stepsOf p = List.replicate p.n.toNat (p.kind, 0) := by simp [stepsOf, hk]
      rw [e]
      by_cases hd : p.kind = 3
      · rw [hd, news_del, ih']
        simp [toN, hd]
      · rw [news_cnt _ _ _ hd, ih']
        have h1 : p.kind = 1 := by rcases g.kind with h | h | h; exact h; exact absurd h hk; exact absurd h hd
        simp [toN, h1, weight]
theorem noDel_nil : NoDel [] := fun _ _ e => by cases e
theorem noDel_ins {rs : List Nat} {S : List Step} (h1 : 1 ≤ rs.length) : NoDel (insS rs ++ S) := by
  intro x r e
  cases rs with
  | nil => simp at h1
  | cons q rs =>
    have e' : insS (q :: rs) ++ S = (2, (q : Int)) :: (insS rs ++ S) := rfl
    rw [e'] at e
    simp only [List.cons.injEq] at e
    rw [← e.1]
    simp
theorem noDel_cnt {k : Int} {n : Nat} {S : List Step} (h1 : 1 ≤ n) (hk : k ≠ 3) : NoDel (List.replicate n (k, 0) ++ S) := by
  intro x r e
  obtain ⟨m, rfl⟩ : ∃ m, n = m + 1 := ⟨n - 1, by omega⟩
  rw [List.replicate_succ, List.cons_append] at e
  simp only [List.cons.injEq] at e
  rw [← e.1]
  exact hk
theorem ins_drop {n : Nat} {rs : List Nat} {S : List Step} (h : n ≤ rs.length) : insS rs ++ S = insS (rs.take n) ++ (insS rs ++ S).drop n := by
  have e : insS rs = insS (rs.take n) ++ insS (rs.drop n) := by
    unfold insS
    rw [← List.map_append, List.take_append_drop]
  have hl : (insS (rs.take n)).length = n := by rw [insS_length, List.length_take]; omega
  conv => rhs; rw [e, List.append_assoc]
  have : (insS (rs.take n) ++ (insS (rs.drop n) ++ S)).drop n = insS (rs.drop n) ++ S := by
    exact List.drop_left' hl
  rw [this, ← List.append_assoc, ← e]
theorem cf_cutK {n m1 m2 : Nat} {k1 k2 : Int} {S1 S2 L1 L2 : List Step} (e1 : L1 = List.replicate m1 (k1, 0) ++ S1) (e2 : L2 = List.replicate m2 (k2, 0) ++ S2) (h1 : n ≤ m1) (h2 : n ≤ m2) (hk1 : k1 ≠ 3) (hk2 : k2 ≠ 2) :
    cf L1 L2 = (if k2 = 1 then List.replicate n (k1, 0) else if k1 = 1 then List.replicate n (k2, 0) else []) ++ cf (L1.drop n) (L2.drop n) := by
  subst e1 e2
  conv => lhs; rw [cnt_drop (k := k1) (S := S1) h1, cnt_drop (k := k2) (S := S2) h2]
  rw [cf_joinK _ _ _ _ _ hk1 hk2]
theorem cf_cutI {n m2 : Nat} {rs : List Nat} {k2 : Int} {S1 S2 L1 L2 : List Step} (e1 : L1 = insS rs ++ S1) (e2 : L2 = List.replicate m2 (k2, 0) ++ S2) (h1 : n ≤ rs.length) (h2 : n ≤ m2) (hk2 : k2 ≠ 2) :
    cf L1 L2 = (if k2 = 1 then insS (rs.take n) else []) ++ cf (L1.drop n) (L2.drop n) := by
  subst e1 e2
  have hl : (rs.take n).length = n := by rw [List.length_take]; omega
  conv => lhs; rw [ins_drop (S := S1) h1, cnt_drop (k := k2) (S := S2) h2]
  have := cf_joinI (rs.take n) k2 ((insS rs ++ S1).drop n) ((List.replicate m2 (k2, 0) ++ S2).drop n) hk2
  rw [hl] at this
  exact this
theorem news_cutK {n m : Nat} {k : Int} {S L : List Step} (e : L = List.replicate m (k, 0) ++ S) (h : n ≤ m) (hk : k ≠ 3) : news L = n + news (L.drop n) := by
  subst e
  conv => lhs; rw [cnt_drop (k := k) (S := S) h]
  rw [news_cnt _ _ _ hk]
theorem news_cutI {n : Nat} {rs : List Nat} {S L : List Step} (e : L = insS rs ++ S) (h : n ≤ rs.length) : news L = n + news (L.drop n) := by
  subst e
  have hl : (rs.take n).length = n := by rw [List.length_take]; omega
  conv => lhs; rw [ins_drop (S := S) h]
  rw [news_ins, hl]

end Go.Proofs.YtepehgjdepioeaaDoor

/- Walk: text.compose. -/
namespace Go.Proofs.YtepehgjdepioeaaDoor
open Go.RowKit Go.Lib

theorem field_text (k n : Int) (t : ByteArray) (w : World) : (Instr.field 99 (.agg #[.int .i64 k, .int .i64 n, .string t]) 2).run Tryd.prog w = .ok (.string t) w := by kernel_rfl
theorem field_n (k n : Int) (t : ByteArray) (w : World) : (Instr.field 99 (.agg #[.int .i64 k, .int .i64 n, .string t]) 1).run Tryd.prog w = .ok (.int .i64 n) w := by kernel_rfl
theorem pen1_new {w : World} (A A' X : Obj) (B : Nat) (hB : B = w.heap.size + 2) (nil : Value) (hn : nil = .slice none 0 0) (hX : X = .cells #[nil, nil, .int .i64 0] 81) : Pen1 (((w.alloc A).alloc A').alloc X) B (w.heap.size + 2) [] := by
  subst hB hn hX
  have e2 : ((w.alloc A).alloc A').heap.size = w.heap.size + 2 := by simp
  have k2 := heap_alloc_new ((w.alloc A).alloc A') (.cells #[.slice none 0 0, .slice none 0 0, .int .i64 0] 81)
  rw [e2] at k2
  exact ⟨.slice none 0 0, .slice none 0 0, ⟨Nat.le_refl _, k2, World.ownsRow_nil _ _ _ _, World.ownsRow_nil _ _ _ _⟩, by simp⟩

set_option maxRecDepth 100000 in
set_option maxHeartbeats 4000000 in
theorem compose_any (ps qs : List Part) (a b : Option Addr) (ca cb : Nat) (w : World) (hopa : OpAt w a ps) (hopb : OpAt w b qs) (hca : ps.length ≤ ca) (hcb : qs.length ≤ cb) (hoka : OpOk ps) (hokb : OpOk qs) (hfit : toN ps = fromN qs)
    (hsa : ∀ p ∈ ps, p.text.size ≤ 1048576) (hsb : ∀ p ∈ qs, p.text.size ≤ 1048576) :
    Calls Tryd.prog 47 #[.slice a ps.length ca, .slice b qs.length cb] w fun e w' => ∃ u, e = .returned u ∧
      w'.ownsRow w.heap.size 42 3 u (group (cf (steps ps) (steps qs))).length (partCells (group (cf (steps ps) (steps qs)))) ∧ Below w.heap.size w w' := by
  have hma := hoka.many
  have hmb := hokb.many
  have hlen := cf_length (steps ps) (steps qs)
  have hla := hoka.steps_le
  have hlb := hokb.steps_le
  have HO : Hid (news (steps ps) = olds (steps qs)) := by show _ = _; rw [news_steps hoka.chain.good, olds_steps hokb.chain.good, hfit]
  obtain ⟨C, hC⟩ : ∃ C, C = cf (steps ps) (steps qs) := ⟨_, rfl⟩
  rw [← hC] at hlen ⊢
  have HC : Hid (C = cf (steps ps) (steps qs)) := hC
  clear hC
  have cA := begin_any w w a ps ca (Below.refl _ _) hopa hca (by omega) hoka.chain.good hsa
  have cB := fun w1 hb1 => begin_any w w1 b qs cb hb1 hopb hcb (by omega) hokb.chain.good hsb
  generalize headOf ps = H1 at cA
  generalize headOf qs = H2 at cB
  have hCl : C.length ≤ 16000 := by omega
  clear hlen
  obtain ⟨La, hLa⟩ : ∃ La, La = steps ps := ⟨_, rfl⟩
  obtain ⟨Lb, hLb⟩ : ∃ Lb, Lb = steps qs := ⟨_, rfl⟩
  rw [← hLa] at cA HO HC hla
  rw [← hLb] at cB HO HC hlb
  clear hLa hLb
  go_enter Tryd.func47, Tryd.ntmps47
  go_wp2_with fail
  refine cA.mono ?_
  rintro e w1 ⟨v1, rfl, hv1, hb1⟩
  obtain ⟨ok1, a1, r1, c1, rfl, hr1⟩ := hv1
  go_wp2_with fail
  refine (cB w1 hb1).mono ?_
  rintro e w2 ⟨v2, rfl, hv2, hb2⟩
  obtain ⟨ok2, a2, r2, c2, rfl, hr2⟩ := hv2
  clear cA cB
  have hb12 := below_two hb1 hb2 (Nat.le_refl _)
  have hs12 := hb12.size
  go_wp2
  go_loopg [] (La.length + Lb.length) (fun k wr => ∃ (hx hy : Head) (Lx Ly lp : List Step), WalkAt w wr w2.heap.size hx Lx ∧ WalkAt w wr (w2.heap.size + 1) hy Ly ∧ Pen1 wr (w2.heap.size + 2) (w2.heap.size + 2) lp ∧ Hid (C = lp ++ cf Lx Ly) ∧ Hid (news Lx = olds Ly) ∧ Hid (k = Lx.length + Ly.length))
  case atStart =>
    refine ⟨H1, H2, La, Lb, [], ⟨hs12, ?_, ok1, a1, r1, c1, ?_, hr1⟩, ⟨by omega, ?_, ok2, a2, r2, c2, ?_, hr2⟩, pen1_new _ _ _ _ rfl _ rfl rfl, HC, HO, rfl⟩
    · exact ((hb12.alloc hs12 _).alloc (by simp; omega) _).alloc (by simp; omega) _
    · exact row_old (row_old (heap_alloc_new w2 _) _) _
    · exact ((hb12.alloc hs12 _).alloc (by simp; omega) _).alloc (by simp; omega) _
    · exact row_old (heap_two w2 _ _) _
  case round =>
    obtain ⟨hx, hy, Lx, Ly, lp, hwx, hwy, hpen, HC, HO, HK⟩ := hrel
    obtain ⟨c0, c1, c2⟩ := hwx.head
    obtain ⟨d0, d1, d2⟩ := hwy.head
    have hlp : lp.length ≤ C.length := by rw [HC.out, List.length_append]; omega
    have hvx := hwx.view
    have hvy := hwy.view
    cases hvx with
    | fin =>
      cases hvy with
      | ins ts S h1 h2 hc =>
        simp only at d0 d1 d2
        have gy : decide (0 < ts.length) = true := by simp; omega
        have cT := takeAll_any w wr (w2.heap.size + 1) _ _ hwy h1
        go_wp2_with fail
        refine cT.mono ?_
        rintro e w3 ⟨rfl, ⟨hy', hwy'⟩, hc3⟩
        rw [drop_insS] at hwy'
        have hP3 := hpen.kept hc3 (fun k e => by omega)
        have hsr := encs_le hc
        rw [← str_size] at hsr
        have hwx3 := hwx.kept hc3 (by omega) (fun k e => by omega)
        obtain ⟨Lx, hLx⟩ : ∃ Lx, Lx = ([] : List Step) := ⟨_, rfl⟩
        have hno : NoDel Lx := by rw [hLx]; exact noDel_nil
        rw [← hLx] at HC HO HK hwx3
        have HC2 : Hid (C = (lp ++ insS ts) ++ cf Lx S) := by show C = _; rw [HC.out, cf_insRs _ _ _ hno, List.append_assoc]
        have HO2 : Hid (news Lx = olds S) := by show _ = _; rw [HO.out, olds_ins]
        have hgk : Lx.length + S.length < gk := by rw [HK.out, List.length_append, insS_length]; omega
        clear c0 c1 c2 d0 d1 d2 cT hwx hwy HC HO HK hLx hno
        have hfd := field_text 2 (ts.length : Int) (str ts)
        go_wp2_with fail
        refine (pen1_insert _ _ _ lp ts hP3 (by omega) (by omega)).mono ?_
        rintro e w5 ⟨rfl, hP5, hc5⟩
        go_wp2
        go_roundg (Lx.length + S.length)
        case measure => exact hgk
        case rel => exact ⟨_, hy', Lx, S, _, hwx3.kept hc5 (by omega) (fun k e => by omega), hwy'.kept hc5 (by omega) (fun k e => by omega), hP5, HC2, HO2, rfl⟩
      | fin =>
        have hC1 : C = lp := by rw [HC.out, cf_nil]; simp
        simp only at c0 c1 d0 d1
        clear HC HO HK c2 d2
        subst hC1
        have hbr := hwx.bel
        obtain ⟨dv, iv, hpl, hbase⟩ := hpen
        have cP := opL wr _ _ dv iv C hpl hbase (by omega)
        clear hwx hwy
        go_wp2_with fail
        refine cP.mono ?_
        rintro e w3 ⟨v3, iv3, rfl, hp3, hs3⟩
        have hown3 := hp3.own
        have hc3 := chg_base hpl hs3
        obtain ⟨X, hX⟩ : ∃ X, X = group C := ⟨_, rfl⟩
        simp only at hown3
        rw [← hX] at hown3
        have HX : Hid (X = group C) := hX
        clear hX hp3 hs3 cP hpl
        obtain ⟨xa, xc, rfl⟩ := own_form hown3
        go_wp2
        go_ret
        refine ⟨_, rfl, by rw [← HX.out]; exact own_base hown3 (by omega), ?_⟩
        exact hbr.trans (Chg.below hc3 (fun k e => by omega) (by have := hbr.size; omega))
      | cnt ky ny Sy hy1 hy2 hky =>
        exfalso
        have e := HO.out
        rw [olds_cnt _ _ _ (by omega)] at e
        simp only [news] at e
        omega
    | ins rs Sx h1x h2x hcx =>
      simp only at c0 c1 c2
      have gx : decide (0 < rs.length) = true := by simp; omega
      cases hvy with
      | ins ts S h1 h2 hc =>
        simp only at d0 d1 d2
        have gy : decide (0 < ts.length) = true := by simp; omega
        have cT := takeAll_any w wr (w2.heap.size + 1) _ _ hwy h1
        go_wp2_with fail
        refine cT.mono ?_
        rintro e w3 ⟨rfl, ⟨hy', hwy'⟩, hc3⟩
        rw [drop_insS] at hwy'
        have hP3 := hpen.kept hc3 (fun k e => by omega)
        have hsr := encs_le hc
        rw [← str_size] at hsr
        have hwx3 := hwx.kept hc3 (by omega) (fun k e => by omega)
        obtain ⟨Lx, hLx⟩ : ∃ Lx, Lx = insS rs ++ Sx := ⟨_, rfl⟩
        have hno : NoDel Lx := by rw [hLx]; exact noDel_ins h1x
        rw [← hLx] at HC HO HK hwx3
        have HC2 : Hid (C = (lp ++ insS ts) ++ cf Lx S) := by show C = _; rw [HC.out, cf_insRs _ _ _ hno, List.append_assoc]
        have HO2 : Hid (news Lx = olds S) := by show _ = _; rw [HO.out, olds_ins]
        have hgk : Lx.length + S.length < gk := by rw [HK.out, List.length_append, insS_length]; omega
        clear c0 c1 c2 d0 d1 d2 cT hwx hwy HC HO HK hLx hno
        have hfd := field_text 2 (ts.length : Int) (str ts)
        go_wp2_with fail
        refine (pen1_insert _ _ _ lp ts hP3 (by omega) (by omega)).mono ?_
        rintro e w5 ⟨rfl, hP5, hc5⟩
        go_wp2
        go_roundg (Lx.length + S.length)
        case measure => exact hgk
        case rel => exact ⟨_, hy', Lx, S, _, hwx3.kept hc5 (by omega) (fun k e => by omega), hwy'.kept hc5 (by omega) (fun k e => by omega), hP5, HC2, HO2, rfl⟩
      | fin =>
        exfalso
        have e := HO.out
        rw [news_ins] at e
        simp only [olds] at e
        omega
      | cnt ky ny Sy hy1 hy2 hky =>
        rcases hky with hky1 | hky3
        · subst hky1
          simp only at d0 d1
          obtain ⟨n, HN⟩ : ∃ n : Nat, Hid (min (rs.length : Int) (ny : Int) = (n : Int) ∧ n ≤ rs.length ∧ n ≤ ny ∧ 1 ≤ n) := ⟨min rs.length ny, by refine ⟨?_, ?_, ?_, ?_⟩ <;> omega⟩
          have hnx : n ≤ rs.length := HN.out.2.1
          have hny : n ≤ ny := HN.out.2.2.1
          have hn1 : 1 ≤ n := HN.out.2.2.2
          obtain ⟨Lx, hLx⟩ : ∃ Lx, Lx = insS rs ++ Sx := ⟨_, rfl⟩
          obtain ⟨Ly, hLy⟩ : ∃ Ly, Ly = List.replicate ny ((1 : Int), (0 : Int)) ++ Sy := ⟨_, rfl⟩
          rw [← hLx] at HC HO HK hwx
          rw [← hLy] at HC HO HK hwy
          have hcut := cf_cutI hLx hLy hnx hny (by omega)
          have HC2 : Hid (C = (lp ++ insS (rs.take n)) ++ cf (Lx.drop n) (Ly.drop n)) := by show C = _; rw [HC.out, hcut]; simp
          have HO2 : Hid (news (Lx.drop n) = olds (Ly.drop n)) := by
            show _ = _
            have e1 := news_cutI hLx hnx
            have e2 := olds_cut hLy hny (by omega)
            have := HO.out
            omega
          have hgk : (Lx.drop n).length + (Ly.drop n).length < gk := by
            have e1 : rs.length ≤ Lx.length := by rw [hLx]; simp [insS]
            have := HK.out
            rw [List.length_drop, List.length_drop]
            omega
          have hst : (str (rs.take n)).size ≤ 10000000 := by
            have := encs_le (rs := rs.take n) (fun r hr => hcx r (List.mem_of_mem_take hr))
            rw [← str_size, List.length_take] at this
            omega
          have cX := take_at w wr w2.heap.size _ _ n hwx hnx h1x _ HN.out.1
          have hwy0 := hwy
          clear HC HO HK hcut hLx hLy
          go_wp2_with fail
          refine cX.mono ?_
          rintro e w3 ⟨rfl, ⟨hx', hwx'⟩, hc3⟩
          have hwy3 := hwy0.kept hc3 (by omega) (fun k e => by omega)
          have hP3 := hpen.kept hc3 (fun k e => by omega)
          have cY := take_at w w3 (w2.heap.size + 1) _ _ n hwy3 hny hy1 _ HN.out.1
          clear cX c0 c1 c2 d0 d1 d2 hwx hwy hwy0 hpen hc3
          go_wp2_with fail
          refine cY.mono ?_
          rintro e w4 ⟨rfl, ⟨hy', hwy'⟩, hc4⟩
          have hwx4 := hwx'.kept hc4 (by omega) (fun k e => by omega)
          have hP4 := hP3.kept hc4 (fun k e => by omega)
          clear cY hc4 hP3 hwx' hwy3
          go_wp2_with fail
          refine (join_ik w4 _ _ lp 2 (1 : Int) n (rs.take n) _ hP4 (by omega) hst rfl rfl).mono ?_
          rintro e w5 ⟨rfl, hP5, hc5⟩
          go_wp2
          go_roundg ((Lx.drop n).length + (Ly.drop n).length)
          case measure => exact hgk
          case rel => exact ⟨hx', hy', _, _, _, hwx4.kept hc5 (by omega) (fun k e => by omega), hwy'.kept hc5 (by omega) (fun k e => by omega), hP5, HC2, HO2, rfl⟩
        · subst hky3
          simp only at d0 d1
          obtain ⟨n, HN⟩ : ∃ n : Nat, Hid (min (rs.length : Int) (ny : Int) = (n : Int) ∧ n ≤ rs.length ∧ n ≤ ny ∧ 1 ≤ n) := ⟨min rs.length ny, by refine ⟨?_, ?_, ?_, ?_⟩ <;> omega⟩
          have hnx : n ≤ rs.length := HN.out.2.1
          have hny : n ≤ ny := HN.out.2.2.1
          have hn1 : 1 ≤ n := HN.out.2.2.2
          obtain ⟨Lx, hLx⟩ : ∃ Lx, Lx = insS rs ++ Sx := ⟨_, rfl⟩
          obtain ⟨Ly, hLy⟩ : ∃ Ly, Ly = List.replicate ny ((3 : Int), (0 : Int)) ++ Sy := ⟨_, rfl⟩
          rw [← hLx] at HC HO HK hwx
          rw [← hLy] at HC HO HK hwy
          have hcut := cf_cutI hLx hLy hnx hny (by omega)
          have HC2 : Hid (C = lp ++ cf (Lx.drop n) (Ly.drop n)) := by show C = _; rw [HC.out, hcut]; simp
          have HO2 : Hid (news (Lx.drop n) = olds (Ly.drop n)) := by
            show _ = _
            have e1 := news_cutI hLx hnx
            have e2 := olds_cut hLy hny (by omega)
            have := HO.out
            omega
          have hgk : (Lx.drop n).length + (Ly.drop n).length < gk := by
            have e1 : rs.length ≤ Lx.length := by rw [hLx]; simp [insS]
            have := HK.out
            rw [List.length_drop, List.length_drop]
            omega
          have cX := take_at w wr w2.heap.size _ _ n hwx hnx h1x _ HN.out.1
          have hwy0 := hwy
          clear HC HO HK hcut hLx hLy
          go_wp2_with fail
          refine cX.mono ?_
          rintro e w3 ⟨rfl, ⟨hx', hwx'⟩, hc3⟩
          have hwy3 := hwy0.kept hc3 (by omega) (fun k e => by omega)
          have hP3 := hpen.kept hc3 (fun k e => by omega)
          have cY := take_at w w3 (w2.heap.size + 1) _ _ n hwy3 hny hy1 _ HN.out.1
          clear cX c0 c1 c2 d0 d1 d2 hwx hwy hwy0 hpen hc3
          go_wp2_with fail
          refine cY.mono ?_
          rintro e w4 ⟨rfl, ⟨hy', hwy'⟩, hc4⟩
          have hwx4 := hwx'.kept hc4 (by omega) (fun k e => by omega)
          have hP4 := hP3.kept hc4 (fun k e => by omega)
          clear cY hc4 hP3 hwx' hwy3
          go_wp2_with fail
          refine (join_id w4 _ _ lp 2 (3 : Int) n (rs.take n) _ hP4 rfl rfl).mono ?_
          rintro e w5 ⟨rfl, hP5, hc5⟩
          go_wp2
          go_roundg ((Lx.drop n).length + (Ly.drop n).length)
          case measure => exact hgk
          case rel => exact ⟨hx', hy', _, _, _, hwx4.kept hc5 (by omega) (fun k e => by omega), hwy'.kept hc5 (by omega) (fun k e => by omega), hP5, HC2, HO2, rfl⟩
    | cnt kx nx Sx hx1 hx2 hkx =>
      simp only at c0 c1 c2
      have gx : decide (0 < nx) = true := by simp; omega
      by_cases hk3 : kx = 3
      · subst hk3
        have cT := takeAll_any w wr w2.heap.size _ _ hwx hx1
        go_wp2_with fail
        refine cT.mono ?_
        rintro e w3 ⟨rfl, ⟨hx', hwx'⟩, hc3⟩
        have hdr : (List.replicate nx ((3 : Int), (0 : Int)) ++ Sx).drop nx = Sx := by
          have e : nx = (List.replicate nx ((3 : Int), (0 : Int))).length := by simp
          conv => lhs; rw [e]
          simp
        simp only [hdr] at hwx'
        have hP3 := hpen.kept hc3 (fun k e => by omega)
        have hwy3 := hwy.kept hc3 (by omega) (fun k e => by omega)
        have HC2 : Hid (C = (lp ++ List.replicate nx (3, 0)) ++ cf Sx Ly) := by show C = _; rw [HC.out, cf_delLs, List.append_assoc]
        have HO2 : Hid (news Sx = olds Ly) := by show _ = _; rw [← HO.out, news_del]
        have hgk : Sx.length + Ly.length < gk := by rw [HK.out, List.length_append, List.length_replicate]; omega
        clear c0 c1 c2 d0 d1 d2 cT hwx hwy HC HO HK hvy
        have hfd := field_n 3 (nx : Int) (str [])
        go_wp2_with fail
        refine (pen1_remove _ _ _ lp nx hP3 (by omega) (by omega)).mono ?_
        rintro e w5 ⟨rfl, hP5, hc5⟩
        go_wp2
        go_roundg (Sx.length + Ly.length)
        case measure => exact hgk
        case rel => exact ⟨hx', _, Sx, Ly, _, hwx'.kept hc5 (by omega) (fun k e => by omega), hwy3.kept hc5 (by omega) (fun k e => by omega), hP5, HC2, HO2, rfl⟩
      · obtain rfl : kx = 1 := by omega
        cases hvy with
        | ins ts S h1 h2 hc =>
          simp only at d0 d1 d2
          have gy : decide (0 < ts.length) = true := by simp; omega
          have cT := takeAll_any w wr (w2.heap.size + 1) _ _ hwy h1
          go_wp2_with fail
          refine cT.mono ?_
          rintro e w3 ⟨rfl, ⟨hy', hwy'⟩, hc3⟩
          rw [drop_insS] at hwy'
          have hP3 := hpen.kept hc3 (fun k e => by omega)
          have hsr := encs_le hc
          rw [← str_size] at hsr
          have hwx3 := hwx.kept hc3 (by omega) (fun k e => by omega)
          obtain ⟨Lx, hLx⟩ : ∃ Lx, Lx = List.replicate nx ((1 : Int), (0 : Int)) ++ Sx := ⟨_, rfl⟩
          have hno : NoDel Lx := by rw [hLx]; exact noDel_cnt hx1 (by decide)
          rw [← hLx] at HC HO HK hwx3
          have HC2 : Hid (C = (lp ++ insS ts) ++ cf Lx S) := by show C = _; rw [HC.out, cf_insRs _ _ _ hno, List.append_assoc]
          have HO2 : Hid (news Lx = olds S) := by show _ = _; rw [HO.out, olds_ins]
          have hgk : Lx.length + S.length < gk := by rw [HK.out, List.length_append, insS_length]; omega
          clear c0 c1 c2 d0 d1 d2 cT hwx hwy HC HO HK hLx hno
          have hfd := field_text 2 (ts.length : Int) (str ts)
          go_wp2_with fail
          refine (pen1_insert _ _ _ lp ts hP3 (by omega) (by omega)).mono ?_
          rintro e w5 ⟨rfl, hP5, hc5⟩
          go_wp2
          go_roundg (Lx.length + S.length)
          case measure => exact hgk
          case rel => exact ⟨_, hy', Lx, S, _, hwx3.kept hc5 (by omega) (fun k e => by omega), hwy'.kept hc5 (by omega) (fun k e => by omega), hP5, HC2, HO2, rfl⟩
        | fin =>
          exfalso
          have e := HO.out
          rw [news_cnt _ _ _ (by decide)] at e
          simp only [olds] at e
          omega
        | cnt ky ny Sy hy1 hy2 hky =>
          rcases hky with hky1 | hky3
          · subst hky1
            simp only at d0 d1
            obtain ⟨n, HN⟩ : ∃ n : Nat, Hid (min (nx : Int) (ny : Int) = (n : Int) ∧ n ≤ nx ∧ n ≤ ny ∧ 1 ≤ n) := ⟨min nx ny, by refine ⟨?_, ?_, ?_, ?_⟩ <;> omega⟩
            have hnx : n ≤ nx := HN.out.2.1
            have hny : n ≤ ny := HN.out.2.2.1
            have hn1 : 1 ≤ n := HN.out.2.2.2
            obtain ⟨Lx, hLx⟩ : ∃ Lx, Lx = List.replicate nx ((1 : Int), (0 : Int)) ++ Sx := ⟨_, rfl⟩
            obtain ⟨Ly, hLy⟩ : ∃ Ly, Ly = List.replicate ny ((1 : Int), (0 : Int)) ++ Sy := ⟨_, rfl⟩
            rw [← hLx] at HC HO HK hwx
            rw [← hLy] at HC HO HK hwy
            have hcut := cf_cutK hLx hLy hnx hny (by decide) (by omega)
            have HC2 : Hid (C = (lp ++ List.replicate n (1, 0)) ++ cf (Lx.drop n) (Ly.drop n)) := by show C = _; rw [HC.out, hcut]; simp
            have HO2 : Hid (news (Lx.drop n) = olds (Ly.drop n)) := by
              show _ = _
              have e1 := news_cutK hLx hnx (by decide)
              have e2 := olds_cut hLy hny (by omega)
              have := HO.out
              omega
            have hgk : (Lx.drop n).length + (Ly.drop n).length < gk := by
              have e1 : nx ≤ Lx.length := by rw [hLx]; simp
              have := HK.out
              rw [List.length_drop, List.length_drop]
              omega
            have cX := take_at w wr w2.heap.size _ _ n hwx hnx hx1 _ HN.out.1
            have hwy0 := hwy
            clear HC HO HK hcut hLx hLy
            go_wp2_with fail
            refine cX.mono ?_
            rintro e w3 ⟨rfl, ⟨hx', hwx'⟩, hc3⟩
            have hwy3 := hwy0.kept hc3 (by omega) (fun k e => by omega)
            have hP3 := hpen.kept hc3 (fun k e => by omega)
            have cY := take_at w w3 (w2.heap.size + 1) _ _ n hwy3 hny hy1 _ HN.out.1
            clear cX c0 c1 c2 d0 d1 d2 hwx hwy hwy0 hpen hc3
            go_wp2_with fail
            refine cY.mono ?_
            rintro e w4 ⟨rfl, ⟨hy', hwy'⟩, hc4⟩
            have hwx4 := hwx'.kept hc4 (by omega) (fun k e => by omega)
            have hP4 := hP3.kept hc4 (fun k e => by omega)
            clear cY hc4 hP3 hwx' hwy3
            go_wp2_with fail
            refine (join_kk w4 _ _ lp 1 (1 : Int) n _ _ hP4 (by omega) hn1 (by omega) rfl rfl).mono ?_
            rintro e w5 ⟨rfl, hP5, hc5⟩
            go_wp2
            go_roundg ((Lx.drop n).length + (Ly.drop n).length)
            case measure => exact hgk
            case rel => exact ⟨hx', hy', _, _, _, hwx4.kept hc5 (by omega) (fun k e => by omega), hwy'.kept hc5 (by omega) (fun k e => by omega), hP5, HC2, HO2, rfl⟩
          · subst hky3
            simp only at d0 d1
            obtain ⟨n, HN⟩ : ∃ n : Nat, Hid (min (nx : Int) (ny : Int) = (n : Int) ∧ n ≤ nx ∧ n ≤ ny ∧ 1 ≤ n) := ⟨min nx ny, by refine ⟨?_, ?_, ?_, ?_⟩ <;> omega⟩
            have hnx : n ≤ nx := HN.out.2.1
            have hny : n ≤ ny := HN.out.2.2.1
            have hn1 : 1 ≤ n := HN.out.2.2.2
            obtain ⟨Lx, hLx⟩ : ∃ Lx, Lx = List.replicate nx ((1 : Int), (0 : Int)) ++ Sx := ⟨_, rfl⟩
            obtain ⟨Ly, hLy⟩ : ∃ Ly, Ly = List.replicate ny ((3 : Int), (0 : Int)) ++ Sy := ⟨_, rfl⟩
            rw [← hLx] at HC HO HK hwx
            rw [← hLy] at HC HO HK hwy
            have hcut := cf_cutK hLx hLy hnx hny (by decide) (by omega)
            have HC2 : Hid (C = (lp ++ List.replicate n (3, 0)) ++ cf (Lx.drop n) (Ly.drop n)) := by show C = _; rw [HC.out, hcut]; simp
            have HO2 : Hid (news (Lx.drop n) = olds (Ly.drop n)) := by
              show _ = _
              have e1 := news_cutK hLx hnx (by decide)
              have e2 := olds_cut hLy hny (by omega)
              have := HO.out
              omega
            have hgk : (Lx.drop n).length + (Ly.drop n).length < gk := by
              have e1 : nx ≤ Lx.length := by rw [hLx]; simp
              have := HK.out
              rw [List.length_drop, List.length_drop]
              omega
            have cX := take_at w wr w2.heap.size _ _ n hwx hnx hx1 _ HN.out.1
            have hwy0 := hwy
            clear HC HO HK hcut hLx hLy
            go_wp2_with fail
            refine cX.mono ?_
            rintro e w3 ⟨rfl, ⟨hx', hwx'⟩, hc3⟩
            have hwy3 := hwy0.kept hc3 (by omega) (fun k e => by omega)
            have hP3 := hpen.kept hc3 (fun k e => by omega)
            have cY := take_at w w3 (w2.heap.size + 1) _ _ n hwy3 hny hy1 _ HN.out.1
            clear cX c0 c1 c2 d0 d1 d2 hwx hwy hwy0 hpen hc3
            go_wp2_with fail
            refine cY.mono ?_
            rintro e w4 ⟨rfl, ⟨hy', hwy'⟩, hc4⟩
            have hwx4 := hwx'.kept hc4 (by omega) (fun k e => by omega)
            have hP4 := hP3.kept hc4 (fun k e => by omega)
            clear cY hc4 hP3 hwx' hwy3
            go_wp2_with fail
            refine (join_kd w4 _ _ lp 1 (3 : Int) n _ _ hP4 (by omega) (by omega) rfl rfl).mono ?_
            rintro e w5 ⟨rfl, hP5, hc5⟩
            go_wp2
            go_roundg ((Lx.drop n).length + (Ly.drop n).length)
            case measure => exact hgk
            case rel => exact ⟨hx', hy', _, _, _, hwx4.kept hc5 (by omega) (fun k e => by omega), hwy'.kept hc5 (by omega) (fun k e => by omega), hP5, HC2, HO2, rfl⟩

end Go.Proofs.YtepehgjdepioeaaDoor

/- Walk: text.Compose. -/
namespace Go.Proofs.YtepehgjdepioeaaDoor
open Go.RowKit Go.Lib

set_option maxRecDepth 100000 in
set_option maxHeartbeats 2000000 in
theorem compose_text (ps qs : List Part) (a b : Option Addr) (ca cb : Nat) (w : World) (hopa : OpAt w a ps) (hopb : OpAt w b qs) (hca : ps.length ≤ ca) (hcb : qs.length ≤ cb) (hna : ps.length ≤ 1048576) (hnb : qs.length ≤ 1048576) (hsa : ∀ p ∈ ps, p.text.size ≤ 1048576) (hsb : ∀ p ∈ qs, p.text.size ≤ 1048576) (hT : Tabs w) :
    Calls Tryd.prog 29 #[.slice a ps.length ca, .slice b qs.length cb] w fun e w' => ∃ u, e = .returned (.tuple #[u, .int .i64 (compErr ps qs)]) ∧
      w'.ownsRow w.heap.size 42 3 u (compRes ps qs).length (partCells (compRes ps qs)) ∧ Below w.heap.size w w' := by
  have hs1 : ∀ p ∈ ps, p.text.size < 9223372036854775807 := fun p hp => by have := hsa p hp; omega
  have hs2 : ∀ p ∈ qs, p.text.size < 9223372036854775807 := fun p hp => by have := hsb p hp; omega
  have c1 := checkBoth_any ps qs a b ca cb w hopa hopb hna hnb hsa hsb hT
  by_cases h1 : bothErr ps qs = 0
  · obtain ⟨ha0, hb0⟩ := bothErr_zero h1
    have hoka := opErr_zero ha0
    have hokb := opErr_zero hb0
    rw [h1] at c1
    obtain ⟨_, ea⟩ := lens_from hoka
    obtain ⟨eb, _⟩ := lens_from hokb
    have hma := hoka.to_le
    have hmb := hokb.from_le
    have c2 := fun w1 hb1 => lengths_any ps a ca w1 (hopa.below (w' := w1) hb1) (by omega) hs1
    have c3 := fun w1 hb1 => lengths_any qs b cb w1 (hopb.below (w' := w1) hb1) (by omega) hs2
    rw [ea] at c2
    rw [eb] at c3
    by_cases h2 : toN ps = fromN qs
    · have hE : compErr ps qs = opErr (cO ps qs) := by unfold compErr; rw [if_neg (by omega), if_neg (by rw [ea, eb]; omega)]
      obtain ⟨ul, ut⟩ := cO_small hoka hokb
      have cX := fun w1 hb1 => compose_any ps qs a b ca cb w1 (hopa.below (w' := w1) hb1) (hopb.below hb1) hca hcb hoka hokb h2 hsa hsb
      obtain ⟨U, hU⟩ : ∃ U, U = cO ps qs := ⟨_, rfl⟩
      have HTU : Hid (compRes ps qs = if opErr U ≠ 0 then [] else U) := by show _ = _; unfold compRes; rw [hE, hU]
      rw [hE]
      have eU : group (cf (steps ps) (steps qs)) = U := hU.symm
      rw [eU] at cX
      rw [← hU] at ul ut ⊢
      rw [HTU.out]
      clear HTU hU eU hE ea eb h1 ha0 hb0 hs1 hs2 hoka hokb hsa hsb
      rw [← h2] at c3
      generalize toN ps = N at *
      generalize (lens ps).1 = t1 at c2
      generalize (lens qs).2 = t2 at c3
      clear h2
      have c4 := fun w1 a1 k1 ho1 hT1 => check_any U a1 k1 w1 ho1 (by omega) (fun p hp => by have := ut p hp; omega) hT1
      by_cases h3 : opErr U = 0
      · rw [h3] at c4 ⊢
        have e1 : ∀ X : List Part, (if (0 : Int) ≠ 0 then [] else X) = X := fun X => by simp
        rw [e1]
        clear e1 h3 ut
        go_enter Tryd.func29, Tryd.ntmps29
        go_wp2_with fail
        refine c1.mono ?_
        rintro e w1 ⟨rfl, hb1⟩
        go_wp2_with fail
        refine (c2 w1 hb1).mono ?_
        rintro e w2 ⟨rfl, hb2⟩
        have hb12 := below_two hb1 hb2 (Nat.le_refl _)
        go_wp2_with fail
        refine (c3 w2 hb12).mono ?_
        rintro e w3 ⟨rfl, hb3⟩
        have hb13 := below_two hb12 hb3 (Nat.le_refl _)
        clear c1 c2 c3
        go_wp2_with fail
        refine (cX w3 hb13).mono ?_
        rintro e w4 ⟨u, rfl, hu, hb4⟩
        have hb14 := below_two hb13 hb4 (Nat.le_refl _)
        obtain ⟨ua, uc, rfl, hou⟩ := own_opAt hu
        clear cX
        go_wp2_with fail
        refine (c4 w4 ua uc hou (hT.below hb14)).mono ?_
        rintro e w5 ⟨rfl, hb5⟩
        clear c4
        have hb15 := below_two hb14 hb5 (Nat.le_refl _)
        go_wp2
        go_ret2
        exact ⟨_, rfl, own_base (own_below hu hb5) hb13.size, hb15⟩
      · rw [if_pos h3]
        generalize opErr U = E at *
        have g1 : (E != 0) = true := by simpa using h3
        clear h3 ut
        go_enter Tryd.func29, Tryd.ntmps29
        go_wp2_with fail
        refine c1.mono ?_
        rintro e w1 ⟨rfl, hb1⟩
        go_wp2_with fail
        refine (c2 w1 hb1).mono ?_
        rintro e w2 ⟨rfl, hb2⟩
        have hb12 := below_two hb1 hb2 (Nat.le_refl _)
        go_wp2_with fail
        refine (c3 w2 hb12).mono ?_
        rintro e w3 ⟨rfl, hb3⟩
        have hb13 := below_two hb12 hb3 (Nat.le_refl _)
        clear c1 c2 c3
        go_wp2_with fail
        refine (cX w3 hb13).mono ?_
        rintro e w4 ⟨u, rfl, hu, hb4⟩
        have hb14 := below_two hb13 hb4 (Nat.le_refl _)
        obtain ⟨ua, uc, rfl, hou⟩ := own_opAt hu
        clear cX hu
        go_wp2_with fail
        refine (c4 w4 ua uc hou (hT.below hb14)).mono ?_
        rintro e w5 ⟨rfl, hb5⟩
        clear c4
        have hb15 := below_two hb14 hb5 (Nat.le_refl _)
        go_wp2
        go_ret2
        exact ⟨_, rfl, World.ownsRow_nil _ _ _ _, hb15⟩
    · have hE : compErr ps qs = 10 := by unfold compErr; rw [if_neg (by omega), if_pos (by rw [ea, eb]; omega)]
      have hU : compRes ps qs = [] := by unfold compRes; rw [hE, if_pos (by omega)]
      rw [hE, hU]
      clear hE hU ea eb h1 ha0 hb0 hs1 hs2 hoka hokb hsa hsb
      generalize toN ps = N at *
      generalize fromN qs = M at *
      generalize (lens ps).1 = t1 at c2
      generalize (lens qs).2 = t2 at c3
      have g1 : ((M : Int) != (N : Int)) = true := by simp; omega
      clear h2
      go_enter Tryd.func29, Tryd.ntmps29
      go_wp2_with fail
      refine c1.mono ?_
      rintro e w1 ⟨rfl, hb1⟩
      go_wp2_with fail
      refine (c2 w1 hb1).mono ?_
      rintro e w2 ⟨rfl, hb2⟩
      have hb12 := below_two hb1 hb2 (Nat.le_refl _)
      go_wp2_with fail
      refine (c3 w2 hb12).mono ?_
      rintro e w3 ⟨rfl, hb3⟩
      have hb13 := below_two hb12 hb3 (Nat.le_refl _)
      clear c1 c2 c3
      go_wp2
      go_ret2
      exact ⟨_, rfl, World.ownsRow_nil _ _ _ _, hb13⟩
  · have hE : compErr ps qs = bothErr ps qs := by unfold compErr; rw [if_pos h1]
    have hU : compRes ps qs = [] := by unfold compRes; rw [hE, if_pos h1]
    rw [hE, hU]
    clear hE hU hs1 hs2 hsa hsb
    generalize bothErr ps qs = E at *
    have g1 : (E != 0) = true := by simpa using h1
    clear h1
    go_enter Tryd.func29, Tryd.ntmps29
    go_wp2_with fail
    refine c1.mono ?_
    rintro e w1 ⟨rfl, hb1⟩
    clear c1
    go_wp2
    go_ret2
    exact ⟨_, rfl, World.ownsRow_nil _ _ _ _, hb1⟩

end Go.Proofs.YtepehgjdepioeaaDoor
