/-
  Operations that take nothing away and follow each other: what a side makes of them. Pure.
-/
import Derived.Test.YtbobeecagcmclaaDoorKEdge
import Derived.Test.YtbobeecagcmclaaDoorEdgeHearAll
namespace Go.Proofs.YtbobeecagcmclaaDoor
open Go.RowKit Go.Lib

theorem kept_newG {X W' : World} {cs : Array Value} {T : TypeId} (hb : Below (X.alloc (.cells cs T)).heap.size (X.alloc (.cells cs T)) W') : W'.heap[X.heap.size]? = some (.cells cs T (0, 0)) := (hb.block _ (by simp)).trans (heap_alloc_new X _)
theorem kept_drewG {X W' : World} {cs : Array Value} {T : TypeId} (hb : Below (X.alloc (.cells cs T)).drew.heap.size (X.alloc (.cells cs T)).drew W') : W'.heap[X.heap.size]? = some (.cells cs T (0, 0)) := (hb.block X.heap.size (show X.heap.size < (X.alloc (.cells cs T)).heap.size by simp)).trans (heap_alloc_new X _)
theorem kept_moreG {W W' : World} {b : Nat} {o : Obj} (h : W.heap[b]? = some o) (hb : Below W.heap.size W W') : W'.heap[b]? = some o := (hb.block _ (Array.getElem?_eq_some_iff.1 h).1).trans h
theorem new_factsG {w : World} {b : Nat} {x y z : Value} (h : w.heap[b]? = some (.cells #[x, y, z] 26 (0, 0))) : (w.cell? ⟨b, 0, none⟩ = some x ∧ w.cell? ⟨b, 1, none⟩ = some y ∧ w.cell? ⟨b, 2, none⟩ = some z) ∧ w.frozen? ⟨b, 0, none⟩ = false ∧ w.frozen? ⟨b, 1, none⟩ = false ∧ w.frozen? ⟨b, 2, none⟩ = false :=
  ⟨edge_cells h, by simp [World.frozen?, h], by simp [World.frozen?, h], by simp [World.frozen?, h]⟩
def noDel (S : List Step) : Prop := ∀ s ∈ S, s.1 ≠ 3
theorem noDel.tail {s : Step} {l : List Step} (h : noDel (s :: l)) : noDel l := fun x hx => h x (List.mem_cons_of_mem _ hx)
theorem noDel.head {s : Step} {l : List Step} (h : noDel (s :: l)) : s.1 ≠ 3 := h s List.mem_cons_self
theorem noDel.cons {s : Step} {l : List Step} (h : s.1 ≠ 3) (k : noDel l) : noDel (s :: l) := fun x hx => by
  rcases List.mem_cons.1 hx with rfl | hx
  · exact h
  · exact k x hx
theorem noDel.nil : noDel [] := fun s h => by cases h
theorem noDel.len : ∀ {S : List Step}, noDel S → S.length = newN S
  | [], _ => rfl
  | s :: l, h => by
    have := noDel.len h.tail
    show l.length + 1 = (if s.1 = 3 then 0 else 1) + newN l
    rw [if_neg h.head]; omega
theorem noDel.le : ∀ {S : List Step}, noDel S → oldN S ≤ newN S
  | [], _ => Nat.le_refl _
  | s :: l, h => by
    have := noDel.le h.tail
    show (if s.1 = 2 then 0 else 1) + oldN l ≤ (if s.1 = 3 then 0 else 1) + newN l
    rw [if_neg h.head]; split <;> omega
theorem xf_grow (p q : List Step) (hp : StepsOk p) (hq : StepsOk q) (dp : noDel p) (dq : noDel q) (h : oldN p = oldN q) : (noDel (xf p q).1 ∧ noDel (xf p q).2) ∧ newN (xf p q).2 + oldN q = newN p + newN q := by
  fun_induction xf p q with
  | case1 => exact ⟨⟨.nil, .nil⟩, rfl⟩
  | case2 x p hx ih =>
    have := ih hp.tail hq dp.tail dq (by simpa [oldN, hx] using h)
    refine ⟨⟨.cons dp.head this.1.1, .cons (by decide) this.1.2⟩, ?_⟩
    have h2 := this.2
    simp only [newN, oldN, hx] at h2 ⊢
    simp
    omega
  | case3 x p hx => simp only [oldN, if_neg hx] at h; omega
  | case4 y q hy ih =>
    have := ih hp hq.tail dp dq.tail (by simpa [oldN, hy] using h)
    refine ⟨⟨.cons (by decide) this.1.1, .cons dq.head this.1.2⟩, ?_⟩
    have h2 := this.2
    simp only [newN, oldN, hy] at h2 ⊢
    simp
    omega
  | case5 y q hy => simp only [oldN, if_neg hy] at h; omega
  | case6 x p y q hx ih =>
    have := ih hp.tail hq dp.tail dq (by simpa [oldN, hx] using h)
    refine ⟨⟨.cons dp.head this.1.1, .cons (by decide) this.1.2⟩, ?_⟩
    have h2 := this.2
    generalize newN (y :: q) = Y at *
    generalize oldN (y :: q) = Z at *
    simp only [newN, hx] at h2 ⊢
    simp
    omega
  | case7 x p y q hx hy ih =>
    have := ih hp hq.tail dp dq.tail (by simpa [oldN, hy] using h)
    refine ⟨⟨.cons (by decide) this.1.1, .cons dq.head this.1.2⟩, ?_⟩
    have h2 := this.2
    generalize newN (x :: p) = X at *
    simp only [newN, oldN, hy] at h2 ⊢
    simp
    omega
  | case8 x p y q hx hy ih =>
    have hold : oldN p = oldN q := by simp only [oldN, if_neg hx, if_neg hy] at h; omega
    have := ih hp.tail hq.tail dp.tail dq.tail hold
    have dx := dp.head
    have dy := dq.head
    rcases hp.head with rfl | rfl | ⟨_, _, rfl⟩
    · rcases hq.head with rfl | rfl | ⟨_, _, rfl⟩
      · refine ⟨⟨.cons (by decide) this.1.1, .cons (by decide) this.1.2⟩, ?_⟩
        have h2 := this.2
        simp [oldN, newN]; omega
      · exact absurd rfl dy
      · simp at hy
    · exact absurd rfl dx
    · simp at hx

/-- an operation of this many signs that makes this many, and takes nothing away -/
structure Gr (q : List Part) (n m : Nat) : Prop where
  grp : group (steps q) = q
  ok : StepsOk (steps q)
  nd : noDel (steps q)
  old : oldN (steps q) = n
  new : newN (steps q) = m
theorem Gr.len {q : List Part} {n m : Nat} (h : Gr q n m) : (steps q).length = m := h.nd.len.trans h.new
theorem Gr.le {q : List Part} {n m : Nat} (h : Gr q n m) : n ≤ m := by have := h.nd.le; rw [h.old, h.new] at this; exact this
theorem Gr.err {q : List Part} {n m : Nat} (h : Gr q n m) (hm : m ≤ 4000) : opErr q = 0 := by rw [← h.grp]; exact (group_ok h.ok (by rw [h.len]; exact hm)).err
theorem Gr.lens {q : List Part} {n m : Nat} (h : Gr q n m) (hm : m ≤ 4000) : lens q = ((n : Int), (m : Int)) := by
  have := group_lens h.ok (by rw [h.len]; exact hm)
  rw [h.grp, h.old, h.new] at this
  exact this
theorem Gr.small {q : List Part} {n m : Nat} (h : Gr q n m) (hm : m ≤ 4000) : OpSmall q := by rw [← h.grp]; exact group_small h.ok (by rw [h.len]; exact hm)
theorem gr_group {S : List Step} (h : StepsOk S) (d : noDel S) (hl : S.length ≤ 4000) : Gr (group S) (oldN S) (newN S) := by
  have s := group_sim h hl
  exact ⟨s.group, group_stepsOk h hl, fun x hx => d x ((s.mem x).1 hx), s.olds, s.news⟩
theorem trans_gr {q t : List Part} {n m r : Nat} (hq : Gr q n m) (ht : Gr t n r) (hl : m + r ≤ 4000) : transErr q t = 0 ∧ Gr (transU q t) r (m + r - n) ∧ Gr (transV q t) m (m + r - n) := by
  obtain ⟨⟨g1, g2⟩, g3⟩ := xf_grow (steps q) (steps t) hq.ok ht.ok hq.nd ht.nd (hq.old.trans ht.old.symm)
  obtain ⟨c1, c2, c3⟩ := xf_counts (steps q) (steps t) hq.ok ht.ok (hq.old.trans ht.old.symm)
  obtain ⟨k1, k2⟩ := xf_ok (steps q) (steps t) hq.ok ht.ok
  rw [ht.old, hq.new, ht.new] at g3
  rw [ht.new] at c1
  rw [hq.new] at c2
  have hn := hq.le
  have l1 : (xf (steps q) (steps t)).1.length ≤ 4000 := by rw [g1.len]; omega
  have l2 : (xf (steps q) (steps t)).2.length ≤ 4000 := by rw [g2.len]; omega
  have u := gr_group k1 g1 l1
  have v := gr_group k2 g2 l2
  rw [c1, c3, show newN (xf (steps q) (steps t)).2 = m + r - n by omega] at u
  rw [c2, show newN (xf (steps q) (steps t)).2 = m + r - n by omega] at v
  have hE : transErr q t = 0 := by
    unfold transErr bothErr xU xV
    rw [hq.err (by omega), ht.err (by omega), hq.lens (by omega), ht.lens (by omega), (group_ok k1 l1).err, (group_ok k2 l2).err]
    simp
  refine ⟨hE, ?_, ?_⟩
  · unfold transU; rw [hE]; exact u
  · unfold transV; rw [hE]; exact v
theorem pass_gr (up : Bool) {q t : List Part} {n m r : Nat} (hq : Gr q n m) (ht : Gr t n r) (hl : m + r ≤ 4000) : passE up q t = 0 ∧ Gr (passM up q t) r (m + r - n) ∧ Gr (passT up q t) m (m + r - n) := by
  unfold passE passM passT
  cases up with
  | true => simp only [if_true]; exact trans_gr hq ht hl
  | false =>
    simp only [Bool.false_eq_true, if_false]
    obtain ⟨h1, h2, h3⟩ := trans_gr ht hq (by omega)
    rw [show r + m - n = m + r - n by omega] at h2 h3
    exact ⟨h1, h3, h2⟩
theorem oldN_ones : ∀ n, oldN (List.replicate n ((1 : Int), (0 : Int))) = n ∧ newN (List.replicate n ((1 : Int), (0 : Int))) = n
  | 0 => ⟨rfl, rfl⟩
  | n + 1 => by
    obtain ⟨h1, h2⟩ := oldN_ones n
    rw [List.replicate_succ]
    simp only [oldN, newN, h1, h2]
    simp
    omega
theorem newN_add (a b : List Step) : newN (a ++ b) = newN a + newN b := by
  induction a with
  | nil => simp [newN]
  | cons x a ih => rw [List.cons_append]; simp only [newN, ih]; omega
/-- one sign that is put in -/
theorem here_facts (n k c m : Nat) (hm : n = m) (hk : k ≤ n) (hn : n ≤ 29) : oldN (List.replicate k ((1 : Int), (0 : Int)) ++ insS [c] ++ List.replicate (n - k) ((1 : Int), (0 : Int))) = m ∧ newN (List.replicate k ((1 : Int), (0 : Int)) ++ insS [c] ++ List.replicate (n - k) ((1 : Int), (0 : Int))) = m + 1 ∧ noDel (List.replicate k ((1 : Int), (0 : Int)) ++ insS [c] ++ List.replicate (n - k) ((1 : Int), (0 : Int))) ∧ (List.replicate k ((1 : Int), (0 : Int)) ++ insS [c] ++ List.replicate (n - k) ((1 : Int), (0 : Int))).length ≤ 30 := by
  subst hm
  have e1 : oldN (insS [c]) = 0 := rfl
  have e2 : newN (insS [c]) = 1 := rfl
  rw [oldN_append, oldN_append, newN_add, newN_add, (oldN_ones k).1, (oldN_ones k).2, (oldN_ones (n - k)).1, (oldN_ones (n - k)).2, e1, e2]
  refine ⟨by omega, by omega, fun s hs => ?_, ?_⟩
  · rcases List.mem_append.1 hs with hs | hs
    · rcases List.mem_append.1 hs with hs | hs
      · rw [(List.mem_replicate.1 hs).2]; decide
      · simp only [insS, List.map_cons, List.map_nil, List.mem_singleton] at hs
        rw [hs]; show (2 : Int) ≠ 3; decide
    · rw [(List.mem_replicate.1 hs).2]; decide
  · simp only [List.length_append, List.length_replicate, insS, List.length_map, List.length_cons, List.length_nil]; omega
/-- one behind the other -/
def ChainG : List (List Part) → Nat → Nat → Prop
  | [], n, m => n = m
  | q :: R, n, m => ∃ k, Gr q n k ∧ ChainG R k m
theorem ChainG.le : ∀ {R : List (List Part)} {n m : Nat}, ChainG R n m → n ≤ m
  | [], _, _, h => Nat.le_of_eq h
  | _ :: _, _, _, ⟨_, h1, h2⟩ => Nat.le_trans h1.le (ChainG.le h2)
theorem ChainG.app : ∀ {R : List (List Part)} {n m k : Nat} {q : List Part}, ChainG R n m → Gr q m k → ChainG (R ++ [q]) n k
  | [], _, _, _, _, h, hq => by cases h; exact ⟨_, hq, rfl⟩
  | _ :: _, _, _, _, _, ⟨j, h1, h2⟩, hq => ⟨j, h1, ChainG.app h2 hq⟩
theorem ChainG.small : ∀ {R : List (List Part)} {n m : Nat}, ChainG R n m → m ≤ 4000 → ∀ q ∈ R, OpSmall q
  | [], _, _, _, _ => fun q h => by cases h
  | _ :: _, _, _, ⟨k, h1, h2⟩, hm => fun q hq => by
    rcases List.mem_cons.1 hq with rfl | hq
    · exact h1.small (Nat.le_trans h2.le hm)
    · exact ChainG.small h2 hm q hq
theorem ChainG.last : ∀ {R : List (List Part)} {n m : Nat}, ChainG R n m → m ≤ 4000 → ∀ q, R.getLast? = some q → (lens q).2 = (m : Int)
  | [], _, _, _, _, q, h => by cases h
  | [p], _, _, ⟨k, h1, h2⟩, hm, q, h => by
    cases h
    cases h2
    show (lens p).2 = _
    rw [h1.lens hm]
  | p :: p2 :: R, _, _, ⟨k, _, h2⟩, hm, q, h => ChainG.last (R := p2 :: R) h2 hm q (by rw [List.getLast?_cons_cons] at h; exact h)
theorem fits_gr {E : List (List Part)} {q : List Part} {m k : Nat} (h : ∀ p, E.getLast? = some p → (lens p).2 = (m : Int)) (hq : Gr q m k) (hk : k ≤ 4000) : fitsB E q = true := by
  unfold fitsB
  cases he : E.getLast? with
  | none => rfl
  | some p => exact decide_eq_true (by rw [hq.lens hk, h p he])
theorem pend_gr : ∀ (R P : List (List Part)) (n m : Nat), ChainG R n m → m ≤ 4000 → (∀ p, P.getLast? = some p → (lens p).2 = (n : Int)) → pendOkB P R = true
  | [], _, _, _, _, _, _ => rfl
  | q :: R, P, n, m, ⟨k, h1, h2⟩, hm, hP => by
    have hk : k ≤ 4000 := Nat.le_trans h2.le hm
    show (decide (opErr q = 0) && fitsB P q && pendOkB (P ++ [q]) R) = true
    rw [decide_eq_true (h1.err hk), fits_gr hP h1 hk, pend_gr R (P ++ [q]) k m h2 hm (fun p hp => by
      rw [List.getLast?_concat] at hp
      cases hp
      rw [h1.lens hk])]
    rfl
theorem edge_gr {E : List (List Part)} {n m : Nat} (h : ChainG E n m) (hm : m ≤ 4000) (hE : E.length ≤ 1048576) (heard : Int) (hh : 0 ≤ heard ∧ heard ≤ 1048576) : edgeErr (E.length : Int) heard E = 0 := by
  unfold edgeErr edgeOkB
  rw [pend_gr E [] n m h hm (fun p hp => by cases hp), decide_eq_true (by omega), decide_eq_true hh, decide_eq_true (by omega)]
  rfl
theorem send_gr {E : List (List Part)} {q : List Part} {n m k : Nat} (h : ChainG E n m) (hq : Gr q m k) (hk : k ≤ 4000) (hE : E.length < 1048576) : sendErr (E.length : Int) 0 E q = 0 := by
  have hm : m ≤ 4000 := Nat.le_trans hq.le hk
  unfold sendErr edgeBoth
  rw [edge_gr h hm (by omega) 0 (by decide), hq.err hk, fits_gr (h.last hm) hq hk]
  simp
  omega
/-- what is heard behind such a chain -/
theorem run_gr (up : Bool) : ∀ (R : List (List Part)) (t : List Part) (n m r : Nat), ChainG R n m → Gr t n r → m + r ≤ 2000 + n → n ≤ 1000 → m ≤ 1000 → (hearRun up R t).1 = 0 ∧ (hearRun up R t).2.1.length = R.length ∧ Gr (hearRun up R t).2.2 m (m + r - n)
  | [], t, n, m, r, h, ht, _, _, _ => by
    cases h
    refine ⟨rfl, rfl, ?_⟩
    rw [show n + r - n = r by omega]
    exact ht
  | q :: R, t, n, m, r, ⟨k, h1, h2⟩, ht, hb, hn, hm => by
    have hkm := h2.le
    have hnk := h1.le
    have hnr := ht.le
    obtain ⟨e0, _, g2⟩ := pass_gr up h1 ht (by omega)
    obtain ⟨i1, i2, i3⟩ := run_gr up R (passT up q t) k m (k + r - n) h2 g2 (by omega) (by omega) hm
    have hrun : hearRun up (q :: R) t = ((hearRun up R (passT up q t)).1, passM up q t :: (hearRun up R (passT up q t)).2.1, (hearRun up R (passT up q t)).2.2) := by
      show (if passE up q t ≠ 0 then _ else _) = _
      rw [if_neg (fun h => h e0)]
    rw [hrun]
    refine ⟨i1, by simp [i2], ?_⟩
    rw [show m + r - n = m + (k + r - n) - k by omega]
    exact i3
theorem ChainG.drop : ∀ (j : Nat) {R : List (List Part)} {n m : Nat} (f : Nat → Nat), ChainG R n m → (∀ i (h : i < R.length), Gr R[i] (f i) (f (i + 1))) → n = f 0 → j ≤ R.length → ChainG (R.drop j) (f j) m
  | 0, R, n, m, f, h, _, h0, _ => by rw [List.drop_zero, ← h0]; exact h
  | j + 1, [], n, m, f, _, _, _, hj => absurd hj (Nat.not_succ_le_zero j)
  | j + 1, q :: R, n, m, f, ⟨k, h1, h2⟩, hf, h0, hj => by
    have e := (hf 0 (by simp)).new
    have e2 : k = f 1 := by rw [← h1.new, ← e]; rfl
    exact ChainG.drop j (fun i => f (i + 1)) h2 (fun i hi => hf (i + 1) (by simp; omega)) e2 (by simpa using hj)
theorem hear_gr {E : List (List Part)} {q : List Part} {n m k l : Nat} (h : ChainG E n m) (hm : m ≤ 4000) (hE : E.length ≤ 1048576) (hq : Gr q k l) (hl : l ≤ 4000) (hd : Nat) (hh : hd ≤ E.length) : hearErr (E.length : Int) 0 E q (hd : Int) = 0 := by
  unfold hearErr edgeBoth
  rw [edge_gr h hm hE 0 (by decide), hq.err hl]
  simp
  omega

end Go.Proofs.YtbobeecagcmclaaDoor
