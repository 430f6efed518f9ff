/-
  Walk: (*wherrykeep.mason).add where an insertion goes ahead of the last deletion.
-/
import Derived.Test.YtodnocplljkjnaaDoorKMasonNew
import Derived.Test.YtodnocplljkjnaaDoorKMasonGrow
import Derived.Test.YtodnocplljkjnaaDoorPureLaws

/- Walk: (*wherrykeep.mason).add where an insertion goes ahead of the last deletion. -/
namespace Go.Proofs.YtodnocplljkjnaaDoor
open Go.RowKit Go.Lib

set_option maxRecDepth 100000 in
set_option maxHeartbeats 4000000 in
theorem add_swap (w : World) (B b : Nat) (ov : Value) (D0 D1 : List Part) (q : Part) (left : Int) (s : ByteArray) (h : MasonAt w B b ov (D0 ++ [q]) left) (hB : B ≤ w.heap.size) (hk : q.kind = 3) (hs : s.size ≠ 0) (hD : D0.length ≤ 1000000) (hD1 : D1.length ≤ 1000000)
    (hin : ∀ (w2 : World) (ov2 : Value), MasonAt w2 B b ov2 D0 left → B ≤ w2.heap.size → Calls Tryd.prog 9 #[.pointer (some ⟨b, 0, none⟩), .agg #[.int .i64 2, .int .i64 0, .string s]] w2 fun e w' => e = .returned (.tuple #[]) ∧ ∃ ov', MasonAt w' B b ov' D1 left ∧ MasonStep w2 w' b ov2 ov') :
    Calls Tryd.prog 9 #[.pointer (some ⟨b, 0, none⟩), .agg #[.int .i64 2, .int .i64 0, .string s]] w fun e w' => e = .returned (.tuple #[]) ∧ ∃ ov', MasonAt w' B b ov' (D1 ++ [q]) left ∧ MasonStep w w' b ov ov' := by
  obtain ⟨i0, hi, hz0, hz1, hz2⟩ := info_parts info_part
  obtain ⟨c0, _⟩ := h.cells
  have f0 := h.frozen 0
  have hbl := (h.lt b (.inl rfl)).2
  obtain ⟨g, cap, rfl, k0, k1, k2, _⟩ := own_lastText h.own
  have hgl := (h.lt g (.inr rfl)).2
  have hcap : D0.length + 1 ≤ cap := by
    rcases h.own.2 with ⟨h1, _⟩ | ⟨g', cap', cur, h1, _, _, h2, _⟩
    · simp at h1
    · simp only [Value.slice.injEq] at h1
      rw [List.length_append, List.length_singleton] at h2
      omega
  have hcapI : (D0.length : Int) ≤ (cap : Int) := by omega
  have t2 : (0 : Int) ≤ (D0.length : Int) := by omega
  have hE := isEmpty_of s hs
  obtain ⟨qk, qn, qt⟩ := q
  simp only at hk k0 k1 k2
  subst hk
  go_enter Tryd.func9, Tryd.ntmps9
  go_wp2_with fail
  go_quiet (fail)
  go_wp2_with fail
  generalize hwx : ((((w.alloc (Obj.cells #[.int .i64 2, .int .i64 0, .string s] 33)).drewN nq).setCell ⟨b, 0, none⟩ (.slice (some ⟨g, 0, none⟩) D0.length cap)).alloc (Obj.cells #[.int .i64 3, .int .i64 qn, .string qt] 33)) = w2
  have hx0 : MasonAt ((w.alloc (Obj.cells #[.int .i64 2, .int .i64 0, .string s] 33)).drewN nq) B b (.slice (some ⟨g, 0, none⟩) (D0.length + 1) cap) (D0 ++ [⟨3, qn, qt⟩]) left := h.kept (F := fun _ => False) (Chg.drewN ((Chg.refl _ w).alloc _) _) (fun _ _ h => h)
  have hx1 : MasonAt (((w.alloc (Obj.cells #[.int .i64 2, .int .i64 0, .string s] 33)).drewN nq).setCell ⟨b, 0, none⟩ (.slice (some ⟨g, 0, none⟩) D0.length cap)) B b (.slice (some ⟨g, 0, none⟩) D0.length cap) D0 left := by
    refine ⟨h.base, ?_, ?_⟩
    · rw [heap_setCell_same _ b 0 _ _ _ hx0.blk]; simp
    · have h1 := hx0.own
      rw [List.length_append, List.length_singleton] at h1
      exact own_set (own_front h1) hx0.blk (by decide) _
  have hm : MasonAt w2 B b (.slice (some ⟨g, 0, none⟩) D0.length cap) D0 left := by rw [← hwx]; exact hx1.kept (F := fun _ => False) ((Chg.refl _ _).alloc _) (fun _ _ h => h)
  have hst : MasonStep w w2 b (.slice (some ⟨g, 0, none⟩) (D0.length + 1) cap) (.slice (some ⟨g, 0, none⟩) D0.length cap) := by
    rw [← hwx]
    exact ⟨((Chg.drewN ((Chg.refl _ w).alloc _) _).setCell (p := ⟨b, 0, none⟩) (.inl rfl) _).alloc _, fun k hk => .inl hk⟩
  have hxs : w2.heap.size = w.heap.size + 2 := by rw [← hwx]; simp
  have hnew : w2.heap[w.heap.size + 1]? = some (Obj.cells #[.int .i64 3, .int .i64 qn, .string qt] 33) := by
    rw [← hwx]
    have := heap_alloc_new (((w.alloc (Obj.cells #[.int .i64 2, .int .i64 0, .string s] 33)).drewN nq).setCell ⟨b, 0, none⟩ (.slice (some ⟨g, 0, none⟩) D0.length cap)) (Obj.cells #[.int .i64 3, .int .i64 qn, .string qt] 33)
    have e : (((w.alloc (Obj.cells #[.int .i64 2, .int .i64 0, .string s] 33)).drewN nq).setCell ⟨b, 0, none⟩ (.slice (some ⟨g, 0, none⟩) D0.length cap)).heap.size = w.heap.size + 1 := by simp
    rw [e] at this
    exact this
  clear hwx hx0 hx1
  refine (hin w2 _ hm (by omega)).mono ?_
  rintro e w3 ⟨rfl, ov3, hm3, hst3⟩
  have hne : ¬ masonF b (.slice (some ⟨g, 0, none⟩) D0.length cap) (w.heap.size + 1) := by
    rintro (h1 | h1)
    · omega
    · simp [Value.ownBlock] at h1
      omega
  have hblk : w3.heap[w.heap.size + 1]? = some (Obj.cells #[.int .i64 3, .int .i64 qn, .string qt] 33) := by
    rw [hst3.chg.block _ (by omega) hne]
    exact hnew
  have hsz3 := hst3.chg.size
  have hst13 := hst.trans hst3
  obtain ⟨p0, p1, p2⟩ := block_cells hblk
  have hbx : b < w3.heap.size := by omega
  have hBx : B ≤ w3.heap.size := by omega
  have hdx : w.heap.size + 1 < w3.heap.size := by omega
  obtain ⟨m0, _⟩ := hm3.cells
  have hf0 := hm3.frozen 0
  obtain ⟨oa, oc, rfl⟩ := own_form hm3.own
  have hown := hm3.own
  clear c0 f0 hm hst hst3 hnew hin k0 k1 k2 h
  go_wp2_with fail
  go_region_law ((refine step_append_lies _ (by rfl) _ _ _ (by rfl) B 33 i0 _ 3 32 Tryd.underlying28 hi hz0 hz1 hz2 rfl (by omega) (.slice oa D1.length oc) D1.length (partCells D1) (by rfl) (own_drew (hown.alloc _)) ⟨w3.heap.size, 0, none⟩ 1 1 [.int .i64 3, .int .i64 qn, .string qt] (by rfl) (by rfl) (World.news_of_block (cs := #[.int .i64 3, .int .i64 qn, .string qt]) (t := 33) (fr := (0, 0)) (heap_alloc_new w3 _)) (by simp [Value.oneCell']) (by omega) (by unfold maxLen; omega) (by omega) (by simp; omega) (w3.heap.size + 1) (by simp) ?_; intro g1 cap1 w1 hown1 hgrow1 hat1 hlt1; have blk1 := row_kept (own_drew (hown.alloc _)) (row_old hm3.blk _) (by decide) hgrow1; have k0 : w1.cell? ⟨b, 0, none⟩ = some (.slice oa D1.length oc) := (by rw [cell_of_row _ _ _ _ _ _ blk1]; rfl); have kf : w1.frozen? ⟨b, 0, none⟩ = false := (by simp [World.frozen?, blk1])))
  all_goals go_wp2
  all_goals go_end0
  all_goals (obtain ⟨q1, q2⟩ := mason_append hm3 ⟨3, qn, qt⟩ (by rw [partCells_one]; exact hown1) hgrow1 hat1; exact ⟨rfl, _, q1, hst13.trans q2⟩)

end Go.Proofs.YtodnocplljkjnaaDoor

/- The mason's add, told by the steps that it has laid: it does as the pen does. -/
namespace Go.Proofs.YtodnocplljkjnaaDoor
open Go.RowKit Go.Lib

theorem append_empty (s : ByteArray) : s ++ ByteArray.empty = s := by simp

/-- the parts of a pen that wrote proper steps: what it holds last -/
structure PenForm (P : PenS) (rs : List Nat) : Prop where
  ins : P.ins = str rs
  few : rs.length ≤ 4000
  size : (str rs).size ≤ 16000
  last : ∀ D p, P.done = D ++ [p] → p.kind = 1 ∧ 0 ≤ p.n ∧ p.n ≤ 4000 ∧ p.text = ByteArray.empty
  done : P.done.length ≤ 4000
  del : P.del ≤ 4000
theorem pen_form {l : List Step} (h : StepsOk l) (hl : l.length ≤ 4000) : ∃ rs, PenForm (penOf l) rs ∧ (∀ r ∈ rs, CP r) := by
  obtain ⟨⟨rs, hg⟩, _⟩ := penOf_good l h hl
  have ok := penOf_ok l
  have hf := hg.few
  have hd := hg.del
  refine ⟨rs, ⟨hg.ins, by omega, ?_, fun D p e => ?_, by have := ok.done; omega, by omega⟩, hg.cp⟩
  · have e1 : (str rs).size = (encs rs).length := by rw [← str_bytes, bytes_len]
    have := encs_le hg.cp
    omega
  · have h1 := hg.last D p e
    have hm : p ∈ (penOf l).done := by rw [e]; simp
    have h2 := (hg.chain.good p hm).count (by omega)
    exact ⟨h1, by omega, h2.2.1, h2.2.2⟩

theorem waitIns_cases (P : PenS) : (P.ins.size = 0 ∧ waitIns P = []) ∨ (P.ins.size ≠ 0 ∧ waitIns P = [⟨2, 0, P.ins⟩]) := by
  unfold waitIns
  by_cases h : P.ins.size = 0
  · exact .inl ⟨h, if_pos h⟩
  · exact .inr ⟨h, if_neg h⟩
theorem waitDel_cases (P : PenS) : (P.del = 0 ∧ waitDel P = []) ∨ (P.del ≠ 0 ∧ waitDel P = [⟨3, (P.del : Int), ByteArray.empty⟩]) := by
  unfold waitDel
  by_cases h : P.del = 0
  · exact .inl ⟨h, if_pos h⟩
  · exact .inr ⟨h, if_neg h⟩

/-- how 'add' is called -/
abbrev AddCalls (w : World) (b : Nat) (k n : Int) (s : ByteArray) (R : World → Prop) : Prop :=
  Calls Tryd.prog 9 #[.pointer (some ⟨b, 0, none⟩), .agg #[.int .i64 k, .int .i64 n, .string s]] w fun e w' => e = .returned (.tuple #[]) ∧ R w'
theorem AddCalls.to {w : World} {B b : Nat} {ov : Value} {D E : List Part} {left k n : Int} {s : ByteArray} (h : AddCalls w b k n s fun w' => ∃ ov', MasonAt w' B b ov' D left ∧ MasonStep w w' b ov ov') (e : D = E) : AddCalls w b k n s fun w' => ∃ ov', MasonAt w' B b ov' E left ∧ MasonStep w w' b ov ov' := e ▸ h
theorem AddCalls.one {w : World} {B b : Nat} {ov : Value} {D : List Part} {left k n : Int} {s : ByteArray} (h : AddCalls w b k n s fun w' => MasonAt w' B b ov D left ∧ MasonStep w w' b ov ov) : AddCalls w b k n s fun w' => ∃ ov', MasonAt w' B b ov' D left ∧ MasonStep w w' b ov ov' :=
  h.mono fun _ _ ⟨h1, h2⟩ => ⟨h1, ov, h2⟩

theorem addK (w : World) (B b : Nat) (ov : Value) (l : List Step) (left : Int) (n : Nat) (h : MasonAt w B b ov (group l) left) (hB : B ≤ w.heap.size) (hok : StepsOk l) (hl : l.length ≤ 4000) (hn : n ≤ 4000) :
    AddCalls w b 1 n ByteArray.empty fun w' => ∃ ov', MasonAt w' B b ov' (group (l ++ List.replicate n (1, 0))) left ∧ MasonStep w w' b ov ov' := by
  by_cases hz : n = 0
  · subst hz
    simp only [List.replicate_zero, List.append_nil]
    exact AddCalls.one (add_bare w B b ov _ left ⟨1, 0, ByteArray.empty⟩ h (.inl ⟨by decide, rfl⟩))
  · have e : group (l ++ List.replicate n (1, 0)) = addKeep (group l) n := by
      unfold group
      rw [penOf_keeps l n (by omega)]
      exact all_keep _
    rw [e]
    have hp : ((⟨1, (n : Int), ByteArray.empty⟩ : Part).kind = 2 ∧ (⟨1, (n : Int), ByteArray.empty⟩ : Part).text.size ≠ 0 ∧ (⟨1, (n : Int), ByteArray.empty⟩ : Part).n = 0) ∨ ((⟨1, (n : Int), ByteArray.empty⟩ : Part).kind = 1 ∧ (⟨1, (n : Int), ByteArray.empty⟩ : Part).n ≠ 0) ∨ ((⟨1, (n : Int), ByteArray.empty⟩ : Part).kind = 3 ∧ (⟨1, (n : Int), ByteArray.empty⟩ : Part).n ≠ 0) := .inr (.inl ⟨rfl, by simp only; omega⟩)
    have hgl := group_len l
    have hall := (penOf_ok l).all.2
    have hch := (group_chain hok hl).good
    rcases List.eq_nil_or_concat (group l) with hD | ⟨D0, q, hD⟩
    · rw [hD] at h ⊢
      exact AddCalls.to (add_first w B b ov left ⟨1, n, ByteArray.empty⟩ h hB hp) (addKeep_nil n).symm
    · rw [List.concat_eq_append] at hD
      have hq : q ∈ group l := by rw [hD]; simp
      have gq := hch q hq
      rw [hD] at h hgl ⊢
      rw [List.length_append, List.length_singleton] at hgl
      by_cases hk : q.kind = 1
      · have hqn := hall q hq hk
        have hqt := (gq.count (by omega)).2.2
        refine AddCalls.to (AddCalls.one (add_grow w B b ov D0 q left ⟨1, n, ByteArray.empty⟩ h hk hp (by omega) (by omega) (by simp only; omega) (by rw [hqt]; simp) (by simp))) ?_
        rw [addKeep_grow _ _ _ hk, hqt, hk]
        simp
      · refine AddCalls.to (add_new w B b ov D0 q left ⟨1, n, ByteArray.empty⟩ h hB hk (fun e => by simp at e) hp (by omega)) ?_
        rw [addKeep_new _ _ _ hk]

theorem addD (w : World) (B b : Nat) (ov : Value) (l : List Step) (left : Int) (n : Nat) (h : MasonAt w B b ov (group l) left) (hB : B ≤ w.heap.size) (hok : StepsOk l) (hl : l.length ≤ 4000) (hn : n ≤ 4000) :
    AddCalls w b 3 n ByteArray.empty fun w' => ∃ ov', MasonAt w' B b ov' (group (l ++ List.replicate n (3, 0))) left ∧ MasonStep w w' b ov ov' := by
  by_cases hz : n = 0
  · subst hz
    simp only [List.replicate_zero, List.append_nil]
    exact AddCalls.one (add_bare w B b ov _ left ⟨3, 0, ByteArray.empty⟩ h (.inl ⟨by decide, rfl⟩))
  · have e : group (l ++ List.replicate n (3, 0)) = (penOf l).done ++ waitIns (penOf l) ++ [⟨3, (((penOf l).del + n : Nat) : Int), ByteArray.empty⟩] := by
      unfold group
      rw [penOf_removes l n]
      unfold PenS.all
      have e1 : waitIns ((penOf l).remove n) = waitIns (penOf l) := rfl
      have e2 : waitDel ((penOf l).remove n) = [⟨3, (((penOf l).del + n : Nat) : Int), ByteArray.empty⟩] := by
        unfold waitDel
        rw [if_neg (by simp only [PenS.remove]; omega)]
        rfl
      rw [e1, e2]
      rfl
    rw [e]
    have hp : ((⟨3, (n : Int), ByteArray.empty⟩ : Part).kind = 2 ∧ (⟨3, (n : Int), ByteArray.empty⟩ : Part).text.size ≠ 0 ∧ (⟨3, (n : Int), ByteArray.empty⟩ : Part).n = 0) ∨ ((⟨3, (n : Int), ByteArray.empty⟩ : Part).kind = 1 ∧ (⟨3, (n : Int), ByteArray.empty⟩ : Part).n ≠ 0) ∨ ((⟨3, (n : Int), ByteArray.empty⟩ : Part).kind = 3 ∧ (⟨3, (n : Int), ByteArray.empty⟩ : Part).n ≠ 0) := .inr (.inr ⟨rfl, by simp only; omega⟩)
    obtain ⟨rs, F, _⟩ := pen_form hok hl
    have hg : group l = (penOf l).done ++ waitIns (penOf l) ++ waitDel (penOf l) := rfl
    rw [hg] at h
    have hdl := F.del
    have hdn := F.done
    have hw1 : (waitIns (penOf l)).length ≤ 1 := by unfold waitIns; split <;> simp
    rcases waitDel_cases (penOf l) with ⟨hd, hw⟩ | ⟨hd, hw⟩
    · rw [hw, List.append_nil] at h
      rw [hd, Nat.zero_add]
      rcases List.eq_nil_or_concat ((penOf l).done ++ waitIns (penOf l)) with hD | ⟨D0, q, hD⟩
      · rw [hD] at h ⊢
        exact add_first w B b ov left ⟨3, n, ByteArray.empty⟩ h hB hp
      · rw [List.concat_eq_append] at hD
        have hk : q.kind ≠ 3 := by
          rcases waitIns_cases (penOf l) with ⟨_, hi⟩ | ⟨_, hi⟩
          · rw [hi, List.append_nil] at hD
            rw [(F.last D0 q hD).1]; decide
          · rw [hi] at hD
            rw [← (append_one_inj hD).2]; simp
        have hlen : D0.length + 1 = ((penOf l).done ++ waitIns (penOf l)).length := by rw [hD]; simp
        rw [List.length_append] at hlen
        rw [hD] at h ⊢
        exact add_new w B b ov D0 q left ⟨3, n, ByteArray.empty⟩ h hB hk (fun e => by simp at e) hp (by omega)
    · rw [hw] at h
      refine AddCalls.to (AddCalls.one (add_grow w B b ov _ ⟨3, ((penOf l).del : Int), ByteArray.empty⟩ left ⟨3, n, ByteArray.empty⟩ h rfl hp (by rw [List.length_append]; omega) (by simp only; omega) (by simp only; omega) (by simp) (by simp))) ?_
      simp

theorem addI (w : World) (B b : Nat) (ov : Value) (l : List Step) (left : Int) (rs : List Nat) (h : MasonAt w B b ov (group l) left) (hB : B ≤ w.heap.size) (hok : StepsOk l) (hl : l.length ≤ 4000) (hrs : (str rs).size ≤ 1000000) :
    AddCalls w b 2 0 (str rs) fun w' => ∃ ov', MasonAt w' B b ov' (group (l ++ insS rs)) left ∧ MasonStep w w' b ov ov' := by
  by_cases hz : (str rs).size = 0
  · have hr : rs = [] := by
      cases rs with
      | nil => rfl
      | cons r rs =>
        exfalso
        have e : str (r :: rs) = str [r] ++ str rs := by rw [← str_append]; rfl
        rw [e, ByteArray.size_append, str_one] at hz
        have h1 : 1 ≤ (Utf8.encode (r : Int)).size := by
          unfold Utf8.encode
          simp only
          repeat' split
          all_goals simp [ByteArray.size]
        omega
    subst hr
    simp only [insS, List.map_nil, List.append_nil]
    exact AddCalls.one (add_bare w B b ov _ left ⟨2, 0, str []⟩ h (.inr ⟨rfl, hz⟩))
  · have e : group (l ++ insS rs) = (penOf l).done ++ [⟨2, 0, (penOf l).ins ++ str rs⟩] ++ waitDel (penOf l) := by
      unfold group
      have e0 : penOf (l ++ insS rs) = (penOf l).insert (str rs) := penOf_inserts l rs
      rw [e0]
      unfold PenS.all
      have e1 : waitIns ((penOf l).insert (str rs)) = [⟨2, 0, (penOf l).ins ++ str rs⟩] := by
        unfold waitIns
        rw [if_neg (by simp only [PenS.insert]; rw [ByteArray.size_append]; omega)]
        rfl
      rw [e1]
      rfl
    rw [e]
    have hp : ((⟨2, 0, str rs⟩ : Part).kind = 2 ∧ (⟨2, 0, str rs⟩ : Part).text.size ≠ 0 ∧ (⟨2, 0, str rs⟩ : Part).n = 0) ∨ ((⟨2, 0, str rs⟩ : Part).kind = 1 ∧ (⟨2, 0, str rs⟩ : Part).n ≠ 0) ∨ ((⟨2, 0, str rs⟩ : Part).kind = 3 ∧ (⟨2, 0, str rs⟩ : Part).n ≠ 0) := .inl ⟨rfl, hz, rfl⟩
    obtain ⟨rs0, F, _⟩ := pen_form hok hl
    have hg : group l = (penOf l).done ++ waitIns (penOf l) ++ waitDel (penOf l) := rfl
    rw [hg] at h
    have hdl := F.del
    have hdn := F.done
    have hw1 : (waitIns (penOf l)).length ≤ 1 := by unfold waitIns; split <;> simp
    have hsz := F.size
    rw [← F.ins] at hsz
    have inner : ∀ (w2 : World) (ov2 : Value), MasonAt w2 B b ov2 ((penOf l).done ++ waitIns (penOf l)) left → B ≤ w2.heap.size → AddCalls w2 b 2 0 (str rs) fun w' => ∃ ov', MasonAt w' B b ov' ((penOf l).done ++ [⟨2, 0, (penOf l).ins ++ str rs⟩]) left ∧ MasonStep w2 w' b ov2 ov' := by
      intro w2 ov2 h2 hB2
      rcases waitIns_cases (penOf l) with ⟨hi0, hi⟩ | ⟨hi0, hi⟩
      · rw [hi, List.append_nil] at h2
        rw [empty_of _ hi0, ByteArray.empty_append]
        rcases List.eq_nil_or_concat (penOf l).done with hD | ⟨D0, q, hD⟩
        · rw [hD] at h2 ⊢
          exact add_first w2 B b ov2 left ⟨2, 0, str rs⟩ h2 hB2 hp
        · rw [List.concat_eq_append] at hD
          have hk := (F.last D0 q hD).1
          have hlen : D0.length + 1 = (penOf l).done.length := by rw [hD]; simp
          rw [hD] at h2 ⊢
          exact add_new w2 B b ov2 D0 q left ⟨2, 0, str rs⟩ h2 hB2 (by rw [hk]; simp) (fun _ => by rw [hk]; decide) hp (by omega)
      · rw [hi] at h2
        refine AddCalls.to (AddCalls.one (add_grow w2 B b ov2 _ ⟨2, 0, (penOf l).ins⟩ left ⟨2, 0, str rs⟩ h2 rfl hp (by omega) (by simp only; omega) (by simp only; omega) (by simp only; omega) (by simp only; omega))) ?_
        simp
    rcases waitDel_cases (penOf l) with ⟨hd, hw⟩ | ⟨hd, hw⟩
    · rw [hw, List.append_nil] at h ⊢
      exact inner w ov h hB
    · rw [hw] at h ⊢
      exact add_swap w B b ov _ _ ⟨3, ((penOf l).del : Int), ByteArray.empty⟩ left (str rs) h hB rfl hz (by rw [List.length_append]; omega) (by simp only [List.length_append, List.length_singleton]; omega) inner

end Go.Proofs.YtodnocplljkjnaaDoor
