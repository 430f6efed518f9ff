/-
  Walk: wherryref.grouped.
-/
import Derived.Test.YtmdehfomogfmlaaDoorRuneMem
import Derived.Test.YtmdehfomogfmlaaDoorPureRef
import Derived.Test.YtmdehfomogfmlaaDoorPenWalk
import Derived.Test.YtmdehfomogfmlaaDoorPenMem
namespace Go.Proofs.YtmdehfomogfmlaaDoor
open Go.RowKit

/-- what 'grouped' holds in memory -/
structure GS (w wr : World) (a : Option Addr) (l : List Step) (D : List Part) (T : List Nat) (ov tv : Value) : Prop where
  own : wr.ownsRow w.heap.size 68 3 ov D.length (partCells D)
  tx : wr.ownsRow w.heap.size 21 1 tv T.length (runeVals T)
  st : StepsAt wr a l
  bel : Below w.heap.size w wr
theorem own_kept {w w' : World} {B e e' size size' : Nat} {v v' : Value} {n n' : Nat} {xs xs' : List Value} (h : w.ownsRow B e size v n xs) (h' : w.ownsRow B e' size' v' n' xs') (hT : e ≠ e') (hg : w.grownBy w' v'.ownBlock) : w'.ownsRow B e size v n xs :=
  own_chg (F := fun k => v'.ownBlock = some k) h ((Chg.refl _ w).grown hg fun _ _ e => e) (own_ne h h' hT)
theorem GS.part {w wr w1 : World} {a : Option Addr} {l : List Step} {D : List Part} {T : List Nat} {ov tv : Value} {o : Obj} {v : Value} (h : GS w wr a l D T ov tv) (p : Part) (hown : w1.ownsRow w.heap.size 68 3 v (D.length + 1) (partCells D ++ [.int .i64 p.kind, .int .i64 p.n, .string p.text])) (hg : (wr.alloc o).grownBy w1 ov.ownBlock) : GS w w1 a l (D ++ [p]) T v tv := by
  have hsz := h.bel.size
  refine ⟨?_, own_kept (h.tx.alloc o) (h.own.alloc o) (by decide) hg, (h.st.below ((Below.refl _ _).alloc (Nat.le_refl _) _)).grown (h.own.alloc _) hg (by decide), (h.bel.alloc hsz _).grown hg (by simp; omega) (fun j e => (h.own.lt j e).1)⟩
  rw [partCells_append, partCells_one, List.length_append]
  exact hown
theorem GS.rune {w wr w1 : World} {a : Option Addr} {l : List Step} {D : List Part} {T : List Nat} {ov tv : Value} {o : Obj} {v : Value} (h : GS w wr a l D T ov tv) (r : Nat) (hown : w1.ownsRow w.heap.size 21 1 v (T.length + 1) (runeVals T ++ [.int .i32 (r : Int)])) (hg : (wr.alloc o).grownBy w1 tv.ownBlock) : GS w w1 a l D (T ++ [r]) ov v := by
  have hsz := h.bel.size
  refine ⟨own_kept (h.own.alloc o) (h.tx.alloc o) (by decide) hg, ?_, (h.st.below ((Below.refl _ _).alloc (Nat.le_refl _) _)).grown (h.tx.alloc _) hg (by decide), (h.bel.alloc hsz _).grown hg (by simp; omega) (fun j e => (h.tx.lt j e).1)⟩
  rw [List.length_append]
  simpa [runeVals] using hown
theorem GS.nil {w wr : World} {a : Option Addr} {l : List Step} {D : List Part} {T : List Nat} {ov tv : Value} (h : GS w wr a l D T ov tv) : GS w wr a l D [] ov (.slice none 0 0) := ⟨h.own, World.ownsRow_nil _ _ _ _, h.st, h.bel⟩
theorem GS.step {w wr : World} {a : Option Addr} {l : List Step} {D : List Part} {T : List Nat} {ov tv : Value} (h : GS w wr a l D T ov tv) {k : Nat} (hk : k < l.length) : ∃ g, a = some ⟨g, 0, none⟩ ∧ wr.cell? ⟨g, k * 2, none⟩ = some (.int .i64 l[k].1) ∧ wr.cell? ⟨g, k * 2 + 1, none⟩ = some (.int .i32 l[k].2) := by
  rcases h.st with rfl | ⟨g, cur, rfl, _, hc⟩
  · simp at hk
  · exact ⟨g, rfl, hc k hk⟩

theorem GS.rune_at {w wr : World} {b : Nat} {l : List Step} {D : List Part} {T : List Nat} {ov tv : Value} (h : GS w wr (some ⟨b, 0, none⟩) l D T ov tv) {k : Nat} (hk : k < l.length) {s : Step} (hs : Hid (l[k] = s)) : wr.cell? ⟨b, k * 2 + 1, none⟩ = some (.int .i32 s.2) := by
  obtain ⟨g, e, _, h1⟩ := h.step hk
  simp only [Option.some.injEq, Addr.mk.injEq, and_true] at e
  subst e
  rw [hs.out] at h1
  exact h1

set_option maxRecDepth 100000 in
set_option maxHeartbeats 4000000 in
theorem grouped_any (l : List Step) (a : Option Addr) (cap : Nat) (w : World) (hst : StepsAt w a l) (hl : l.length ≤ 100000) (hnn : ∀ s ∈ l, 0 ≤ s.2) :
    Calls Tryd.prog 104 #[.slice a l.length cap] w fun e w' => ∃ v, e = .returned v ∧ w'.ownsRow w.heap.size 68 3 v (group l).length (partCells (group l)) ∧ Below w.heap.size w w' := by
  obtain ⟨i0, hi, hz0, hz1, hz2⟩ := info_parts info_part
  obtain ⟨j0, hj, hy0, hy1, hy2⟩ := info_parts info_i32
  go_enter Tryd.func104, Tryd.ntmps104
  go_wp2
  go_loopw [3, 4, 5, 6, 7] (fun ov tv gv kv iv wr => ∃ (k : Nat) (D : List Part) (T : List Nat) (g m : Nat), k ≤ l.length + 1 ∧ iv = .int .i64 k ∧ gv = .int .i64 g ∧ kv = .int .i64 m ∧ GS w wr a l D T ov tv ∧
    Hid (k ≤ l.length → RefRel k (penOf (l.take k)) D T g m) ∧ Hid (k = l.length + 1 → group l = D ++ keepOf m ∧ D.length + m ≤ l.length)) (fun _ _ _ _ iv _ => l.length + 1 - (intOf iv).toNat)
  case atStart => exact ⟨0, [], [], 0, 0, by omega, rfl, rfl, rfl, ⟨World.ownsRow_nil _ _ _ _, World.ownsRow_nil _ _ _ _, hst, Below.refl _ _⟩, fun _ => RefRel.new, fun e => absurd e (by omega)⟩
  case round =>
    obtain ⟨k, D, T, g, m, hk, rfl, rfl, rfl, gs, HREL, HEND⟩ := hrel
    obtain ⟨oa, oc, rfl⟩ := own_form gs.own
    obtain ⟨ta, tc, rfl⟩ := own_form gs.tx
    by_cases hlt : k < l.length
    · have hrel := HREL.out (by omega)
      have hmost := hrel.most
      have HP : Hid (penOf (l.take (k + 1)) = penStep (penOf (l.take k)) l[k]) := by
        show _ = _
        rw [List.take_succ_eq_append_getElem hlt, penOf_append]
        rfl
      have hnk := hnn _ (List.getElem_mem hlt)
      obtain ⟨b, rfl, c0, c1⟩ := gs.step hlt
      obtain ⟨s0, hs0⟩ : ∃ s0, s0 = l[k] := ⟨_, rfl⟩
      have HS0 : Hid (l[k] = s0) := hs0.symm
      rw [← hs0] at HP hnk c0 c1
      clear hs0 HREL HEND
      obtain ⟨kd, r0⟩ := s0
      obtain ⟨r, rfl⟩ : ∃ r : Nat, r0 = r := ⟨r0.toNat, by simp only at hnk; omega⟩
      simp only at c0 c1 HP
      clear hnk
      by_cases h2 : kd = 2
      · subst h2
        have HR2 : Hid (RefRel (k + 1) (penOf (l.take (k + 1))) (D ++ keepOf m) (T ++ [r]) g 0) := by show RefRel _ _ _ _ _ _; rw [HP.out]; exact hrel.insert r
        by_cases hm : m = 0
        · subst hm
          have e0 : D ++ keepOf 0 = D := by simp [keepOf]
          rw [e0] at HR2
          clear hrel e0 HP
          go_wp2_with (at_builtin; refine wpList_append_lies _ rfl _ _ 39 rfl w.heap.size 21 j0 _ 1 4 Tryd.underlying39 hj hy0 hy1 hy2 rfl (by decide) _ _ _ rfl (gs.tx.alloc _) ⟨wr.heap.size, 0, none⟩ 1 1 [.int .i32 (r : Int)] rfl rfl (World.news_of_block (cs := #[.int .i32 (r : Int)]) (t := 21) (fr := (0, 0)) (heap_alloc_new wr _)) (by simp [Value.oneCell']) (by omega) (by unfold maxLen; omega) (by omega) (by have := gs.bel.size; simp; omega) _ rfl ?_; intro g1 cap1 w1 hown1 hgrow1 hat1 hlt1)
          go_roundw
          case rel => exact ⟨k + 1, D, T ++ [r], g, 0, by omega, by go_num, by go_num, by go_num, gs.rune r hown1 hgrow1, fun _ => HR2, fun e => absurd e (by omega)⟩
          case measure => simp [intOf]; omega
        · have gm : decide (0 < m) = true := by simp; omega
          have ek : D ++ keepOf m = D ++ [⟨1, (m : Int), ByteArray.empty⟩] := by simp [keepOf, hm]
          rw [ek] at HR2
          clear hrel ek HP
          go_wp2_with (first | (at_builtin; refine wpList_append_lies _ rfl _ _ 39 rfl w.heap.size 21 j0 _ 1 4 Tryd.underlying39 hj hy0 hy1 hy2 rfl (by decide) _ _ _ rfl (gs1.tx.alloc _) ⟨w1.heap.size, 0, none⟩ 1 1 [.int .i32 (r : Int)] rfl rfl (World.news_of_block (cs := #[.int .i32 (r : Int)]) (t := 21) (fr := (0, 0)) (heap_alloc_new w1 _)) (by simp [Value.oneCell']) (by omega) (by unfold maxLen; omega) (by omega) (by have := gs1.bel.size; simp; omega) _ rfl ?_; intro g2 cap2 w2 hown2 hgrow2 hat2 hlt2) | (at_builtin; refine wpList_append_lies _ rfl _ _ 31 rfl w.heap.size 68 i0 _ 3 32 Tryd.underlying31 hi hz0 hz1 hz2 rfl (by decide) _ _ _ rfl (gs.own.alloc _) ⟨wr.heap.size, 0, none⟩ 1 1 [.int .i64 1, .int .i64 (m : Int), .string .empty] rfl rfl (World.news_of_block (cs := #[.int .i64 1, .int .i64 (m : Int), .string .empty]) (t := 68) (fr := (0, 0)) (heap_alloc_new wr _)) (by simp [Value.oneCell']) (by omega) (by unfold maxLen; omega) (by omega) (by have := gs.bel.size; simp; omega) _ rfl ?_; intro g1 cap1 w1 hown1 hgrow1 hat1 hlt1; have gs1 := gs.part ⟨1, (m : Int), ByteArray.empty⟩ hown1 hgrow1; have c1' := gs1.rune_at hlt HS0))
          go_roundw
          case rel => exact ⟨k + 1, _, T ++ [r], g, 0, by omega, by go_num, by go_num, by go_num, gs1.rune r hown2 hgrow2, fun _ => HR2, fun e => absurd e (by omega)⟩
          case measure => simp [intOf]; omega
      · by_cases h3 : kd = 3
        · subst h3
          have HR2 : Hid (RefRel (k + 1) (penOf (l.take (k + 1))) (D ++ keepOf m) T (g + 1) 0) := by show RefRel _ _ _ _ _ _; rw [HP.out]; exact hrel.delete _
          by_cases hm : m = 0
          · subst hm
            have e0 : D ++ keepOf 0 = D := by simp [keepOf]
            rw [e0] at HR2
            clear hrel e0 HP
            go_wp2
            go_roundw
            case rel => exact ⟨k + 1, D, T, g + 1, 0, by omega, by go_num, by go_num, by go_num, gs, fun _ => HR2, fun e => absurd e (by omega)⟩
            case measure => simp [intOf]; omega
          · have gm : decide (0 < m) = true := by simp; omega
            have ek : D ++ keepOf m = D ++ [⟨1, (m : Int), ByteArray.empty⟩] := by simp [keepOf, hm]
            rw [ek] at HR2
            clear hrel ek HP
            go_wp2_with (at_builtin; refine wpList_append_lies _ rfl _ _ 31 rfl w.heap.size 68 i0 _ 3 32 Tryd.underlying31 hi hz0 hz1 hz2 rfl (by decide) _ _ _ rfl (gs.own.alloc _) ⟨wr.heap.size, 0, none⟩ 1 1 [.int .i64 1, .int .i64 (m : Int), .string .empty] rfl rfl (World.news_of_block (cs := #[.int .i64 1, .int .i64 (m : Int), .string .empty]) (t := 68) (fr := (0, 0)) (heap_alloc_new wr _)) (by simp [Value.oneCell']) (by omega) (by unfold maxLen; omega) (by omega) (by have := gs.bel.size; simp; omega) _ rfl ?_; intro g1 cap1 w1 hown1 hgrow1 hat1 hlt1)
            have gs1 := gs.part ⟨1, (m : Int), ByteArray.empty⟩ hown1 hgrow1
            go_roundw
            case rel => exact ⟨k + 1, _, T, g + 1, 0, by omega, by go_num, by go_num, by go_num, gs1, fun _ => HR2, fun e => absurd e (by omega)⟩
            case measure => simp [intOf]; omega
        · have g2 : (kd == 2) = false := by simpa using h2
          have g3 : (kd == 3) = false := by simpa using h3
          have HR2 : Hid (RefRel (k + 1) (penOf (l.take (k + 1))) (D ++ waitT T ++ waitG g) [] 0 (m + 1)) := by show RefRel _ _ _ _ _ _; rw [HP.out]; exact hrel.keep kd _ h2 h3
          clear hrel HP h2 h3
          by_cases hT : T.length = 0
          · obtain rfl := List.length_eq_zero_iff.1 hT
            by_cases hg : g = 0
            · subst hg
              have e0 : D ++ waitT [] ++ waitG 0 = D := by simp [waitT, waitG]
              rw [e0] at HR2
              clear e0
              go_wp2
              go_roundw
              case rel => exact ⟨k + 1, _, [], 0, m + 1, by omega, by go_num, by go_num, by go_num, gs, fun _ => HR2, fun e => absurd e (by omega)⟩
              case measure => simp [intOf]; omega
            · have gg : decide (0 < g) = true := by simp; omega
              have e0 : D ++ waitT [] ++ waitG g = D ++ [⟨3, (g : Int), ByteArray.empty⟩] := by simp [waitT, waitG, hg]
              rw [e0] at HR2
              clear e0
              go_wp2_with (at_builtin; refine wpList_append_lies _ rfl _ _ 31 rfl w.heap.size 68 i0 _ 3 32 Tryd.underlying31 hi hz0 hz1 hz2 rfl (by decide) _ _ _ rfl (gs.own.alloc _) ⟨wr.heap.size, 0, none⟩ 1 1 [.int .i64 3, .int .i64 (g : Int), .string .empty] rfl rfl (World.news_of_block (cs := #[.int .i64 3, .int .i64 (g : Int), .string .empty]) (t := 68) (fr := (0, 0)) (heap_alloc_new wr _)) (by simp [Value.oneCell']) (by omega) (by unfold maxLen; omega) (by omega) (by have := gs.bel.size; simp; omega) _ rfl ?_; intro g1 cap1 w1 hown1 hgrow1 hat1 hlt1)
              have gs1 := gs.part ⟨3, (g : Int), ByteArray.empty⟩ hown1 hgrow1
              go_roundw
              case rel => exact ⟨k + 1, _, [], 0, m + 1, by omega, by go_num, by go_num, by go_num, gs1, fun _ => HR2, fun e => absurd e (by omega)⟩
              case measure => simp [intOf]; omega
          · have gt : decide (0 < T.length) = true := by simp; omega
            have hcb := conv_back wr _ _ _ gs.tx
            by_cases hg : g = 0
            · subst hg
              have e0 : D ++ waitT T ++ waitG 0 = D ++ [⟨2, 0, str T⟩] := by simp [waitT, waitG, hT]
              rw [e0] at HR2
              clear e0
              go_wp2_with (at_builtin; refine wpList_append_lies _ rfl _ _ 31 rfl w.heap.size 68 i0 _ 3 32 Tryd.underlying31 hi hz0 hz1 hz2 rfl (by decide) _ _ _ rfl (gs.own.alloc _) ⟨wr.heap.size, 0, none⟩ 1 1 [.int .i64 2, .int .i64 0, .string (str T)] rfl rfl (World.news_of_block (cs := #[.int .i64 2, .int .i64 0, .string (str T)]) (t := 68) (fr := (0, 0)) (heap_alloc_new wr _)) (by simp [Value.oneCell']) (by omega) (by unfold maxLen; omega) (by omega) (by have := gs.bel.size; simp; omega) _ rfl ?_; intro g1 cap1 w1 hown1 hgrow1 hat1 hlt1)
              have gs1 := gs.part ⟨2, 0, str T⟩ hown1 hgrow1
              go_roundw
              case rel => exact ⟨k + 1, _, [], 0, m + 1, by omega, by go_num, by go_num, by go_num, gs1.nil, fun _ => HR2, fun e => absurd e (by omega)⟩
              case measure => simp [intOf]; omega
            · have gg : decide (0 < g) = true := by simp; omega
              have e0 : D ++ waitT T ++ waitG g = D ++ [⟨2, 0, str T⟩] ++ [⟨3, (g : Int), ByteArray.empty⟩] := by simp [waitT, waitG, hT, hg]
              rw [e0] at HR2
              clear e0
              go_wp2_with (first | (at_builtin; refine wpList_append_lies _ rfl _ _ 31 rfl w.heap.size 68 i0 _ 3 32 Tryd.underlying31 hi hz0 hz1 hz2 rfl (by decide) _ _ _ rfl (gs1.own.alloc _) ⟨w1.heap.size, 0, none⟩ 1 1 [.int .i64 3, .int .i64 (g : Int), .string .empty] rfl rfl (World.news_of_block (cs := #[.int .i64 3, .int .i64 (g : Int), .string .empty]) (t := 68) (fr := (0, 0)) (heap_alloc_new w1 _)) (by simp [Value.oneCell']) (by omega) (by unfold maxLen; omega) (by omega) (by have := gs1.bel.size; simp; omega) _ rfl ?_; intro g2 cap2 w2 hown2 hgrow2 hat2 hlt2) | (at_builtin; refine wpList_append_lies _ rfl _ _ 31 rfl w.heap.size 68 i0 _ 3 32 Tryd.underlying31 hi hz0 hz1 hz2 rfl (by decide) _ _ _ rfl (gs.own.alloc _) ⟨wr.heap.size, 0, none⟩ 1 1 [.int .i64 2, .int .i64 0, .string (str T)] rfl rfl (World.news_of_block (cs := #[.int .i64 2, .int .i64 0, .string (str T)]) (t := 68) (fr := (0, 0)) (heap_alloc_new wr _)) (by simp [Value.oneCell']) (by omega) (by unfold maxLen; omega) (by omega) (by have := gs.bel.size; simp; omega) _ rfl ?_; intro g1 cap1 w1 hown1 hgrow1 hat1 hlt1; have gs1 := gs.part ⟨2, 0, str T⟩ hown1 hgrow1; have hln : (D ++ [(⟨2, 0, str T⟩ : Part)]).length = D.length + 1 := by simp))
              have gs2 := gs1.part ⟨3, (g : Int), ByteArray.empty⟩ hown2 hgrow2
              rw [hln] at gs2
              go_roundw
              case rel => exact ⟨k + 1, _, [], 0, m + 1, by omega, by go_num, by go_num, by go_num, gs2.nil, fun _ => HR2, fun e => absurd e (by omega)⟩
              case measure => simp [intOf]; omega
    · by_cases hend : k = l.length
      · subst hend
        have hrel := HREL.out (by omega)
        have hmost := hrel.most
        have HR2 : Hid (group l = (D ++ waitT T ++ waitG g) ++ keepOf m) := by show (penOf l).all = _; rw [← hrel.all, List.take_length]
        clear hrel HREL HEND
        by_cases hT : T.length = 0
        · obtain rfl := List.length_eq_zero_iff.1 hT
          by_cases hg : g = 0
          · subst hg
            have e0 : D ++ waitT [] ++ waitG 0 = D := by simp [waitT, waitG]
            rw [e0] at HR2
            clear e0
            go_wp2
            go_roundw
            case rel => exact ⟨l.length + 1, _, [], 0, m, by omega, by go_num, by go_num, by go_num, gs, fun e => absurd e (by omega), fun _ => ⟨HR2.out, by omega⟩⟩
            case measure => simp [intOf]
          · have gg : decide (0 < g) = true := by simp; omega
            have e0 : D ++ waitT [] ++ waitG g = D ++ [⟨3, (g : Int), ByteArray.empty⟩] := by simp [waitT, waitG, hg]
            rw [e0] at HR2
            clear e0
            go_wp2_with (at_builtin; refine wpList_append_lies _ rfl _ _ 31 rfl w.heap.size 68 i0 _ 3 32 Tryd.underlying31 hi hz0 hz1 hz2 rfl (by decide) _ _ _ rfl (gs.own.alloc _) ⟨wr.heap.size, 0, none⟩ 1 1 [.int .i64 3, .int .i64 (g : Int), .string .empty] rfl rfl (World.news_of_block (cs := #[.int .i64 3, .int .i64 (g : Int), .string .empty]) (t := 68) (fr := (0, 0)) (heap_alloc_new wr _)) (by simp [Value.oneCell']) (by omega) (by unfold maxLen; omega) (by omega) (by have := gs.bel.size; simp; omega) _ rfl ?_; intro g1 cap1 w1 hown1 hgrow1 hat1 hlt1)
            have gs1 := gs.part ⟨3, (g : Int), ByteArray.empty⟩ hown1 hgrow1
            go_roundw
            case rel => exact ⟨l.length + 1, _, [], 0, m, by omega, by go_num, by go_num, by go_num, gs1, fun e => absurd e (by omega), fun _ => ⟨HR2.out, by simp only [List.length_append, List.length_singleton]; omega⟩⟩
            case measure => simp [intOf]
        · have gt : decide (0 < T.length) = true := by simp; omega
          have hcb := conv_back wr _ _ _ gs.tx
          by_cases hg : g = 0
          · subst hg
            have e0 : D ++ waitT T ++ waitG 0 = D ++ [⟨2, 0, str T⟩] := by simp [waitT, waitG, hT]
            rw [e0] at HR2
            clear e0
            go_wp2_with (at_builtin; refine wpList_append_lies _ rfl _ _ 31 rfl w.heap.size 68 i0 _ 3 32 Tryd.underlying31 hi hz0 hz1 hz2 rfl (by decide) _ _ _ rfl (gs.own.alloc _) ⟨wr.heap.size, 0, none⟩ 1 1 [.int .i64 2, .int .i64 0, .string (str T)] rfl rfl (World.news_of_block (cs := #[.int .i64 2, .int .i64 0, .string (str T)]) (t := 68) (fr := (0, 0)) (heap_alloc_new wr _)) (by simp [Value.oneCell']) (by omega) (by unfold maxLen; omega) (by omega) (by have := gs.bel.size; simp; omega) _ rfl ?_; intro g1 cap1 w1 hown1 hgrow1 hat1 hlt1)
            have gs1 := gs.part ⟨2, 0, str T⟩ hown1 hgrow1
            go_roundw
            case rel => exact ⟨l.length + 1, _, [], 0, m, by omega, by go_num, by go_num, by go_num, gs1.nil, fun e => absurd e (by omega), fun _ => ⟨HR2.out, by simp only [List.length_append, List.length_singleton]; omega⟩⟩
            case measure => simp [intOf]
          · have gg : decide (0 < g) = true := by simp; omega
            have e0 : D ++ waitT T ++ waitG g = D ++ [⟨2, 0, str T⟩] ++ [⟨3, (g : Int), ByteArray.empty⟩] := by simp [waitT, waitG, hT, hg]
            rw [e0] at HR2
            clear e0
            go_wp2_with (first | (at_builtin; refine wpList_append_lies _ rfl _ _ 31 rfl w.heap.size 68 i0 _ 3 32 Tryd.underlying31 hi hz0 hz1 hz2 rfl (by decide) _ _ _ rfl (gs1.own.alloc _) ⟨w1.heap.size, 0, none⟩ 1 1 [.int .i64 3, .int .i64 (g : Int), .string .empty] rfl rfl (World.news_of_block (cs := #[.int .i64 3, .int .i64 (g : Int), .string .empty]) (t := 68) (fr := (0, 0)) (heap_alloc_new w1 _)) (by simp [Value.oneCell']) (by omega) (by unfold maxLen; omega) (by omega) (by have := gs1.bel.size; simp; omega) _ rfl ?_; intro g2 cap2 w2 hown2 hgrow2 hat2 hlt2) | (at_builtin; refine wpList_append_lies _ rfl _ _ 31 rfl w.heap.size 68 i0 _ 3 32 Tryd.underlying31 hi hz0 hz1 hz2 rfl (by decide) _ _ _ rfl (gs.own.alloc _) ⟨wr.heap.size, 0, none⟩ 1 1 [.int .i64 2, .int .i64 0, .string (str T)] rfl rfl (World.news_of_block (cs := #[.int .i64 2, .int .i64 0, .string (str T)]) (t := 68) (fr := (0, 0)) (heap_alloc_new wr _)) (by simp [Value.oneCell']) (by omega) (by unfold maxLen; omega) (by omega) (by have := gs.bel.size; simp; omega) _ rfl ?_; intro g1 cap1 w1 hown1 hgrow1 hat1 hlt1; have gs1 := gs.part ⟨2, 0, str T⟩ hown1 hgrow1; have hln : (D ++ [(⟨2, 0, str T⟩ : Part)]).length = D.length + 1 := by simp))
            have gs2 := gs1.part ⟨3, (g : Int), ByteArray.empty⟩ hown2 hgrow2
            rw [hln] at gs2
            go_roundw
            case rel => exact ⟨l.length + 1, _, [], 0, m, by omega, by go_num, by go_num, by go_num, gs2.nil, fun e => absurd e (by omega), fun _ => ⟨HR2.out, by simp only [List.length_append, List.length_singleton]; omega⟩⟩
            case measure => simp [intOf]
      · obtain rfl : k = l.length + 1 := by omega
        obtain ⟨hR, hmost⟩ := HEND.out rfl
        have HR2 : Hid (group l = D ++ keepOf m) := hR
        clear hR HREL HEND
        by_cases hm : m = 0
        · subst hm
          go_wp2
          go_ret
          have e0 : D ++ keepOf 0 = D := by simp [keepOf]
          rw [HR2.out, e0]
          exact ⟨_, rfl, gs.own, gs.bel⟩
        · have gm : decide (0 < m) = true := by simp; omega
          go_wp2_with (at_builtin; refine wpList_append_lies _ rfl _ _ 31 rfl w.heap.size 68 i0 _ 3 32 Tryd.underlying31 hi hz0 hz1 hz2 rfl (by decide) _ _ _ rfl (gs.own.alloc _) ⟨wr.heap.size, 0, none⟩ 1 1 [.int .i64 1, .int .i64 (m : Int), .string .empty] rfl rfl (World.news_of_block (cs := #[.int .i64 1, .int .i64 (m : Int), .string .empty]) (t := 68) (fr := (0, 0)) (heap_alloc_new wr _)) (by simp [Value.oneCell']) (by omega) (by unfold maxLen; omega) (by omega) (by have := gs.bel.size; simp; omega) _ rfl ?_; intro g1 cap1 w1 hown1 hgrow1 hat1 hlt1)
          have gs1 := gs.part ⟨1, (m : Int), ByteArray.empty⟩ hown1 hgrow1
          go_ret
          have ek : D ++ keepOf m = D ++ [⟨1, (m : Int), ByteArray.empty⟩] := by simp [keepOf, hm]
          rw [HR2.out, ek]
          exact ⟨_, rfl, gs1.own, gs1.bel⟩

end Go.Proofs.YtmdehfomogfmlaaDoor
