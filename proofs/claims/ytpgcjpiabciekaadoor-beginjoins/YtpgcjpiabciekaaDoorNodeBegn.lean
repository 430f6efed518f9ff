/-
  Walk: node.Begin, where it does not refuse.
-/
import Derived.Test.YtpgcjpiabciekaaDoorNodeJoin
namespace Go.Proofs.YtpgcjpiabciekaaDoor
open Go.RowKit Go.Lib

/-- what has begun -/
structure Begun (T : List Int) (me births : Int) (s : ByteArray) (V : TurnV) : Prop where
  bme : V.me = me
  bep : V.ep = births * 4096
  bup : V.up = 0
  bready : V.ready = decide (me = 0)
  btext : V.text = s
  bundo : V.undo = []
  bmarks : V.marks = []
  brecs : V.recs = []
  root : me = 0 → V.sides = (peersL T me).map side0 ∧ V.posts = []
  rest : me ≠ 0 → ∃ q R s' P, peersL T me = q :: R ∧ V.sides = s' :: R.map side0 ∧ V.posts = postsTo q P ∧ SentOk (side1 (side0 q) (births * 4096)) s' (joinF (births * 4096) 0) P
set_option maxRecDepth 100000 in
set_option maxHeartbeats 4000000 in
theorem begin_ok (l : List Int) (a : Option Addr) (c : Nat) (me births : Int) (s : ByteArray) (w : World) (h : Ints w a l) (hs : s.size < 9223372036854775807) (hT : Tabs w) (hE : beginErr l me births s = 0) (hme : 0 ≤ me ∧ me < (l.length : Int)) (hb : 1 ≤ births ∧ births ≤ 250) (hl : l.length ≤ 7) (hse : me ≠ 0 → s = ByteArray.empty) :
    Calls Tryd.prog 30 #[.slice a l.length c, .int .i64 me, .int .i64 births, .string s] w fun r w' => ∃ V sv uv mv pv rv, r = .returned (.tuple #[.agg #[.int .i64 V.me, .int .i64 V.ep, .int .i64 V.up, .bool V.ready, .string V.text, sv, uv, mv, pv, rv], .int .i64 0]) ∧ TurnAt w' w.heap.size V sv uv mv pv rv ∧ Begun l me births s V ∧ Below w.heap.size w w' := by
  have hb0 := (Below.refl w.heap.size w).alloc (Nat.le_refl _) (.cells #[.int .i64 0, .int .i64 0, .int .i64 0, .bool false, .string ⟨#[]⟩, .slice none 0 0, .slice none 0 0, .slice none 0 0, .slice none 0 0, .slice none 0 0] 78)
  have c1 := checkBegin_any l a c me births s (w.alloc (.cells #[.int .i64 0, .int .i64 0, .int .i64 0, .bool false, .string ⟨#[]⟩, .slice none 0 0, .slice none 0 0, .slice none 0 0, .slice none 0 0, .slice none 0 0] 78)) (h.below hb0) hs (hT.below hb0)
  rw [hE] at c1
  have hr := heap_alloc_new w (.cells #[.int .i64 0, .int .i64 0, .int .i64 0, .bool false, .string ⟨#[]⟩, .slice none 0 0, .slice none 0 0, .slice none 0 0, .slice none 0 0, .slice none 0 0] 78)
  have e4 : IntKind.i64.wrap (births * 4096) = births * 4096 := by unfold IntKind.wrap; simp [IntKind.bits]; omega
  clear hE
  go_enter Tryd.func30, Tryd.ntmps30
  go_wp2_with fail
  refine c1.mono ?_
  generalize (w.alloc (.cells #[.int .i64 0, .int .i64 0, .int .i64 0, .bool false, .string ⟨#[]⟩, .slice none 0 0, .slice none 0 0, .slice none 0 0, .slice none 0 0, .slice none 0 0] 78)) = w0 at *
  rintro r w1 ⟨rfl, hb1⟩
  have HB := below_two hb0 hb1 (Nat.le_refl _)
  go_wp2_with fail
  refine (newSides_any l a c me w1 (h.below HB) hme hl).mono ?_
  rintro r w2 ⟨ga, gc, rfl, hS, hb2⟩
  have HB2 := below_two HB hb2 (Nat.le_refl _)
  have hr2 := ((below_two hb1 hb2 (Nat.le_refl _)).block _ (heap_lt hr)).trans hr
  obtain ⟨r0, rl0, rf0⟩ := blk hr2
  by_cases h0 : me = 0
  · subst h0
    obtain ⟨hfin, hch⟩ := puts_all hr2 [.int .i64 0, .int .i64 (births * 4096), .int .i64 0, .bool true, .string s, .slice ga (peersL l 0).length gc, .slice none 0 0, .slice none 0 0, .slice none 0 0, .slice none 0 0] rfl
    simp only [puts, Nat.zero_add, Nat.reduceAdd] at hfin hch
    have hS9 := (((hS.base HB.size).typ (Typ.stored (Ts := [78]) hr2 (by decide) hch) (by decide) (by decide) (by decide) (by decide)).below ((Below.refl _ _).alloc (Nat.le_refl _) (.cells #[.int .i64 0, .int .i64 (births * 4096), .int .i64 0, .bool true, .string s, .slice ga (peersL l 0).length gc, .slice none 0 0, .slice none 0 0, .slice none 0 0, .slice none 0 0] 134)))
    have HB9 := (HB2.trans (hch.below (B := w.heap.size) (fun i e => by omega) HB2.size)).alloc (by have := hch.size; have := HB2.size; omega) (.cells #[.int .i64 0, .int .i64 (births * 4096), .int .i64 0, .bool true, .string s, .slice ga (peersL l 0).length gc, .slice none 0 0, .slice none 0 0, .slice none 0 0, .slice none 0 0] 134)
    have hfin9 := row_old hfin (.cells #[.int .i64 0, .int .i64 (births * 4096), .int .i64 0, .bool true, .string s, .slice ga (peersL l 0).length gc, .slice none 0 0, .slice none 0 0, .slice none 0 0, .slice none 0 0] 134)
    clear hS hch
    go_wp2_with fail
    generalize ((((((((((w2.setCell ⟨w.heap.size, 0, none⟩ (.int .i64 0)).setCell ⟨w.heap.size, 1, none⟩ (.int .i64 (births * 4096))).setCell ⟨w.heap.size, 2, none⟩ (.int .i64 0)).setCell ⟨w.heap.size, 3, none⟩ (.bool true)).setCell ⟨w.heap.size, 4, none⟩ (.string s)).setCell ⟨w.heap.size, 5, none⟩ (.slice ga (peersL l 0).length gc)).setCell ⟨w.heap.size, 6, none⟩ (.slice none 0 0)).setCell ⟨w.heap.size, 7, none⟩ (.slice none 0 0)).setCell ⟨w.heap.size, 8, none⟩ (.slice none 0 0)).setCell ⟨w.heap.size, 9, none⟩ (.slice none 0 0)).alloc (.cells #[.int .i64 0, .int .i64 (births * 4096), .int .i64 0, .bool true, .string s, .slice ga (peersL l 0).length gc, .slice none 0 0, .slice none 0 0, .slice none 0 0, .slice none 0 0] 134) = w9 at *
    obtain ⟨t9, _, _⟩ := blk hfin9
    refine bodyPost_ret (v := .tuple #[.agg #[.int .i64 0, .int .i64 (births * 4096), .int .i64 0, .bool true, .string s, .slice ga (peersL l 0).length gc, .slice none 0 0, .slice none 0 0, .slice none 0 0, .slice none 0 0], .int .i64 0]) (by simp [results, Tryd.results30, go_sem, t9]) rfl ⟨⟨0, births * 4096, 0, true, s, (peersL l 0).map side0, [], [], [], []⟩, _, _, _, _, _, rfl, ⟨hS9, rowM_nil _ _ _, World.ownsRow_nil _ _ _ _, rowM_nil _ _ _, rowM_nil _ _ _⟩, ⟨rfl, rfl, rfl, rfl, rfl, rfl, rfl, rfl, fun _ => ⟨rfl, rfl⟩, fun h => absurd rfl h⟩, HB9⟩
  · have g0 : (me == 0) = false := by simpa using h0
    have hs0 := hse h0
    subst hs0
    obtain ⟨q, R, hpq⟩ : ∃ q R, peersL l me = q :: R := by
      unfold peersL preL
      rw [if_neg h0]
      exact ⟨_, _, rfl⟩
    have HPQ : Hid (peersL l me = q :: R) := hpq
    obtain ⟨n, hn⟩ : ∃ n, n = (peersL l me).length := ⟨_, rfl⟩
    have hn0 : 0 < n := by rw [hn, hpq]; simp
    rw [← hn] at hS
    obtain ⟨g, rfl⟩ : ∃ g, ga = some ⟨g, 0, none⟩ := by
      rcases hS.row.2 with ⟨e, _⟩ | ⟨g, cap, cur, e, _⟩
      · cases e; omega
      · cases e; exact ⟨g, rfl⟩
    have HN : Hid (n = (peersL l me).length) := hn
    clear hpq hn hse
    have hB0 : w.heap.size ≤ w2.heap.size := HB2.size
    have hba := (Below.refl w2.heap.size w2).alloc (Nat.le_refl _) (.cells #[.int .i64 me, .int .i64 (births * 4096), .int .i64 0, .bool false, .string ⟨#[]⟩, .slice (some ⟨g, 0, none⟩) n gc, .slice none 0 0, .slice none 0 0, .slice none 0 0, .slice none 0 0] 134)
    have hp := heap_alloc_new w2 (.cells #[.int .i64 me, .int .i64 (births * 4096), .int .i64 0, .bool false, .string ⟨#[]⟩, .slice (some ⟨g, 0, none⟩) n gc, .slice none 0 0, .slice none 0 0, .slice none 0 0, .slice none 0 0] 134)
    have HB3 := below_two HB2 hba (Nat.le_refl _)
    have hr3 := row_old hr2 (.cells #[.int .i64 me, .int .i64 (births * 4096), .int .i64 0, .bool false, .string ⟨#[]⟩, .slice (some ⟨g, 0, none⟩) n gc, .slice none 0 0, .slice none 0 0, .slice none 0 0, .slice none 0 0] 134)
    have hW3 : WorkAt (w2.alloc (.cells #[.int .i64 me, .int .i64 (births * 4096), .int .i64 0, .bool false, .string ⟨#[]⟩, .slice (some ⟨g, 0, none⟩) n gc, .slice none 0 0, .slice none 0 0, .slice none 0 0, .slice none 0 0] 134)) w.heap.size w2.heap.size ⟨me, births * 4096, 0, false, ByteArray.empty, (peersL l me).map side0, [], [], [], []⟩ (.slice (some ⟨g, 0, none⟩) n gc) (.slice none 0 0) (.slice none 0 0) (.slice none 0 0) (.slice none 0 0) := ⟨hp, hB0, ⟨(hS.below hba).base HB.size, rowM_nil _ _ _, World.ownsRow_nil _ _ _ _, rowM_nil _ _ _, rowM_nil _ _ _⟩⟩
    have cJ := wjoin_any w.heap.size w2.heap.size g n gc _ _ _ _ _ (R.map side0) (side0 q) _ hW3 (by show (peersL l me).map side0 = _; rw [HPQ.out]; rfl) (by show 1 ≤ births * 4096 ∧ births * 4096 ≤ 1048576; omega) (by simp) (fun w' hb' => hT.below (HB3.trans hb'))
    clear r0 rl0 rf0 hp hW3 hr hr2 hS hba
    rw [show (peersL l me).length = n from HN.out.symm]
    go_wp2_with fail
    refine cJ.mono ?_
    generalize (w2.alloc (.cells #[.int .i64 me, .int .i64 (births * 4096), .int .i64 0, .bool false, .string ⟨#[]⟩, .slice (some ⟨g, 0, none⟩) n gc, .slice none 0 0, .slice none 0 0, .slice none 0 0, .slice none 0 0] 134)) = w3 at *
    rintro r w4 ⟨s', P, pv4, rfl, hW4, hso, hB4, ht4⟩
    obtain ⟨pa4, np, pc4, rfl⟩ : ∃ pa4 np pc4, pv4 = .slice pa4 np pc4 := by
      obtain ⟨x, y, e⟩ := own_form hW4.turn.posts.row
      exact ⟨x, _, y, e⟩
    have hr4 := ht4.block _ _ _ (by decide) hr3
    obtain ⟨hfin, hch⟩ := puts_all hr4 [.int .i64 me, .int .i64 (births * 4096), .int .i64 0, .bool false, .string ByteArray.empty, .slice (some ⟨g, 0, none⟩) n gc, .slice none 0 0, .slice none 0 0, .slice pa4 np pc4, .slice none 0 0] rfl
    simp only [puts, Nat.zero_add, Nat.reduceAdd] at hfin hch
    have HB4 := HB3.trans hB4
    have HB9 := HB4.trans (hch.below (B := w.heap.size) (fun i e => by omega) HB4.size)
    have hT9 := hW4.turn.typ (Typ.stored (Ts := [78]) hr4 (by decide) hch) (by unfold Far; decide)
    have hblk4 := hW4.blk
    obtain ⟨k0, kl0, _⟩ := blk hblk4
    obtain ⟨r0, rl0, rf0⟩ := blk hr4
    clear hch hW4 hblk4 cJ hr3
    go_wp2_with fail
    generalize ((((((((((w4.setCell ⟨w.heap.size, 0, none⟩ (.int .i64 me)).setCell ⟨w.heap.size, 1, none⟩ (.int .i64 (births * 4096))).setCell ⟨w.heap.size, 2, none⟩ (.int .i64 0)).setCell ⟨w.heap.size, 3, none⟩ (.bool false)).setCell ⟨w.heap.size, 4, none⟩ (.string ByteArray.empty)).setCell ⟨w.heap.size, 5, none⟩ (.slice (some ⟨g, 0, none⟩) n gc)).setCell ⟨w.heap.size, 6, none⟩ (.slice none 0 0)).setCell ⟨w.heap.size, 7, none⟩ (.slice none 0 0)).setCell ⟨w.heap.size, 8, none⟩ (.slice pa4 np pc4)).setCell ⟨w.heap.size, 9, none⟩ (.slice none 0 0)) = w9 at *
    obtain ⟨t9, _, _⟩ := blk hfin
    refine bodyPost_ret (v := .tuple #[.agg #[.int .i64 me, .int .i64 (births * 4096), .int .i64 0, .bool false, .string ByteArray.empty, .slice (some ⟨g, 0, none⟩) n gc, .slice none 0 0, .slice none 0 0, .slice pa4 np pc4, .slice none 0 0], .int .i64 0]) (by simp [results, Tryd.results30, go_sem, t9]) rfl ⟨⟨me, births * 4096, 0, false, ByteArray.empty, s' :: R.map side0, [], [], [] ++ postsTo q P, []⟩, _, _, _, _, _, rfl, hT9, ⟨rfl, rfl, rfl, (decide_eq_false h0).symm, rfl, rfl, rfl, rfl, fun h => absurd h h0, fun _ => ⟨q, R, s', P, HPQ.out, rfl, rfl, hso⟩⟩, HB9⟩

end Go.Proofs.YtpgcjpiabciekaaDoor
