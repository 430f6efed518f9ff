/-
  Walks: the methods post, open, send, join of a node's work.
-/
import Derived.Test.YtpgcjpiabciekaaDoorNodeNew
import Derived.Test.YtpgcjpiabciekaaDoorLinkHear
namespace Go.Proofs.YtpgcjpiabciekaaDoor
open Go.RowKit Go.Lib

/-- what a turn's methods may change -/
def workTs : List TypeId := [134, 140, 93, 181, 84]
def postsTo (tt : Int) (P : List PkK) : List PoK := P.map fun x => (tt, x)
theorem TurnAt.posted {w : World} {B : Nat} {V : TurnV} {sv uv mv pv rv pv' : Value} {ps : List PoK} (h : TurnAt w B V sv uv mv pv rv) (hp : RowM poS w B pv' ps) : TurnAt w B { V with posts := ps } sv uv mv pv' rv := ⟨h.sides, h.undo, h.marks, hp, h.recs⟩

set_option maxRecDepth 100000 in
set_option maxHeartbeats 2000000 in
theorem post_any (B p : Nat) (V : TurnV) (sv uv mv pv rv : Value) (tt : Int) (a : Option Addr) (c : Nat) (P : List PkK) (w : World) (hw : WorkAt w B p V sv uv mv pv rv) (hP : InT pkS w B (.slice a P.length c) P) (hl : P.length ≤ 1048576) (hv : V.posts.length ≤ 1048576) :
    Calls Tryd.prog 87 #[.pointer (some ⟨p, 0, none⟩), .int .i64 tt, .slice a P.length c] w fun r w' => r = .returned (.tuple #[]) ∧ ∃ pv', WorkAt w' B p { V with posts := V.posts ++ postsTo tt P } sv uv mv pv' rv ∧ Below B w w' ∧ Typ [134, 93] w w' := by
  obtain ⟨i0, hi0, hz0, hz1, hz2⟩ := info_parts info_po
  go_enter Tryd.func87, Tryd.ntmps87
  go_wp2_with fail
  have HP0 : Hid (V.posts ++ postsTo tt (P.take 0) = V.posts) := by show _ = _; simp [postsTo]
  go_loopg [10] P.length (fun g iv wr => ∃ (i : Nat) (px : Value), i + g = P.length ∧ iv = .int .i64 (i : Int) ∧ WorkAt wr B p { V with posts := V.posts ++ postsTo tt (P.take i) } sv uv mv px rv ∧ Below B w wr ∧ Typ [134, 93] w wr)
  case atStart => exact ⟨0, pv, by omega, rfl, by rw [HP0.out]; exact hw, Below.refl _ _, Typ.refl _ _⟩
  case round =>
    obtain ⟨i, px, hi, rfl, hW, hB, ht⟩ := hrel
    by_cases hlt : i < P.length
    · have hiz : (i : Int) < (P.length : Int) := by omega
      have hIz : (0 : Int) ≤ (i : Int) := by omega
      have hPi := hP.typ ht (by decide) (by decide)
      obtain ⟨b, off, c2, ec, hb, _, hcell⟩ := pk_get hPi.inK hlt
      cases ec
      have hop := hPi.each P[i] (List.getElem_mem hlt)
      have htk : Hid (P.take (i + 1) = P.take i ++ [P[i]]) := List.take_succ_eq_append_getElem hlt
      have hlen : (V.posts ++ postsTo tt (P.take i)).length ≤ 2097152 := by simp [postsTo]; omega
      have HN : Hid (V.posts ++ postsTo tt (P.take (i + 1)) = V.posts ++ postsTo tt (P.take i) ++ [(tt, P[i])]) := by show _ = _; unfold postsTo; rw [htk.out, List.map_append, ← List.append_assoc]; rfl
      generalize V.posts ++ postsTo tt (P.take i) = L at *
      have hrow := hW.turn.posts.row
      obtain ⟨pa, pc, rfl⟩ := own_form hrow
      generalize P[i] = q at *
      obtain ⟨⟨e1, e2, e3, e4, ⟨f1, f2, f3, fo, ft⟩⟩, ov⟩ := q
      have hop0 := hop
      obtain ⟨oa, oc, eo, _⟩ := hop
      simp only [pkS] at eo
      subst eo
      simp only [pkS] at hop0
      have k0 : wr.cell? ⟨b, off + i * 9, none⟩ = some (.int .i64 e1) := hcell 0 _ (by omega) rfl
      have k1 := hcell 1 _ (by omega) rfl
      have k2 := hcell 2 _ (by omega) rfl
      have k3 := hcell 3 _ (by omega) rfl
      have k4 := hcell 4 _ (by omega) rfl
      have k5 := hcell 5 _ (by omega) rfl
      have k6 := hcell 6 _ (by omega) rfl
      have k7 := hcell 7 _ (by omega) rfl
      have k8 := hcell 8 _ (by omega) rfl
      simp only at k1 k2 k3 k4 k5 k6 k7 k8
      have hblk := hW.blk
      clear hcell hPi
      go_wp2_with fail
      have hpk := heap_alloc_new wr (.cells #[.int .i64 e1, .int .i64 e2, .bool e3, .int .i64 e4, .int .i64 f1, .int .i64 f2, .int .i64 f3, .slice oa fo.length oc, .string ft] 65)
      have hbw := (Below.refl wr.heap.size wr).alloc (Nat.le_refl _) (.cells #[.int .i64 e1, .int .i64 e2, .bool e3, .int .i64 e4, .int .i64 f1, .int .i64 f2, .int .i64 f3, .slice oa fo.length oc, .string ft] 65)
      have hW2 := hW.below hbw
      generalize hwy : wr.alloc (.cells #[.int .i64 e1, .int .i64 e2, .bool e3, .int .i64 e4, .int .i64 f1, .int .i64 f2, .int .i64 f3, .slice oa fo.length oc, .string ft] 65) = wy at *
      have hblk2 := hW2.blk
      have hrow2 := own_drew hW2.turn.posts.row
      obtain ⟨b0, bl0, bf0⟩ := blk hblk2
      obtain ⟨q0, ql0, _⟩ := blk hpk
      have hdd : wy.drew.heap[p]? = wy.heap[p]? := rfl
      have hBr : B ≤ wr.heap.size := by have := hW.hB; have := heap_lt hW.blk; omega
      have hBw : B ≤ wy.heap.size := by have := hW2.hB; omega
      simp only at hrow2
      go_region_law (first | (refine step_append_lies _ (by rfl) _ _ _ (by rfl) B 93 i0 _ 10 104 Tryd.underlying75 hi0 hz0 hz1 hz2 rfl (by omega) (.slice pa L.length pc) L.length (poS.all L) (by rfl) (hrow2.alloc _) ⟨wy.drew.heap.size, 0, none⟩ 1 1 (.int .i64 tt :: [.int .i64 e1, .int .i64 e2, .bool e3, .int .i64 e4, .int .i64 f1, .int .i64 f2, .int .i64 f3, .slice oa fo.length oc, .string ft]) (by rfl) (by rfl) (World.news_of_block (cs := #[.int .i64 tt, .int .i64 e1, .int .i64 e2, .bool e3, .int .i64 e4, .int .i64 f1, .int .i64 f2, .int .i64 f3, .slice oa fo.length oc, .string ft]) (t := 93) (fr := (0, 0)) (heap_alloc_new wy.drew _)) (by simp [Value.oneCell']) (by omega) (by unfold maxLen; omega) (by omega) (by simp; omega) (wy.drew.heap.size + 1) (by simp) ?_; intro g1 cap1 w4 hown4 hgr4 hat4 hlt4; have blk4 := row_kept (hrow2.alloc _) (row_old (hdd.trans hblk2) _) (by decide) hgr4; have hbk4 := blk blk4; obtain ⟨l4, ll4, lf4⟩ := hbk4))
      all_goals
        obtain ⟨hn5, hs5⟩ := blk_put blk4 8 (.slice (some ⟨g1, 0, none⟩) (L.length + 1) cap1)
        have hbd : Below wy.heap.size wy (wy.drew.alloc (.cells #[.int .i64 tt, .int .i64 e1, .int .i64 e2, .bool e3, .int .i64 e4, .int .i64 f1, .int .i64 f2, .int .i64 f3, .slice oa fo.length oc, .string ft] 93)) := ((Below.refl _ _).drew).alloc (Nat.le_refl _) _
        have t1 : Typ [134, 93] wr (wy.drew.alloc (.cells #[.int .i64 tt, .int .i64 e1, .int .i64 e2, .bool e3, .int .i64 e4, .int .i64 f1, .int .i64 f2, .int .i64 f3, .slice oa fo.length oc, .string ft] 93)) := (Typ.of_below hbw).trans (Typ.of_below hbd)
        have t2 : Typ [134, 93] (wy.drew.alloc (.cells #[.int .i64 tt, .int .i64 e1, .int .i64 e2, .bool e3, .int .i64 e4, .int .i64 f1, .int .i64 f2, .int .i64 f3, .slice oa fo.length oc, .string ft] 93)) w4 := Typ.grown (hrow2.alloc _) (by decide) hgr4
        have t3 : Typ [134] w4 (w4.setCell ⟨p, 8, none⟩ (.slice (some ⟨g1, 0, none⟩) (L.length + 1) cap1)) := Typ.stored blk4 (by decide) hs5
        have t4 : Typ [93] wr w4 := ((Typ.of_below hbw).trans (Typ.of_below hbd)).trans (Typ.grown (hrow2.alloc _) (by decide) hgr4)
        have t34 := t3.more (Us := [134, 93]) (by decide)
        have tt5 := (t1.trans t2).trans t34
        have hB5 : Below B wr (w4.setCell ⟨p, 8, none⟩ (.slice (some ⟨g1, 0, none⟩) (L.length + 1) cap1)) := (((below_two hbw hbd (Nat.le_refl _)).mono (by omega)).grown hgr4 (by simp; omega) (fun k e => (hrow2.lt k e).1)).trans (hs5.below (fun k e => by have := hW.hB; omega) (by have := hgr4.size; simp at this; omega))
        have hrw5 : RowM poS (w4.setCell ⟨p, 8, none⟩ (.slice (some ⟨g1, 0, none⟩) (L.length + 1) cap1)) B (.slice (some ⟨g1, 0, none⟩) (L.length + 1) cap1) (L ++ [(tt, _)]) := RowM.app (x := ((tt, (⟨e1, e2, e3, e4, ⟨f1, f2, f3, fo, ft⟩⟩, .slice oa fo.length oc)) : PoK)) hW.turn.posts hop0 (own_typ hown4 t3 (by decide)) tt5 (by decide)
        have hW5 : WorkAt (w4.setCell ⟨p, 8, none⟩ (.slice (some ⟨g1, 0, none⟩) (L.length + 1) cap1)) B p { V with posts := L ++ [(tt, _)] } sv uv mv (.slice (some ⟨g1, 0, none⟩) (L.length + 1) cap1) rv := ⟨hn5, hW.hB, hW.turn.sides.typ tt5 (by decide) (by decide) (by decide) (by decide), hW.turn.undo.typ tt5 (by decide) (by decide), own_typ hW.turn.marks tt5 (by decide), hrw5, hW.turn.recs.typ tt5 (by decide) (by decide)⟩
        clear hW hrw5 hown4 hgr4
        generalize (w4.setCell ⟨p, 8, none⟩ (.slice (some ⟨g1, 0, none⟩) (L.length + 1) cap1)) = w5 at *
        go_wp2_with fail
        go_roundg (P.length - i - 1)
        case measure => omega
        case rel => exact ⟨i + 1, _, by omega, by go_num, by rw [HN.out]; exact hW5, hB.trans hB5, ht.trans tt5⟩
    · obtain rfl : i = P.length := by omega
      have hiz : ¬ (P.length : Int) < (P.length : Int) := by omega
      have htk : P.take P.length = P := List.take_length
      rw [htk] at hW
      go_wp2_with fail
      go_end0
      exact ⟨rfl, ⟨px, hW⟩, hB, ht⟩

end Go.Proofs.YtpgcjpiabciekaaDoor
