/-
  Walk: wherrykeep.BeginJoins.
-/
import Derived.Test.YtpgcjpiabciekaaDoorNodeTurn
import Derived.Test.YtpgcjpiabciekaaDoorNodeCheck
import Derived.Test.YtpgcjpiabciekaaDoorKTree
import Derived.Lib.QuietBelow
namespace Go.Proofs.YtpgcjpiabciekaaDoor
open Go.RowKit Go.Lib Go.Sort

theorem strF {rs : List Nat} (h : ∀ r ∈ rs, CP r) : (str rs).size ≤ 4 * rs.length := by
  have e1 : (str rs).size = (encs rs).length := by rw [← str_bytes, bytes_len]
  have := encs_le h
  omega
set_option maxRecDepth 100000 in
set_option maxHeartbeats 4000000 in
theorem beginJoins_walk (l : List Int) (a : Option Addr) (c : Nat) (x y : Int) (s : ByteArray) (w : World) (h : Ints w a l) (hok : ∀ n ∈ l, I64 n) (hl : l.length ≤ 9223372036854775807) (_hc : l.length ≤ c) (hx : I64 x) (hy : I64 y) (hs : s.size ≤ 9223372036854775807) (hT : Tabs w) :
    Calls Tryd.prog 11 #[.slice a l.length c, .int .i64 x, .int .i64 y, .string s] w fun e w' => e = .returned (.bool true) ∧ Below w.heap.size w w' := by
  have cT := ktree_any l a c w h hok hl
  clear h hok
  have cY := fun wx => picked_same y 250 wx hy (by omega) (by omega)
  have hyp := pick_lt y 250 (by omega)
  generalize pick y 250 = bp at *
  go_enter Tryd.func11, Tryd.ntmps11
  go_wp2_with fail
  refine cT.mono ?_
  rintro r w1 ⟨v, rfl, T, hown, hTT, hTl, hb1⟩
  obtain ⟨ta, tc, rfl⟩ := own_form hown
  obtain ⟨hs7, _⟩ := treeErr_zero hTT
  have HT : Hid (treeErr T = 0) := hTT
  clear hTT cT hTl
  have hit : Ints w1 ta T := ints_own hown
  have cX := fun wx => picked_any x T.length wx hx (by omega) (by omega)
  go_wp2_with fail
  refine (cX _).mono ?_
  rintro r w2 ⟨k, hk, rfl, hb2⟩
  have hb21 := hb2
  replace hb2 := below_two hb1 hb2 (Nat.le_refl _)
  go_wp2_with fail
  refine (cY _).mono ?_
  rintro r w3 ⟨rfl, hw3⟩
  rw [hw3]
  clear hw3 w3 cY cX
  have hsl : ∀ (V : TurnV) {me : Int} {s : ByteArray}, Begun T me (1 + (bp : Int)) s V → V.sides.length = (peersL T me).length := fun V me s hB => by
    by_cases h : me = 0
    · rw [(hB.root h).1, List.length_map]
    · obtain ⟨q, R, s', P, e1, e2, _⟩ := hB.rest h
      rw [e1, e2]
      simp
  by_cases h0 : k = 0
  · subst h0
    go_wp2_with fail
    refine (letters_any s 20 _ hs (by omega)).mono ?_
    rintro r w3 ⟨rs, cp, lrs, rfl, hit3'⟩
    have HB3 := below_two hb2 hit3' (Nat.le_refl _)
    have hit2 : Ints w2 ta T := hit.below hb21
    have str_sz : (str rs).size ≤ 1048576 := by have := strF cp; omega
    have htx : textErr (str rs) = 0 := textErr_ok (valid_str cp) (by rw [runes_str cp]; omega)
    have hbe : beginErr T 0 (1 + (bp : Int)) (str rs) = 0 := by unfold beginErr; rw [HT.out, if_neg (by decide), if_neg (by omega), if_neg (by omega), htx, if_neg (by decide), if_neg (by simp)]
    have h0 : (0 : Int) = 0 := rfl
    have hit3 := below_two hb21 hit3' (Nat.le_refl _)
    have cB := begin_ok T ta tc 0 (1 + (bp : Int)) (str rs) w3 (hit.below hit3) (by have := str_sz; omega) (hT.below HB3) hbe (by omega) (by omega) (by omega) (fun h => absurd rfl h)
    go_wp2_with fail
    refine cB.mono ?_
    rintro r w4 ⟨V, sv, uv, mv, pv, rv, rfl, hTA, hBg, hb4⟩
    have HB4 := below_two HB3 hb4 (Nat.le_refl _)
    have hit4 := hit.below (below_two hit3 hb4 (Nat.le_refl _))
    have hNE := fun sa ua ma sc uc mc => begun_ok hBg HT.out (by omega) (by omega) htx (fun h => absurd rfl h) sa ua ma sc uc mc
    have hps := peersL_length T 0
    obtain ⟨sa, ua, ma, sc, uc, mc, rfl, rfl, rfl, hNA⟩ := hTA.node (by rw [hBg.btext]; exact str_sz) (by rw [hBg.bundo]; simp) (by rw [hsl V hBg]; omega) (by rw [hBg.bundo]; simp) (by rw [hBg.bmarks]; simp)
    obtain ⟨pa, pc, rfl⟩ := own_form hTA.posts.row
    obtain ⟨ra, rc, rfl⟩ := own_form hTA.recs.row
    have HNE : Hid (∀ sa ua ma sc uc mc, nodeErr T (V.node sa ua ma sc uc mc) = 0) := hNE
    have cN := fun wx (hb : Below w4.heap.size w4 wx) => nodeCheck_any T ta tc V.me V.ep V.up V.ready V.text V.sides sa sc (V.undo.map fun x : OpK => x.1) (V.undo.map fun x : OpK => x.2) ua uc V.marks ma mc wx (hit4.below hb) (hNA.below hb) (hT.below (below_two HB4 hb (Nat.le_refl _)))
    have hcn : nodeErr T ⟨V.me, V.ep, V.up, V.ready, V.text, V.sides, sa, sc, V.undo.map fun x : OpK => x.1, V.undo.map fun x : OpK => x.2, ua, uc, V.marks, ma, mc⟩ = 0 := hNE sa ua ma sc uc mc
    simp only [hcn] at cN
    have cD := fun wx (hb : Below w4.heap.size w4 wx) => begin_bad T ta tc (T.length : Int) (1 + (bp : Int)) ⟨#[]⟩ wx (hit4.below hb) (by decide) (hT.below (below_two HB4 hb (Nat.le_refl _))) 13 (by unfold beginErr; rw [HT.out, if_neg (by decide), if_pos (by omega)]) (by decide)
    have hPo := hTA.posts
    obtain ⟨vme, vep, vup, vready, vtext, vsides, vundo, vmarks, vposts, vrecs⟩ := V
    have e1 : vme = 0 := hBg.bme
    have e2 : vep = (1 + (bp : Int)) * 4096 := hBg.bep
    have e3 : vup = 0 := hBg.bup
    have e4 : vready = true := by have := hBg.bready; simpa [h0] using this
    have e5 : vtext = (str rs) := hBg.btext
    have e6 : vundo = [] := hBg.bundo
    have e7 : vmarks = [] := hBg.bmarks
    have e8 : vrecs = [] := hBg.brecs
    subst e1 e2 e3 e4 e5 e6 e7 e8
    clear hNE hcn cB hNA hps hbe htx
    have hr1 := (hBg.root rfl).1
    have hr2 := (hBg.root rfl).2
    clear h0
    simp only at hr1 hr2
    subst hr1 hr2
    clear hBg hTA hPo
    have hxb := heap_alloc_new w4 (.cells #[.int .i64 0, .int .i64 ((1 + (bp : Int)) * 4096), .int .i64 0, .bool true, .string (str rs), .slice sa (peersL T 0).length sc, .slice ua 0 uc, .slice ma 0 mc, .slice pa 0 pc, .slice ra 0 rc] 78)
    have hb5 := (Below.refl w4.heap.size w4).alloc (Nat.le_refl _) (.cells #[.int .i64 0, .int .i64 ((1 + (bp : Int)) * 4096), .int .i64 0, .bool true, .string (str rs), .slice sa (peersL T 0).length sc, .slice ua 0 uc, .slice ma 0 mc, .slice pa 0 pc, .slice ra 0 rc] 78)
    go_wp2_with fail
    refine (cD _ hb5).mono ?_
    generalize (w4.alloc (.cells #[.int .i64 0, .int .i64 ((1 + (bp : Int)) * 4096), .int .i64 0, .bool true, .string (str rs), .slice sa (peersL T 0).length sc, .slice ua 0 uc, .slice ma 0 mc, .slice pa 0 pc, .slice ra 0 rc] 78)) = w5 at *
    rintro r w6 ⟨rfl, hb6⟩
    have hxb6 := (hb6.block _ (heap_lt hxb)).trans hxb
    have hb46 := below_two hb5 hb6 (Nat.le_refl _)
    have hba6 := (Below.refl w6.heap.size w6).alloc (Nat.le_refl _) (.cells #[.int .i64 0, .int .i64 0, .int .i64 0, .bool false, .string ⟨#[]⟩, .slice none 0 0, .slice none 0 0, .slice none 0 0, .slice none 0 0, .slice none 0 0] 78)
    have cN6 := cN _ (below_two hb46 hba6 (Nat.le_refl _))
    simp only [List.map_nil, List.length_nil, List.length_map] at cN6
    have hxb7 := row_old hxb6 (.cells #[.int .i64 0, .int .i64 0, .int .i64 0, .bool false, .string ⟨#[]⟩, .slice none 0 0, .slice none 0 0, .slice none 0 0, .slice none 0 0, .slice none 0 0] 78)
    obtain ⟨x0, xl0, _⟩ := blk hxb6
    have HB6 := below_two HB4 (below_two hb46 hba6 (Nat.le_refl _)) (Nat.le_refl _)
    clear cN cD hb6 hxb hb5 hxb6
    go_wp2_with fail
    refine cN6.mono ?_
    generalize (w6.alloc (.cells #[.int .i64 0, .int .i64 0, .int .i64 0, .bool false, .string ⟨#[]⟩, .slice none 0 0, .slice none 0 0, .slice none 0 0, .slice none 0 0, .slice none 0 0] 78)) = w7 at *
    rintro r w8 ⟨rfl, hb8⟩
    have HB8 := below_two HB6 hb8 (Nat.le_refl _)
    have hxb8 := (hb8.block _ (heap_lt hxb7)).trans hxb7
    clear x0 xl0 hxb7 hb8 cN6
    obtain ⟨x0, xl0, _⟩ := blk hxb8
    go_wp2_with fail
    go_ret
    exact ⟨rfl, HB8⟩
  · have g0 : ((k : Int) == 0) = false := by simpa using h0
    have str_sz : (ByteArray.empty).size ≤ 1048576 := by decide
    have htx : textErr ByteArray.empty = 0 := by decide +kernel
    have hbe : beginErr T k (1 + (bp : Int)) ByteArray.empty = 0 := by
      have hz : (ByteArray.empty).size = 0 := rfl
      unfold beginErr; rw [HT.out, if_neg (by decide), if_neg (by omega), if_neg (by omega), htx, if_neg (by decide), if_neg (by rw [hz]; simp)]
    have HB3 := hb2
    have hit3 := hb21
    have cB := begin_ok T ta tc (k : Int) (1 + (bp : Int)) ByteArray.empty w2 (hit.below hit3) (by have := str_sz; omega) (hT.below HB3) hbe (by omega) (by omega) (by omega) (fun _ => rfl)
    go_wp2_with fail
    refine cB.mono ?_
    rintro r w4 ⟨V, sv, uv, mv, pv, rv, rfl, hTA, hBg, hb4⟩
    have HB4 := below_two HB3 hb4 (Nat.le_refl _)
    have hit4 := hit.below (below_two hit3 hb4 (Nat.le_refl _))
    have hNE := fun sa ua ma sc uc mc => begun_ok hBg HT.out (by omega) (by omega) htx (fun _ => rfl) sa ua ma sc uc mc
    have hps := peersL_length T (k : Int)
    obtain ⟨sa, ua, ma, sc, uc, mc, rfl, rfl, rfl, hNA⟩ := hTA.node (by rw [hBg.btext]; exact str_sz) (by rw [hBg.bundo]; simp) (by rw [hsl V hBg]; omega) (by rw [hBg.bundo]; simp) (by rw [hBg.bmarks]; simp)
    obtain ⟨pa, pc, rfl⟩ := own_form hTA.posts.row
    obtain ⟨ra, rc, rfl⟩ := own_form hTA.recs.row
    have HNE : Hid (∀ sa ua ma sc uc mc, nodeErr T (V.node sa ua ma sc uc mc) = 0) := hNE
    have cN := fun wx (hb : Below w4.heap.size w4 wx) => nodeCheck_any T ta tc V.me V.ep V.up V.ready V.text V.sides sa sc (V.undo.map fun x : OpK => x.1) (V.undo.map fun x : OpK => x.2) ua uc V.marks ma mc wx (hit4.below hb) (hNA.below hb) (hT.below (below_two HB4 hb (Nat.le_refl _)))
    have hcn : nodeErr T ⟨V.me, V.ep, V.up, V.ready, V.text, V.sides, sa, sc, V.undo.map fun x : OpK => x.1, V.undo.map fun x : OpK => x.2, ua, uc, V.marks, ma, mc⟩ = 0 := hNE sa ua ma sc uc mc
    simp only [hcn] at cN
    have cD := fun wx (hb : Below w4.heap.size w4 wx) => begin_bad T ta tc (T.length : Int) (1 + (bp : Int)) ⟨#[]⟩ wx (hit4.below hb) (by decide) (hT.below (below_two HB4 hb (Nat.le_refl _))) 13 (by unfold beginErr; rw [HT.out, if_neg (by decide), if_pos (by omega)]) (by decide)
    have hPo := hTA.posts
    obtain ⟨vme, vep, vup, vready, vtext, vsides, vundo, vmarks, vposts, vrecs⟩ := V
    have e1 : vme = (k : Int) := hBg.bme
    have e2 : vep = (1 + (bp : Int)) * 4096 := hBg.bep
    have e3 : vup = 0 := hBg.bup
    have e4 : vready = false := by have := hBg.bready; simpa [h0] using this
    have e5 : vtext = ByteArray.empty := hBg.btext
    have e6 : vundo = [] := hBg.bundo
    have e7 : vmarks = [] := hBg.bmarks
    have e8 : vrecs = [] := hBg.brecs
    subst e1 e2 e3 e4 e5 e6 e7 e8
    clear hNE hcn cB hNA hps hbe htx
    obtain ⟨q, R, s', P, k1, k2, k3, k4⟩ := hBg.rest (by simpa using h0)
    simp only at k2 k3
    subst k2 k3
    have hq : q = T[k]'(by omega) := by
      unfold peersL preL at k1
      rw [if_neg (by simpa using h0)] at k1
      have := (List.cons.inj k1).1
      rw [← this, Int.toNat_natCast, getD_get (by omega)]
    have hP1 : P.map (·.1) = [⟨(1 + (bp : Int)) * 4096, 1, false, 0, joinF ((1 + (bp : Int)) * 4096) 0⟩] := by
      rcases k4 with ⟨z, _⟩ | ⟨_, z, _⟩
      · exact absurd (by rw [show sideL (side1 (side0 q) ((1 + (bp : Int)) * 4096)) = mkL ((1 + (bp : Int)) * 4096) 1 0 [] [] from rfl, join_sent _ 0 (by omega) (by omega)]) z
      · rw [z, show sideL (side1 (side0 q) ((1 + (bp : Int)) * 4096)) = mkL ((1 + (bp : Int)) * 4096) 1 0 [] [] from rfl, join_sent _ 0 (by omega) (by omega)]
    obtain ⟨v, rfl⟩ : ∃ v, P = [(⟨(1 + (bp : Int)) * 4096, 1, false, 0, joinF ((1 + (bp : Int)) * 4096) 0⟩, v)] := by
      cases P with
      | nil => simp at hP1
      | cons z P =>
        obtain ⟨z1, z2⟩ := z
        simp at hP1
        obtain ⟨rfl, rfl⟩ := hP1
        exact ⟨z2, rfl⟩
    have hrow := hPo.inT.row
    obtain ⟨pa', pc', ep, _, _, hcc⟩ := hrow
    simp only [postsTo, List.map_cons, List.map_nil, List.length_cons, List.length_nil, Nat.zero_add, Value.slice.injEq, true_and] at ep
    obtain ⟨rfl, rfl⟩ := ep
    obtain ⟨pb, po, cs, rfl, _, hpl, hcc⟩ := hcc.resolve_left (by simp [postsTo, Shape.all, poS])
    have hpl := heap_lt hpl
    have c0 : w4.cell? ⟨pb, po, none⟩ = some (.int .i64 q) := hcc 0 _ rfl
    have c1 : w4.cell? ⟨pb, po + 1, none⟩ = some (.int .i64 ((1 + (bp : Int)) * 4096)) := hcc 1 _ rfl
    have c5 : w4.cell? ⟨pb, po + 5, none⟩ = some (.int .i64 2) := hcc 5 _ rfl
    obtain ⟨tb, to_, rfl, htl, htc⟩ : ∃ b off, ta = some ⟨b, off, none⟩ ∧ b < w4.heap.size ∧ ∀ i (h : i < T.length), w4.cell? ⟨b, off + i, none⟩ = some (.int .i64 T[i]) := hit4.resolve_left (by rintro rfl; simp at hs7)
    have ck := htc k (by omega)
    rw [← hq] at ck
    have hkz : (k : Int) < (T.length : Int) := by omega
    have hk0 : (0 : Int) ≤ (k : Int) := by omega
    clear hcc htc hq hP1 k1 k4 hBg hTA hPo
    simp only [postsTo, List.map_cons, List.map_nil, List.length_cons, List.length_nil, Nat.zero_add, List.length_map] at cN ⊢
    have hxb := heap_alloc_new w4 (.cells #[.int .i64 (k : Int), .int .i64 ((1 + (bp : Int)) * 4096), .int .i64 0, .bool false, .string ByteArray.empty, .slice sa (R.length + 1) sc, .slice ua 0 uc, .slice ma 0 mc, .slice (some ⟨pb, po, none⟩) 1 pc, .slice ra 0 rc] 78)
    have hb5 := (Below.refl w4.heap.size w4).alloc (Nat.le_refl _) (.cells #[.int .i64 (k : Int), .int .i64 ((1 + (bp : Int)) * 4096), .int .i64 0, .bool false, .string ByteArray.empty, .slice sa (R.length + 1) sc, .slice ua 0 uc, .slice ma 0 mc, .slice (some ⟨pb, po, none⟩) 1 pc, .slice ra 0 rc] 78)
    go_wp2_with fail
    refine (cD _ hb5).mono ?_
    generalize (w4.alloc (.cells #[.int .i64 (k : Int), .int .i64 ((1 + (bp : Int)) * 4096), .int .i64 0, .bool false, .string ByteArray.empty, .slice sa (R.length + 1) sc, .slice ua 0 uc, .slice ma 0 mc, .slice (some ⟨pb, po, none⟩) 1 pc, .slice ra 0 rc] 78)) = w5 at *
    rintro r w6 ⟨rfl, hb6⟩
    have hxb6 := (hb6.block _ (heap_lt hxb)).trans hxb
    have hb46 := below_two hb5 hb6 (Nat.le_refl _)
    have hba6 := (Below.refl w6.heap.size w6).alloc (Nat.le_refl _) (.cells #[.int .i64 0, .int .i64 0, .int .i64 0, .bool false, .string ⟨#[]⟩, .slice none 0 0, .slice none 0 0, .slice none 0 0, .slice none 0 0, .slice none 0 0] 78)
    have cN6 := cN _ (below_two hb46 hba6 (Nat.le_refl _))
    have hxb7 := row_old hxb6 (.cells #[.int .i64 0, .int .i64 0, .int .i64 0, .bool false, .string ⟨#[]⟩, .slice none 0 0, .slice none 0 0, .slice none 0 0, .slice none 0 0, .slice none 0 0] 78)
    obtain ⟨x0, xl0, _⟩ := blk hxb6
    have HB6 := below_two HB4 (below_two hb46 hba6 (Nat.le_refl _)) (Nat.le_refl _)
    clear cN cD hb6 hxb hb5 hxb6
    go_wp2_with fail
    refine cN6.mono ?_
    generalize (w6.alloc (.cells #[.int .i64 0, .int .i64 0, .int .i64 0, .bool false, .string ⟨#[]⟩, .slice none 0 0, .slice none 0 0, .slice none 0 0, .slice none 0 0, .slice none 0 0] 78)) = w7 at *
    rintro r w8 ⟨rfl, hb8⟩
    have HB8 := below_two HB6 hb8 (Nat.le_refl _)
    have hb48 := below_two (below_two hb46 hba6 (Nat.le_refl _)) hb8 (Nat.le_refl _)
    replace c0 := (hb48.cell (p := ⟨pb, po, none⟩) hpl).trans c0
    replace c1 := (hb48.cell (p := ⟨pb, po + 1, none⟩) hpl).trans c1
    replace c5 := (hb48.cell (p := ⟨pb, po + 5, none⟩) hpl).trans c5
    replace ck := (hb48.cell (p := ⟨tb, to_ + k, none⟩) htl).trans ck
    have hxb8 := (hb8.block _ (heap_lt hxb7)).trans hxb7
    clear x0 xl0 hxb7 hb8 cN6
    obtain ⟨x0, xl0, _⟩ := blk hxb8
    go_wp2_with fail
    go_quiet (fail)
    go_wp2_with fail
    go_ret
    exact ⟨rfl, HB8.trans ⟨rfl, rfl, rfl, Nat.le_refl _, fun _ _ => rfl⟩⟩

end Go.Proofs.YtpgcjpiabciekaaDoor
