/-
  Walks: node.numbersMayBe, sidesMayBe, readyMayBe.
-/
import Derived.Test.YtpgcjpiabciekaaDoorNodeEach
import Derived.Test.YtpgcjpiabciekaaDoorNodeSide
namespace Go.Proofs.YtpgcjpiabciekaaDoor
open Go.RowKit Go.Lib

set_option maxRecDepth 100000 in
set_option maxHeartbeats 1000000 in
theorem sm1_any (good : Bool) (j : Nat) (peer me ep up : Int) (ready : Bool) (text : ByteArray) (sa ua ma : Option Addr) (sc un uc mn mc : Nat) (K : List SideV) (pg pc pn : Nat) (w : World) (hg : w.heap[pg]? = some (.cells #[.bool good] 4 (0, 0))) (hc : w.heap[pc]? = some (.cells #[.int .i64 (j : Int)] 3 (0, 0))) (hn : w.heap[pn]? = some (.cells #[.int .i64 me, .int .i64 ep, .int .i64 up, .bool ready, .string text, .slice sa K.length sc, .slice ua un uc, .slice ma mn mc] 74 (0, 0))) (hs : SidesAt w sa sc K) (hne : pg ≠ pc) (hj : j ≤ 1000) :
    Calls Tryd.prog 133 #[.int .i64 peer, .pointer (some ⟨pg, 0, none⟩), .pointer (some ⟨pc, 0, none⟩), .pointer (some ⟨pn, 0, none⟩)] w fun e w' => e = .returned (.tuple #[]) ∧ w'.heap[pg]? = some (.cells #[.bool (good && decide ((K.map (·.peer))[j]? = some peer))] 4 (0, 0)) ∧ w'.heap[pc]? = some (.cells #[.int .i64 ((j + 1 : Nat) : Int)] 3 (0, 0)) ∧ Chg (fun k => k = pg ∨ k = pc) w w' := by
  obtain ⟨R, hR⟩ : ∃ R, (good && decide ((K.map (·.peer))[j]? = some peer)) = R := ⟨_, rfl⟩
  rw [hR]
  have hG := blk_put hg 0 (.bool R)
  have hC1 := hG.2.row hc (Ne.symm hne)
  have hC := blk_put hC1 0 (.int .i64 ((j : Int) + 1))
  have hG2 := hC.2.row hG.1 hne
  have hch : Chg (fun k => k = pg ∨ k = pc) w ((w.setCell ⟨pg, 0, none⟩ (.bool R)).setCell ⟨pc, 0, none⟩ (.int .i64 ((j : Int) + 1))) := ((Chg.refl (fun k => k = pg ∨ k = pc) w).setCell (p := ⟨pg, 0, none⟩) (.inl rfl) _).setCell (p := ⟨pc, 0, none⟩) (.inr rfl) _
  have hCf : ((w.setCell ⟨pg, 0, none⟩ (.bool R)).setCell ⟨pc, 0, none⟩ (.int .i64 ((j : Int) + 1))).heap[pc]? = some (.cells #[.int .i64 ((j + 1 : Nat) : Int)] 3 (0, 0)) := by
    have := hC.1
    rw [show ((j + 1 : Nat) : Int) = (j : Int) + 1 by omega]
    exact this
  obtain ⟨g0, gl0, gf0⟩ := blk hg
  obtain ⟨c0, cl0, cf0⟩ := blk hc
  obtain ⟨c1, cl1, cf1⟩ := blk hC1
  obtain ⟨n0, nl0, _⟩ := blk hn
  clear hG hC
  cases good with
  | false =>
    rw [Bool.false_and] at hR
    subst hR
    clear hs
    go_enter Tryd.func133, Tryd.ntmps133
    go_wp2_with fail
    go_end0
    exact ⟨rfl, hG2, hCf, hch⟩
  | true =>
    rw [Bool.true_and] at hR
    by_cases hlt : j < K.length
    · have hjz : (j : Int) < (K.length : Int) := by omega
      have hj0 : (0 : Int) ≤ (j : Int) := by omega
      obtain ⟨b, off, ea, hb, hcell⟩ := hs.get hlt
      subst ea
      have k0 : w.cell? ⟨b, off + j * 10, none⟩ = some (.int .i64 K[j].peer) := hcell 0 _ rfl
      have e : (K.map (·.peer))[j]? = some K[j].peer := by rw [List.getElem?_map, List.getElem?_eq_getElem hlt]; rfl
      rw [e] at hR
      generalize K[j].peer = q at *
      clear hcell hs e
      by_cases hq : q = peer
      · subst hq
        rw [decide_eq_true rfl] at hR
        subst hR
        go_enter Tryd.func133, Tryd.ntmps133
        go_wp2_with fail
        go_end0
        exact ⟨rfl, hG2, hCf, hch⟩
      · have gq : (q == peer) = false := by simpa using hq
        rw [decide_eq_false (by simpa using hq)] at hR
        subst hR
        go_enter Tryd.func133, Tryd.ntmps133
        go_wp2_with fail
        go_end0
        exact ⟨rfl, hG2, hCf, hch⟩
    · have hjz : ¬ (j : Int) < (K.length : Int) := by omega
      rw [List.getElem?_eq_none (by simpa using hlt), decide_eq_false (by simp)] at hR
      subst hR
      clear hs
      go_enter Tryd.func133, Tryd.ntmps133
      go_wp2_with fail
      go_end0
      exact ⟨rfl, hG2, hCf, hch⟩

set_option maxRecDepth 100000 in
set_option maxHeartbeats 1000000 in
theorem sm2_any (good : Bool) (i : Int) (s : SideV) (me ep up : Int) (ready : Bool) (text : ByteArray) (sa ua ma : Option Addr) (sn sc un uc mn mc : Nat) (pg pn : Nat) (w : World) (hg : w.heap[pg]? = some (.cells #[.bool good] 4 (0, 0))) (hn : w.heap[pn]? = some (.cells #[.int .i64 me, .int .i64 ep, .int .i64 up, .bool ready, .string text, .slice sa sn sc, .slice ua un uc, .slice ma mn mc] 74 (0, 0))) (hs : SideAt w s) (ht : text.size ≤ 1048576) (hT : Tabs w) :
    Calls Tryd.prog 134 #[.int .i64 i, .agg #[.int .i64 s.peer, .bool s.joined, .int .i64 s.sent, .int .i64 s.heard, .slice s.pa s.pend.length s.pc, .int .i64 s.ep, .int .i64 s.nx, s.sv, s.qv, .int .i64 s.hd], .pointer (some ⟨pg, 0, none⟩), .pointer (some ⟨pn, 0, none⟩)] w fun e w' => e = .returned (.tuple #[]) ∧ w'.heap[pg]? = some (.cells #[.bool (good && sideB ready text s)] 4 (0, 0)) ∧ Chg (fun k => k = pg) w w' := by
  have cS := fun wx (hx : Below w.heap.size w wx) => sideMay_any me ep up ready text sa ua ma sn sc un uc mn mc s wx (hs.below hx) ht (hT.below hx)
  obtain ⟨qsa, qsc, esv, _⟩ := hs.inS.row
  obtain ⟨qqa, qqc, eqv, _⟩ := hs.inQ.row
  obtain ⟨R, hR⟩ : ∃ R, sideB ready text s = R := ⟨_, rfl⟩
  rw [hR] at cS ⊢
  clear hR hs
  obtain ⟨peer, joined, sent, heard, pend, pvs, pa, pc, sep, snx, shd, S, Q, sv, qv⟩ := s
  simp only at *
  subst esv eqv
  have hb0 := (Below.refl w.heap.size w).alloc (Nat.le_refl _) (.cells #[.int .i64 peer, .bool joined, .int .i64 sent, .int .i64 heard, .slice pa pend.length pc, .int .i64 sep, .int .i64 snx, .slice qsa S.length qsc, .slice qqa Q.length qqc, .int .i64 shd] 140)
  have hs1 := heap_alloc_new w (.cells #[.int .i64 peer, .bool joined, .int .i64 sent, .int .i64 heard, .slice pa pend.length pc, .int .i64 sep, .int .i64 snx, .slice qsa S.length qsc, .slice qqa Q.length qqc, .int .i64 shd] 140)
  have hg1 := row_old hg (.cells #[.int .i64 peer, .bool joined, .int .i64 sent, .int .i64 heard, .slice pa pend.length pc, .int .i64 sep, .int .i64 snx, .slice qsa S.length qsc, .slice qqa Q.length qqc, .int .i64 shd] 140)
  have hn1 := row_old hn (.cells #[.int .i64 peer, .bool joined, .int .i64 sent, .int .i64 heard, .slice pa pend.length pc, .int .i64 sep, .int .i64 snx, .slice qsa S.length qsc, .slice qqa Q.length qqc, .int .i64 shd] 140)
  cases good with
  | false =>
    rw [Bool.false_and]
    have hG := blk_put hg1 0 (.bool false)
    have hch : Chg (fun k => k = pg) w ((w.alloc (.cells #[.int .i64 peer, .bool joined, .int .i64 sent, .int .i64 heard, .slice pa pend.length pc, .int .i64 sep, .int .i64 snx, .slice qsa S.length qsc, .slice qqa Q.length qqc, .int .i64 shd] 140)).setCell ⟨pg, 0, none⟩ (.bool false)) := ((Chg.refl _ w).alloc _).trans hG.2 (fun _ _ h => h)
    obtain ⟨g0, gl0, gf0⟩ := blk hg1
    have hGf := hG.1
    clear cS hT hG
    go_enter Tryd.func134, Tryd.ntmps134
    go_wp2_with fail
    go_end0
    exact ⟨rfl, hGf, hch⟩
  | true =>
    rw [Bool.true_and]
    obtain ⟨g0, gl0, gf0⟩ := blk hg1
    obtain ⟨n0, nl0, _⟩ := blk hn1
    obtain ⟨s0, sl0, _⟩ := blk hs1
    have cS1 := cS _ hb0
    clear cS hT
    go_enter Tryd.func134, Tryd.ntmps134
    go_wp2_with fail
    refine cS1.mono ?_
    rintro r w1 ⟨rfl, hb1⟩
    have HB1 := below_two hb0 hb1 (Nat.le_refl _)
    have hg2 := (hb1.block _ gl0).trans hg1
    have hG := blk_put hg2 0 (.bool R)
    have hch : Chg (fun k => k = pg) w (w1.setCell ⟨pg, 0, none⟩ (.bool R)) := (Chg.of_below HB1).trans hG.2 (fun _ _ h => h)
    have hGf := hG.1
    clear g0 gl0 gf0 n0 nl0 s0 sl0 hG
    obtain ⟨g0, gl0, gf0⟩ := blk hg2
    go_wp2_with fail
    go_end0
    exact ⟨rfl, hGf, hch⟩
theorem take_step {L M : List Int} {i : Nat} (h : i < M.length) : (decide (L.take i = M.take i) && decide (L[i]? = some M[i])) = decide (L.take (i + 1) = M.take (i + 1)) := by
  rw [Bool.eq_iff_iff, Bool.and_eq_true, decide_eq_true_eq, decide_eq_true_eq, decide_eq_true_eq]
  constructor
  · rintro ⟨h1, h2⟩
    rw [List.take_add_one, List.take_add_one, h1, h2, List.getElem?_eq_getElem h]
  · intro h1
    have h0 : L.take i = M.take i := by
      have := congrArg (List.take i) h1
      rwa [List.take_take, List.take_take, Nat.min_eq_left (Nat.le_succ i)] at this
    refine ⟨h0, ?_⟩
    have h2 := congrArg (fun l => l[i]?) h1
    simp only [List.getElem?_take_of_lt (Nat.lt_succ_self i), List.getElem?_eq_getElem h] at h2
    exact h2
/-- what sidesMayBe has in its blocks -/
structure SmAt (w wr : World) (no : Obj) (j : Nat) (g : Bool) : Prop where
  n : wr.heap[w.heap.size]? = some no
  c : wr.heap[w.heap.size + 1]? = some (.cells #[.int .i64 (j : Int)] 3 (0, 0))
  g : wr.heap[w.heap.size + 1 + 1]? = some (.cells #[.bool g] 4 (0, 0))
  below : Below w.heap.size w wr
theorem SmAt.alloc {w wr : World} {no : Obj} {j : Nat} {g : Bool} (h : SmAt w wr no j g) (o : Obj) : SmAt w (wr.alloc o) no j g := ⟨row_old h.n o, row_old h.c o, row_old h.g o, h.below.alloc h.below.size o⟩
theorem kidsL_len (me : Int) : ∀ (T : List Int) (i : Nat), (kidsL me i T).length ≤ T.length
  | [], _ => Nat.le_refl _
  | p :: r, i => by
    have := kidsL_len me r (i + 1)
    unfold kidsL
    split <;> simp <;> omega
theorem peersL_len (T : List Int) (me : Int) : (peersL T me).length ≤ T.length + 1 := by
  have := kidsL_len me T 0
  unfold peersL preL
  rw [List.length_append]
  split <;> simp <;> omega

set_option maxRecDepth 100000 in
set_option maxHeartbeats 1000000 in
theorem sidesMay_any (T : List Int) (a : Option Addr) (c : Nat) (me ep up : Int) (ready : Bool) (text : ByteArray) (sa ua ma : Option Addr) (sc un uc mn mc : Nat) (sides : List SideV) (w : World) (hin : Ints w a T) (hme : 0 ≤ me ∧ me < (T.length : Int)) (hl : T.length ≤ 7) (hs : SidesAt w sa sc sides) (ls : sides.length ≤ 1048576) (ht : text.size ≤ 1048576) (hT : Tabs w) :
    Calls Tryd.prog 96 #[.slice a T.length c, .agg #[.int .i64 me, .int .i64 ep, .int .i64 up, .bool ready, .string text, .slice sa sides.length sc, .slice ua un uc, .slice ma mn mc]] w fun e w' => e = .returned (.bool (decide (sides.map (·.peer) = peersL T me) && sides.all (sideB ready text))) ∧ Below w.heap.size w w' := by
  have e1 : ∀ args w, (callFunc 133 args).run Tryd.prog w = .ok (.enter 133 args) w := enters_of Tryd.func133 (by kernel_rfl) rfl
  have e2 : ∀ args w, (callFunc 134 args).run Tryd.prog w = .ok (.enter 134 args) w := enters_of Tryd.func134 (by kernel_rfl) rfl
  obtain ⟨R, hR⟩ : ∃ R, (decide (sides.map (·.peer) = peersL T me) && sides.all (sideB ready text)) = R := ⟨_, rfl⟩
  rw [hR]
  obtain ⟨hn, hc, hg, HB0, hz⟩ := blocks3 w (.cells #[.int .i64 me, .int .i64 ep, .int .i64 up, .bool ready, .string text, .slice sa sides.length sc, .slice ua un uc, .slice ma mn mc] 74) (.cells #[.int .i64 0] 3) (.cells #[.bool true] 4)
  have hML := peersL_len T me
  have hLl : (sides.map (·.peer)).length = sides.length := List.length_map _
  have c1 := eachNeighbour_any T a c me 133 #[.pointer (some ⟨w.heap.size + 1 + 1, 0, none⟩), .pointer (some ⟨w.heap.size + 1, 0, none⟩), .pointer (some ⟨w.heap.size, 0, none⟩)] (((w.alloc (.cells #[.int .i64 me, .int .i64 ep, .int .i64 up, .bool ready, .string text, .slice sa sides.length sc, .slice ua un uc, .slice ma mn mc] 74)).alloc (.cells #[.int .i64 0] 3)).alloc (.cells #[.bool true] 4)) (fun j wr => SmAt w wr (.cells #[.int .i64 me, .int .i64 ep, .int .i64 up, .bool ready, .string text, .slice sa sides.length sc, .slice ua un uc, .slice ma mn mc] 74 (0, 0)) j (decide ((sides.map (·.peer)).take j = (peersL T me).take j))) e1 hme hl (fun i wr h => hin.below h.below) ⟨hn, hc, by simpa using hg, HB0⟩ (by
    rintro i hi wr ⟨h1, h2, h3, h4⟩
    refine (sm1_any (decide ((sides.map (·.peer)).take i = (peersL T me).take i)) i (peersL T me)[i] me ep up ready text sa ua ma sc un uc mn mc sides (w.heap.size + 1 + 1) (w.heap.size + 1) w.heap.size wr h3 h2 h1 (hs.below h4) (by omega) (by omega)).mono ?_
    rintro e w' ⟨rfl, g1, g2, g3⟩
    rw [take_step hi] at g1
    exact ⟨rfl, g3.row h1 (by omega), g2, g1, h4.trans (g3.below (fun k e => by omega) h4.size)⟩)
  generalize sides.map (·.peer) = L at *
  generalize peersL T me = M at *
  have hMt : M.take M.length = M := List.take_length
  obtain ⟨n0, nl0, _⟩ := blk hn
  have c2 := fun wq (hq : SmAt w wq (.cells #[.int .i64 me, .int .i64 ep, .int .i64 up, .bool ready, .string text, .slice sa sides.length sc, .slice ua un uc, .slice ma mn mc] 74 (0, 0)) M.length true) => eachSide_any me ep up ready text sa ua ma sc un uc mn mc sides 134 #[.pointer (some ⟨w.heap.size + 1 + 1, 0, none⟩), .pointer (some ⟨w.heap.size, 0, none⟩)] wq (fun i wr => SmAt w wr (.cells #[.int .i64 me, .int .i64 ep, .int .i64 up, .bool ready, .string text, .slice sa sides.length sc, .slice ua un uc, .slice ma mn mc] 74 (0, 0)) M.length ((sides.take i).all (sideB ready text))) e2 ls (fun i wr h => hs.below h.below) (fun i wr o h => h.alloc o) hq (by
    rintro i hi wr ⟨h1, h2, h3, h4⟩
    refine (sm2_any ((sides.take i).all (sideB ready text)) (i : Int) sides[i] me ep up ready text sa ua ma sides.length sc un uc mn mc (w.heap.size + 1 + 1) w.heap.size wr h3 h1 ((hs.below h4).each _ (List.getElem_mem hi)) ht (hT.below h4)).mono ?_
    rintro e w' ⟨rfl, g1, g3⟩
    have g1' : w'.heap[w.heap.size + 1 + 1]? = some (.cells #[.bool ((sides.take (i + 1)).all (sideB ready text))] 4 (0, 0)) := by
      rw [List.take_succ_eq_append_getElem hi, List.all_append]
      simpa using g1
    exact ⟨rfl, g3.row h1 (by omega), g3.row h2 (by omega), g1', h4.trans (g3.below (fun k e => by omega) h4.size)⟩)
  clear hin hs hT e1 e2
  go_enter Tryd.func96, Tryd.ntmps96
  go_wp2_with fail
  refine c1.mono ?_
  generalize (((w.alloc (.cells #[.int .i64 me, .int .i64 ep, .int .i64 up, .bool ready, .string text, .slice sa sides.length sc, .slice ua un uc, .slice ma mn mc] 74)).alloc (.cells #[.int .i64 0] 3)).alloc (.cells #[.bool true] 4)) = w0 at *
  rintro r w1 ⟨rfl, hP⟩
  have hPc := hP
  obtain ⟨h1, h2, h3, h4⟩ := hP
  rw [hMt] at h3
  clear c1 n0 nl0
  obtain ⟨n0, nl0, _⟩ := blk h1
  obtain ⟨m0, ml0, _⟩ := blk h2
  obtain ⟨g0, gl0, _⟩ := blk h3
  by_cases hA : L.take M.length = M
  rotate_left
  · have hLM : ¬ L = M := fun e => hA (by rw [e]; exact List.take_length)
    rw [decide_eq_false hLM, Bool.false_and] at hR
    subst hR
    rw [decide_eq_false hA] at g0
    clear c2 hA hLM h3
    go_wp2_with fail
    go_ret
    exact ⟨rfl, h4⟩
  rw [decide_eq_true hA] at g0
  by_cases hB : M.length = sides.length
  rotate_left
  · have hLM : ¬ L = M := fun e => hB (by rw [← hLl, e])
    rw [decide_eq_false hLM, Bool.false_and] at hR
    subst hR
    have gB : ((M.length : Int) != (sides.length : Int)) = true := by simp; omega
    clear c2 hA hLM h3 hB
    go_wp2_with fail
    go_ret
    exact ⟨rfl, h4⟩
  have hLM : L = M := by rw [hB, ← hLl, List.take_length] at hA; exact hA
  rw [decide_eq_true hLM, Bool.true_and] at hR
  have gB : ((M.length : Int) != (sides.length : Int)) = false := by simp; omega
  have hq : SmAt w w1 (.cells #[.int .i64 me, .int .i64 ep, .int .i64 up, .bool ready, .string text, .slice sa sides.length sc, .slice ua un uc, .slice ma mn mc] 74 (0, 0)) M.length true := ⟨h1, h2, by rw [h3, decide_eq_true hA], h4⟩
  have c3 := c2 w1 hq
  rw [List.take_length, hR] at c3
  clear c2 hA hLM h3 hB hPc hMt hLl hR
  go_wp2_with fail
  refine c3.mono ?_
  rintro r w2 ⟨rfl, hP⟩
  obtain ⟨q1, q2, q3, q4⟩ := hP
  clear n0 nl0 m0 ml0 g0 gl0 c3
  obtain ⟨g0, gl0, _⟩ := blk q3
  go_wp2_with fail
  go_ret
  exact ⟨rfl, q4⟩

end Go.Proofs.YtpgcjpiabciekaaDoor
