/-
  Walks: the methods open, send, join of a node's work.
-/
import Derived.Test.YtpgcjpiabciekaaDoorNodePost
namespace Go.Proofs.YtpgcjpiabciekaaDoor
open Go.RowKit Go.Lib

/-- a store into a row of one's own -/
theorem own_put {w : World} {B e size g n c j : Nat} {xs : List Value} (h : w.ownsRow B e size (.slice (some ⟨g, 0, none⟩) n c) n xs) (hj : j < xs.length) (u : Value) :
    (w.setCell ⟨g, j, none⟩ u).ownsRow B e size (.slice (some ⟨g, 0, none⟩) n c) n (xs.set j u) ∧ Typ [e] w (w.setCell ⟨g, j, none⟩ u) ∧ Chg (fun k => k = g) w (w.setCell ⟨g, j, none⟩ u) ∧ w.cell? ⟨g, j, none⟩ = xs[j]? ∧ w.frozen? ⟨g, j, none⟩ = false ∧ B ≤ g := by
  obtain ⟨h1, h2⟩ := h
  rcases h2 with ⟨e0, _⟩ | ⟨g', cap, cur, ev, hb, hg, hn, hcap, hcur, htk⟩
  · cases e0
  · cases ev
    obtain ⟨k1, k2⟩ := blk_put hg j u
    obtain ⟨b0, _, bf⟩ := blk hg
    refine ⟨⟨by rw [List.length_set]; exact h1, .inr ⟨g, c, _, rfl, hb, k1, hn, hcap, by rw [Array.size_setIfInBounds]; exact hcur, ?_⟩⟩, Typ.stored hg (by simp) k2, k2, ?_, bf j, hb⟩
    · rw [Array.toList_setIfInBounds, ← htk, List.take_set]
    · rw [b0 j, ← htk, List.getElem?_take, if_pos (by rw [h1] at hj; exact hj)]
      simp
theorem sides_set (L R : List SideV) (s : SideV) (a b c d e : Value) :
    (((((sidesAll (L ++ s :: R)).set (L.length * 10 + 5) a).set (L.length * 10 + 6) b).set (L.length * 10 + 7) c).set (L.length * 10 + 8) d).set (L.length * 10 + 9) e = sidesAll L ++ ([.int .i64 s.peer, .bool s.joined, .int .i64 s.sent, .int .i64 s.heard, .slice s.pa s.pend.length s.pc, a, b, c, d, e] ++ sidesAll R) := by
  have hL := sidesAll_length L
  have e0 : sidesAll (L ++ s :: R) = sidesAll L ++ (sideVals s ++ sidesAll R) := by rw [sidesAll_append]; rfl
  have st : ∀ (Y : List Value) (j : Nat) (u : Value), (sidesAll L ++ Y).set (L.length * 10 + j) u = sidesAll L ++ Y.set j u := fun Y j u => by
    rw [List.set_append, if_neg (by omega), hL, Nat.add_sub_cancel_left]
  rw [e0, st, st, st, st, st]
  rfl
/-- a side whose link was changed -/
def linkPut (s : SideV) (ep nx hd : Int) (S Q : List FrK) (sv qv : Value) : SideV := { s with ep := ep, nx := nx, hd := hd, S := S, Q := Q, sv := sv, qv := qv }
theorem sides_link (L R : List SideV) (s : SideV) (ep nx hd : Int) (S Q : List FrK) (sv qv : Value) :
    (((((sidesAll (L ++ s :: R)).set (L.length * 10 + 5) (.int .i64 ep)).set (L.length * 10 + 6) (.int .i64 nx)).set (L.length * 10 + 7) sv).set (L.length * 10 + 8) qv).set (L.length * 10 + 9) (.int .i64 hd) = sidesAll (L ++ linkPut s ep nx hd S Q sv qv :: R) := by
  rw [sides_set, sidesAll_append]
  rfl
theorem SideT.linked {w : World} {B : Nat} {s : SideV} (h : SideT w B s) {ep nx hd : Int} {S Q : List FrK} {sv qv : Value} (hS : InT frS w B sv S) (hQ : InT frS w B qv Q) (fS : ∀ x ∈ S, FrSmall x.1) (fQ : ∀ x ∈ Q, FrSmall x.1) (lS : S.length ≤ 1048577) (lQ : Q.length ≤ 1048577) : SideT w B (linkPut s ep nx hd S Q sv qv) :=
  ⟨h.pl, h.pend, hS, hQ, h.psm, h.plen, h.sentB, fS, fQ, lS, lQ⟩

/-- a side's link is written over -/
theorem link_put5 {w : World} {B p g n c : Nat} {V : TurnV} {uv mv pv rv : Value} {L R : List SideV} {s : SideV} (hw : WorkAt w B p V (.slice (some ⟨g, 0, none⟩) n c) uv mv pv rv) (hV : V.sides = L ++ s :: R) {k : Nat} (hk : k = L.length) {ep nx hd : Int} {S Q : List FrK} {sv qv : Value} (hS : InT frS w B sv S) (hQ : InT frS w B qv Q) (fS : ∀ x ∈ S, FrSmall x.1) (fQ : ∀ x ∈ Q, FrSmall x.1) (lS : S.length ≤ 1048577) (lQ : Q.length ≤ 1048577) :
    WorkAt (((((w.setCell ⟨g, k * 10 + 5, none⟩ (.int .i64 ep)).setCell ⟨g, k * 10 + 5 + 1, none⟩ (.int .i64 nx)).setCell ⟨g, k * 10 + 5 + 2, none⟩ sv).setCell ⟨g, k * 10 + 5 + 3, none⟩ qv).setCell ⟨g, k * 10 + 5 + 4, none⟩ (.int .i64 hd)) B p { V with sides := L ++ linkPut s ep nx hd S Q sv qv :: R } (.slice (some ⟨g, 0, none⟩) n c) uv mv pv rv ∧ Below B w (((((w.setCell ⟨g, k * 10 + 5, none⟩ (.int .i64 ep)).setCell ⟨g, k * 10 + 5 + 1, none⟩ (.int .i64 nx)).setCell ⟨g, k * 10 + 5 + 2, none⟩ sv).setCell ⟨g, k * 10 + 5 + 3, none⟩ qv).setCell ⟨g, k * 10 + 5 + 4, none⟩ (.int .i64 hd)) ∧ Typ [140] w (((((w.setCell ⟨g, k * 10 + 5, none⟩ (.int .i64 ep)).setCell ⟨g, k * 10 + 5 + 1, none⟩ (.int .i64 nx)).setCell ⟨g, k * 10 + 5 + 2, none⟩ sv).setCell ⟨g, k * 10 + 5 + 3, none⟩ qv).setCell ⟨g, k * 10 + 5 + 4, none⟩ (.int .i64 hd)) := by
  obtain ⟨hn, _⟩ := hw.turn.sides.sides
  have hown := hw.turn.sides.row
  have hlen : (sidesAll V.sides).length = V.sides.length * 10 := sidesAll_length _
  have hnl : V.sides.length = L.length + 1 + R.length := by rw [hV]; simp; omega
  rw [← hn] at hown hlen hnl
  obtain ⟨o1, t1, c1, _, _, hBg⟩ := own_put hown (j := k * 10 + 5) (by omega) (.int .i64 ep)
  obtain ⟨o2, t2, c2, _⟩ := own_put o1 (j := k * 10 + 5 + 1) (by rw [List.length_set]; omega) (.int .i64 nx)
  obtain ⟨o3, t3, c3, _⟩ := own_put o2 (j := k * 10 + 5 + 2) (by rw [List.length_set, List.length_set]; omega) sv
  obtain ⟨o4, t4, c4, _⟩ := own_put o3 (j := k * 10 + 5 + 3) (by rw [List.length_set, List.length_set, List.length_set]; omega) qv
  obtain ⟨o5, t5, c5, _⟩ := own_put o4 (j := k * 10 + 5 + 4) (by rw [List.length_set, List.length_set, List.length_set, List.length_set]; omega) (.int .i64 hd)
  have hBw : B ≤ w.heap.size := by have := hw.hB; have := heap_lt hw.blk; omega
  have z1 := c1.size
  have z2 := c2.size
  have z3 := c3.size
  have z4 := c4.size
  have hB := ((((c1.below (B := B) (fun i e => by omega) hBw).trans (c2.below (B := B) (fun i e => by omega) (by omega))).trans (c3.below (B := B) (fun i e => by omega) (by omega))).trans (c4.below (B := B) (fun i e => by omega) (by omega))).trans (c5.below (B := B) (fun i e => by omega) (by omega))
  have ht := (((t1.trans t2).trans t3).trans t4).trans t5
  have e5 : n = (L ++ linkPut s ep nx hd S Q sv qv :: R).length := by rw [hnl]; simp; omega
  rw [hV, hk, sides_link L R s ep nx hd S Q sv qv, ← hk] at o5
  refine ⟨⟨ht.block _ _ _ (by decide) hw.blk, hw.hB, ⟨⟨?_, fun x hx => ?_⟩, hw.turn.undo.typ ht (by decide) (by decide), own_typ hw.turn.marks ht (by decide), hw.turn.posts.typ ht (by decide) (by decide), hw.turn.recs.typ ht (by decide) (by decide)⟩⟩, hB, ht⟩
  · show World.ownsRow _ B 140 10 _ (L ++ linkPut s ep nx hd S Q sv qv :: R).length _
    rw [← e5]
    exact o5
  · have hold : ∀ y ∈ L ++ s :: R, SideT w B y := fun y hy => hw.turn.sides.each y (by rw [hV]; exact hy)
    rcases List.mem_append.1 hx with hx | hx
    · exact (hold x (List.mem_append_left _ hx)).typ ht (by decide) (by decide) (by decide)
    · rcases List.mem_cons.1 hx with rfl | hx
      · exact ((hold s (by simp)).linked hS hQ fS fQ lS lQ).typ ht (by decide) (by decide) (by decide)
      · exact (hold x (by simp [hx])).typ ht (by decide) (by decide) (by decide)

set_option maxRecDepth 100000 in
set_option maxHeartbeats 2000000 in
theorem wopen_any (B p g n c : Nat) (V : TurnV) (uv mv pv rv : Value) (L R : List SideV) (s : SideV) (ep : Int) (w : World) (hw : WorkAt w B p V (.slice (some ⟨g, 0, none⟩) n c) uv mv pv rv) (hV : V.sides = L ++ s :: R) (he : 1 ≤ ep ∧ ep ≤ 1048576) :
    Calls Tryd.prog 120 #[.pointer (some ⟨p, 0, none⟩), .int .i64 (L.length : Int), .int .i64 ep] w fun r w' => r = .returned (.tuple #[]) ∧ WorkAt w' B p { V with sides := L ++ linkPut s ep 1 0 [] [] (.slice none 0 0) (.slice none 0 0) :: R } (.slice (some ⟨g, 0, none⟩) n c) uv mv pv rv ∧ Below B w w' ∧ Typ [140] w w' := by
  have cO := fun w1 => linkOpen_any ep w1
  simp only [if_pos he] at cO
  have hblk := hw.blk
  obtain ⟨b0, bl0, bf0⟩ := blk hblk
  obtain ⟨hn, _⟩ := hw.turn.sides.sides
  have hown := hw.turn.sides.row
  rw [← hn, hV] at hown
  have hlen : (sidesAll (L ++ s :: R)).length = (L ++ s :: R).length * 10 := sidesAll_length _
  have hnl : n = L.length + 1 + R.length := by rw [hn, hV]; simp; omega
  have hll : (L ++ s :: R).length = L.length + 1 + R.length := by simp; omega
  have hcell : ∀ j, j < 10 → w.cell? ⟨g, L.length * 10 + j, none⟩ = (sideVals s)[j]? := fun j hj => by
    rw [(own_put hown (j := L.length * 10 + j) (by omega) (.int .i64 0)).2.2.2.1, sidesAll_get _ _ _ (by omega) hj]
    simp
  obtain ⟨_, _, _, _, _, hBg⟩ := own_put hown (j := 0) (by omega) (.int .i64 0)
  have hfr : ∀ j, w.frozen? ⟨g, j, none⟩ = false := fun j => by
    rcases hown.2 with ⟨e0, _⟩ | ⟨g', cap, cur, ev, _, hg, _⟩
    · cases e0
    · cases ev
      exact (blk hg).2.2 j
  have hgl : g < w.heap.size := (hown.lt g rfl).2
  have hiz : (0 : Int) ≤ (L.length : Int) := by omega
  have hin : (L.length : Int) < (n : Int) := by omega
  have HN : Hid (n = (L ++ s :: R).length) := by show _ = _; omega
  have HD : Hid (V.sides = L ++ s :: R) := hV
  have HLL : Hid (∃ k, k = L.length) := ⟨_, rfl⟩
  obtain ⟨k, hk⟩ := HLL.out
  rw [← hk] at hcell hiz hin ⊢
  have HK : Hid (k = L.length) := hk
  clear hll hnl hn hlen hk HLL hV hown
  have d5 : w.cell? ⟨g, k * 10 + 5, none⟩ = some (.int .i64 s.ep) := hcell 5 (by omega)
  have d6 : w.cell? ⟨g, k * 10 + 5 + 1, none⟩ = some (.int .i64 s.nx) := hcell 6 (by omega)
  have d7 : w.cell? ⟨g, k * 10 + 5 + 2, none⟩ = some s.sv := hcell 7 (by omega)
  have d8 : w.cell? ⟨g, k * 10 + 5 + 3, none⟩ = some s.qv := hcell 8 (by omega)
  have d9 : w.cell? ⟨g, k * 10 + 5 + 4, none⟩ = some (.int .i64 s.hd) := hcell 9 (by omega)
  clear hcell
  go_enter Tryd.func120, Tryd.ntmps120
  go_wp2_with fail
  have hdd : Below w.heap.size w w.drew := ⟨rfl, rfl, rfl, Nat.le_refl _, fun _ _ => rfl⟩
  have cC := cO w.drew
  go_region_law (first | (go_simp; go_at_call 26; with_reducible refine Calls.mono cC ?_; rintro e wz ⟨rfl, hbz⟩; have hbw := below_two hdd hbz (Nat.le_refl _); have hpz := (hbw.block p bl0).trans hblk; have hbkz := blk hpz; obtain ⟨z0, zl0, zf0⟩ := hbkz; have hgz := hbw.block g hgl; have c5 := (World.cell?_of_block (a := ⟨g, k * 10 + 5, none⟩) hgz).trans d5; have c6 := (World.cell?_of_block (a := ⟨g, k * 10 + 5 + 1, none⟩) hgz).trans d6; have c7 := (World.cell?_of_block (a := ⟨g, k * 10 + 5 + 2, none⟩) hgz).trans d7; have c8 := (World.cell?_of_block (a := ⟨g, k * 10 + 5 + 3, none⟩) hgz).trans d8; have c9 := (World.cell?_of_block (a := ⟨g, k * 10 + 5 + 4, none⟩) hgz).trans d9; have fz := fun j => (World.frozen?_of_block (a := ⟨g, j, none⟩) hgz).trans (hfr j)))
  all_goals
    have hWz := hw.below hbw
    obtain ⟨h1, h2, h3⟩ := link_put5 (ep := ep) (nx := 1) (hd := 0) hWz HD.out HK.out (inT_nil frS wz B) (inT_nil frS wz B) (fun _ h => by cases h) (fun _ h => by cases h) (by simp) (by simp)
    have hBB : Below B w wz := hbw.mono (by have := hw.hB; omega)
    have hTT : Typ [140] w wz := Typ.of_below hbw
    generalize (((((wz.setCell ⟨g, k * 10 + 5, none⟩ (.int .i64 ep)).setCell ⟨g, k * 10 + 5 + 1, none⟩ (.int .i64 1)).setCell ⟨g, k * 10 + 5 + 2, none⟩ (.slice none 0 0)).setCell ⟨g, k * 10 + 5 + 3, none⟩ (.slice none 0 0)).setCell ⟨g, k * 10 + 5 + 4, none⟩ (.int .i64 0)) = w5 at *
    go_end0
    exact ⟨rfl, h1, hBB.trans h2, hTT.trans h3⟩

/-- a side's link -/
def sideL (s : SideV) : LinkI := mkL s.ep s.nx s.hd s.S s.Q
/-- what a frame that is sent leaves behind -/
def SentOk (s s' : SideV) (f : FrI) (P : List PkK) : Prop :=
  ((sendR (sideL s) f).2 ≠ 0 ∧ s' = s ∧ P = []) ∨ ((sendR (sideL s) f).2 = 0 ∧ P.map (·.1) = (sendR (sideL s) f).1.2 ∧ ∃ S Q sv qv, s' = linkPut s (sendR (sideL s) f).1.1.epoch (sendR (sideL s) f).1.1.next (sendR (sideL s) f).1.1.heard S Q sv qv ∧ S.map (·.1) = (sendR (sideL s) f).1.1.sent ∧ Q.map (·.1) = (sendR (sideL s) f).1.1.queue)
theorem kept_drewW {X W' : World} {cs : Array Value} {T : TypeId} (hb : Below (X.alloc (.cells cs T)).drew.heap.size (X.alloc (.cells cs T)).drew W') : W'.heap[X.heap.size]? = some (.cells cs T (0, 0)) := (hb.block X.heap.size (show X.heap.size < (X.alloc (.cells cs T)).heap.size by simp)).trans (heap_alloc_new X _)
theorem goK_le (s q : Nat) (n : Int) : goK s q n ≤ q ∧ goK s q n ≤ 8 - s := by unfold goK; omega
theorem packs_len8 (ep hd n : Int) (a : List FrI) (k : Nat) (h : k ≤ 8) : (packs ep hd n (a.take k)).length ≤ 8 := by rw [packs_length, List.length_take]; omega
theorem sendR_small (l : LinkI) (f : FrI) (h1 : ∀ x ∈ l.sent, FrSmall x) (h2 : ∀ x ∈ l.queue, FrSmall x) (hf : FrSmall f) : (∀ x ∈ (sendR l f).1.1.sent, FrSmall x) ∧ (∀ x ∈ (sendR l f).1.1.queue, FrSmall x) ∧ (∀ N, 8 ≤ N → l.sent.length ≤ N → (sendR l f).1.1.sent.length ≤ N) ∧ (sendR l f).1.1.queue.length ≤ l.queue.length + 1 ∧ (sendR l f).1.2.length ≤ 8 := by
  unfold sendR
  by_cases he : lsendErr l f = 0
  · rw [if_pos he]
    have hg := goK_le l.sent.length (l.queue ++ [f]).length l.next
    have hq : ∀ x ∈ l.queue ++ [f], FrSmall x := fun x hx => by
      rcases List.mem_append.1 hx with hx | hx
      · exact h2 x hx
      · rw [List.mem_singleton.1 hx]; exact hf
    unfold sendL LinkI.go
    simp only
    generalize goK l.sent.length (l.queue ++ [f]).length l.next = k at *
    refine ⟨fun x hx => ?_, fun x hx => hq x (List.mem_of_mem_drop hx), ?_, ?_, packs_len8 _ _ _ _ _ (by omega)⟩
    · rcases List.mem_append.1 hx with hx | hx
      · exact h1 x hx
      · exact hq x (List.mem_of_mem_take hx)
    · intro N h8 hN; rw [List.length_append, List.length_take]; omega
    · rw [List.length_drop, List.length_append]; simp
  · rw [if_neg he]
    exact ⟨fun _ h => by simp [link0] at h, fun _ h => by simp [link0] at h, by simp [link0], by simp [link0], by simp⟩
/-- what link.Send answers, laid out -/
structure SendT (w : World) (B : Nat) (S Q : List FrK) (P : List PkK) (sa qa pa : Option Addr) (sc qc pc : Nat) (R : LinkI × List PkI) : Prop where
  inS : InT frS w B (.slice sa S.length sc) S
  eS : S.map (·.1) = R.1.sent
  inQ : InT frS w B (.slice qa Q.length qc) Q
  eQ : Q.map (·.1) = R.1.queue
  inP : InT pkS w B (.slice pa P.length pc) P
  eP : P.map (·.1) = R.2
theorem GoOk.laid {w : World} {B : Nat} {sv qv pv : Value} {R : LinkI × List PkI} (h : GoOk w B B sv qv pv R) : ∃ S Q P sa sc qa qc pa pc, sv = .slice sa S.length sc ∧ qv = .slice qa Q.length qc ∧ pv = .slice pa P.length pc ∧ SendT w B S Q P sa qa pa sc qc pc R := by
  obtain ⟨S, Q, P, q1, q2, q3, q4, q5, q6⟩ := h.ex
  obtain ⟨sa, sc, rfl, _⟩ := q1.row
  obtain ⟨qa, qc, rfl, _⟩ := q3.row
  obtain ⟨pa, pc, rfl⟩ := own_form q5.row
  exact ⟨S, Q, P, sa, sc, qa, qc, pa, pc, rfl, rfl, rfl, q1, q2, q3, q4, q5.inT, q6⟩
theorem SendT.below {w w' : World} {B : Nat} {S Q : List FrK} {P : List PkK} {sa qa pa : Option Addr} {sc qc pc : Nat} {R : LinkI × List PkI} (h : SendT w B S Q P sa qa pa sc qc pc R) (hb : Below w.heap.size w w') : SendT w' B S Q P sa qa pa sc qc pc R := ⟨h.inS.below hb, h.eS, h.inQ.below hb, h.eQ, h.inP.below hb, h.eP⟩
theorem SendT.typ {Ts : List TypeId} {w w' : World} {B : Nat} {S Q : List FrK} {P : List PkK} {sa qa pa : Option Addr} {sc qc pc : Nat} {R : LinkI × List PkI} (h : SendT w B S Q P sa qa pa sc qc pc R) (ht : Typ Ts w w') (h1 : 47 ∉ Ts) (h2 : 102 ∉ Ts) (h3 : 65 ∉ Ts) : SendT w' B S Q P sa qa pa sc qc pc R := ⟨h.inS.typ ht h1 h2, h.eS, h.inQ.typ ht h1 h2, h.eQ, h.inP.typ ht h3 h2, h.eP⟩
theorem SendT.base {w : World} {B B' : Nat} {S Q : List FrK} {P : List PkK} {sa qa pa : Option Addr} {sc qc pc : Nat} {R : LinkI × List PkI} (h : SendT w B S Q P sa qa pa sc qc pc R) (hB : B' ≤ B) : SendT w B' S Q P sa qa pa sc qc pc R := ⟨h.inS.base hB, h.eS, h.inQ.base hB, h.eQ, h.inP.base hB, h.eP⟩
set_option maxRecDepth 100000 in
set_option maxHeartbeats 4000000 in
theorem wsend_any (B p g n c : Nat) (V : TurnV) (uv mv pv rv : Value) (L R : List SideV) (s : SideV) (f : FrI) (v : Value) (w : World) (hw : WorkAt w B p V (.slice (some ⟨g, 0, none⟩) n c) uv mv pv rv) (hV : V.sides = L ++ s :: R) (lS : s.S.length ≤ 1048576) (lQ : s.Q.length ≤ 1048576) (ho : OpVal w v f.op) (hs : FrSmall f) (hv : V.posts.length ≤ 1048576) (hT : Tabs w) :
    Calls Tryd.prog 121 #[.pointer (some ⟨p, 0, none⟩), .int .i64 (L.length : Int), .agg #[.int .i64 f.kind, .int .i64 f.heard, .int .i64 f.epoch, v, .string f.text]] w fun r w' => ∃ s' P pv', r = .returned (.tuple #[]) ∧ WorkAt w' B p { V with sides := L ++ s' :: R, posts := V.posts ++ postsTo s.peer P } (.slice (some ⟨g, 0, none⟩) n c) uv mv pv' rv ∧ SentOk s s' f P ∧ Below B w w' ∧ Typ [134, 140, 93] w w' := by
  obtain ⟨hn, hsd⟩ := hw.turn.sides.sides
  have hsT := hw.turn.sides.each s (by rw [hV]; simp)
  have hown := hw.turn.sides.row
  rw [← hn, hV] at hown
  have hlen : (sidesAll (L ++ s :: R)).length = (L ++ s :: R).length * 10 := sidesAll_length _
  have hnl : n = L.length + 1 + R.length := by rw [hn, hV]; simp; omega
  have hll : (L ++ s :: R).length = L.length + 1 + R.length := by simp; omega
  have hcell : ∀ j, j < 10 → w.cell? ⟨g, L.length * 10 + j, none⟩ = (sideVals s)[j]? := fun j hj => by
    rw [(own_put hown (j := L.length * 10 + j) (by omega) (.int .i64 0)).2.2.2.1, sidesAll_get _ _ _ (by omega) hj]
    simp
  have hfr : ∀ j, w.frozen? ⟨g, j, none⟩ = false := fun j => by
    rcases hown.2 with ⟨e0, _⟩ | ⟨g', cap, cur, ev, _, hg, _⟩
    · cases e0
    · cases ev
      exact (blk hg).2.2 j
  have hgl : g < w.heap.size := (hown.lt g rfl).2
  have cS := fun (w1 : World) (hb : Below w.heap.size w w1) => lsend_any s.ep s.nx s.hd s.S s.Q s.sv s.qv f v w1 ((hsT.inS.below hb).inK) ((hsT.inQ.below hb).inK) hsT.fS hsT.fQ lS lQ (ho.below hb) hs (hT.below hb)
  obtain ⟨ua, uc, rfl, -⟩ := ho.form
  obtain ⟨sa, sc, esv, -⟩ := hsT.inS.row
  obtain ⟨qa, qc, eqv, -⟩ := hsT.inQ.row
  have hiz : (0 : Int) ≤ (L.length : Int) := by omega
  have hin : (L.length : Int) < (n : Int) := by omega
  have HN : Hid (n = (L ++ s :: R).length) := by show _ = _; omega
  have HD : Hid (V.sides = L ++ s :: R) := hV
  have HLL : Hid (∃ k, k = L.length) := ⟨_, rfl⟩
  obtain ⟨k, hk⟩ := HLL.out
  rw [← hk] at hcell hiz hin ⊢
  have HK : Hid (k = L.length) := hk
  clear hll hnl hn hlen hk HLL hV hown
  have d0 : w.cell? ⟨g, k * 10, none⟩ = some (.int .i64 s.peer) := hcell 0 (by omega)
  have d5 : w.cell? ⟨g, k * 10 + 5, none⟩ = some (.int .i64 s.ep) := hcell 5 (by omega)
  have d6 : w.cell? ⟨g, k * 10 + 5 + 1, none⟩ = some (.int .i64 s.nx) := hcell 6 (by omega)
  have d7 : w.cell? ⟨g, k * 10 + 5 + 2, none⟩ = some s.sv := hcell 7 (by omega)
  have d8 : w.cell? ⟨g, k * 10 + 5 + 3, none⟩ = some s.qv := hcell 8 (by omega)
  have d9 : w.cell? ⟨g, k * 10 + 5 + 4, none⟩ = some (.int .i64 s.hd) := hcell 9 (by omega)
  rw [esv] at d7 cS
  rw [eqv] at d8 cS
  have HC : Hid (∀ j, j < 10 → w.cell? ⟨g, k * 10 + j, none⟩ = (sideVals s)[j]?) := hcell
  have HF : Hid (∀ j, w.frozen? ⟨g, j, none⟩ = false) := hfr
  clear hcell hfr esv eqv d0
  have hblk := hw.blk
  obtain ⟨b0, bl0, bf0⟩ := blk hblk
  have hF := heap_alloc_new w (.cells #[.int .i64 f.kind, .int .i64 f.heard, .int .i64 f.epoch, .slice ua f.op.length uc, .string f.text] 47)
  have HB0 := (Below.refl w.heap.size w).alloc (Nat.le_refl _) (.cells #[.int .i64 f.kind, .int .i64 f.heard, .int .i64 f.epoch, .slice ua f.op.length uc, .string f.text] 47)
  obtain ⟨f0, fl0, _⟩ := blk hF
  go_enter Tryd.func121, Tryd.ntmps121
  go_wp2_with fail
  replace d5 := (HB0.cell (p := ⟨g, k * 10 + 5, none⟩) hgl).trans d5
  replace d6 := (HB0.cell (p := ⟨g, k * 10 + 5 + 1, none⟩) hgl).trans d6
  replace d7 := (HB0.cell (p := ⟨g, k * 10 + 5 + 2, none⟩) hgl).trans d7
  replace d8 := (HB0.cell (p := ⟨g, k * 10 + 5 + 3, none⟩) hgl).trans d8
  replace d9 := (HB0.cell (p := ⟨g, k * 10 + 5 + 4, none⟩) hgl).trans d9
  generalize (w.alloc (.cells #[.int .i64 f.kind, .int .i64 f.heard, .int .i64 f.epoch, .slice ua f.op.length uc, .string f.text] 47)) = w0 at *
  have hdd : Below w0.heap.size w0 w0.drew := ⟨rfl, rfl, rfl, Nat.le_refl _, fun _ _ => rfl⟩
  have hd1 := below_two HB0 hdd (Nat.le_refl _)
  have hg0 : g < w0.heap.size := by have := HB0.size; omega
  have hd2 : Below w.heap.size w (w0.alloc (.cells #[.int .i64 0, .int .i64 0, .slice none 0 0, .slice none 0 0, .int .i64 0] 45)).drew := below_two HB0 (((Below.refl _ _).alloc (Nat.le_refl _) _).drew) (Nat.le_refl _)
  have hn2 : (w0.alloc (.cells #[.int .i64 0, .int .i64 0, .slice none 0 0, .slice none 0 0, .int .i64 0] 45)).drew.heap[w0.heap.size]? = some (.cells #[.int .i64 0, .int .i64 0, .slice none 0 0, .slice none 0 0, .int .i64 0] 45 (0, 0)) := heap_alloc_new w0 _
  obtain ⟨R0, hR0⟩ : ∃ R0, sendR (mkL s.ep s.nx s.hd s.S s.Q) f = R0 := ⟨_, rfl⟩
  rw [hR0] at cS
  have HR : Hid (sendR (sideL s) f = R0) := hR0
  obtain ⟨⟨⟨lep, lnx, ls, lq, lhd⟩, lps⟩, er⟩ := R0
  simp only at cS
  have cS2 := fun (w1 : World) (hb : Below w.heap.size w w1) => (cS w1 hb).mono (R' := fun r w' => ∃ S' Q' P' sa' sc' qa' qc' pa' pc', r = .returned (.tuple #[.agg #[.int .i64 lep, .int .i64 lnx, .slice sa' S'.length sc', .slice qa' Q'.length qc', .int .i64 lhd], .slice pa' P'.length pc', .int .i64 er]) ∧ SendT w' w1.heap.size S' Q' P' sa' qa' pa' sc' qc' pc' ((⟨lep, lnx, ls, lq, lhd⟩, lps) : LinkI × List PkI) ∧ Below w1.heap.size w1 w') (by
    rintro r w' ⟨sv, qv, pv, rfl, hG, hb'⟩
    obtain ⟨S', Q', P', sa', sc', qa', qc', pa', pc', rfl, rfl, rfl, hS⟩ := hG.laid
    exact ⟨S', Q', P', sa', sc', qa', qc', pa', pc', rfl, hS, hb'⟩)
  clear hR0 cS
  have hS0 : (fun w' => w'.cell? ⟨g, k * 10 + 5, none⟩ = some (.int .i64 s.ep) ∧ w'.cell? ⟨g, k * 10 + 5 + 1, none⟩ = some (.int .i64 s.nx) ∧ w'.cell? ⟨g, k * 10 + 5 + 2, none⟩ = some (.slice sa s.S.length sc) ∧ w'.cell? ⟨g, k * 10 + 5 + 3, none⟩ = some (.slice qa s.Q.length qc) ∧ w'.cell? ⟨g, k * 10 + 5 + 4, none⟩ = some (.int .i64 s.hd) ∧ w'.cell? ⟨w.heap.size, 0, none⟩ = some (.int .i64 f.kind) ∧ w'.cell? ⟨w.heap.size, 1, none⟩ = some (.int .i64 f.heard) ∧ w'.cell? ⟨w.heap.size, 2, none⟩ = some (.int .i64 f.epoch) ∧ w'.cell? ⟨w.heap.size, 3, none⟩ = some (.slice ua f.op.length uc) ∧ w'.cell? ⟨w.heap.size, 4, none⟩ = some (.string f.text) ∧ Below w0.heap.size w0 w') w0.drew := ⟨d5, d6, d7, d8, d9, f0 0, f0 1, f0 2, f0 3, f0 4, hdd⟩
  have toB : ∀ w', (fun w' => w'.cell? ⟨g, k * 10 + 5, none⟩ = some (.int .i64 s.ep) ∧ w'.cell? ⟨g, k * 10 + 5 + 1, none⟩ = some (.int .i64 s.nx) ∧ w'.cell? ⟨g, k * 10 + 5 + 2, none⟩ = some (.slice sa s.S.length sc) ∧ w'.cell? ⟨g, k * 10 + 5 + 3, none⟩ = some (.slice qa s.Q.length qc) ∧ w'.cell? ⟨g, k * 10 + 5 + 4, none⟩ = some (.int .i64 s.hd) ∧ w'.cell? ⟨w.heap.size, 0, none⟩ = some (.int .i64 f.kind) ∧ w'.cell? ⟨w.heap.size, 1, none⟩ = some (.int .i64 f.heard) ∧ w'.cell? ⟨w.heap.size, 2, none⟩ = some (.int .i64 f.epoch) ∧ w'.cell? ⟨w.heap.size, 3, none⟩ = some (.slice ua f.op.length uc) ∧ w'.cell? ⟨w.heap.size, 4, none⟩ = some (.string f.text) ∧ Below w0.heap.size w0 w') w' → Below w0.heap.size w0 w' := fun _ h => h.2.2.2.2.2.2.2.2.2.2
  have keepB : ∀ {w' w'' : World}, (fun w' => w'.cell? ⟨g, k * 10 + 5, none⟩ = some (.int .i64 s.ep) ∧ w'.cell? ⟨g, k * 10 + 5 + 1, none⟩ = some (.int .i64 s.nx) ∧ w'.cell? ⟨g, k * 10 + 5 + 2, none⟩ = some (.slice sa s.S.length sc) ∧ w'.cell? ⟨g, k * 10 + 5 + 3, none⟩ = some (.slice qa s.Q.length qc) ∧ w'.cell? ⟨g, k * 10 + 5 + 4, none⟩ = some (.int .i64 s.hd) ∧ w'.cell? ⟨w.heap.size, 0, none⟩ = some (.int .i64 f.kind) ∧ w'.cell? ⟨w.heap.size, 1, none⟩ = some (.int .i64 f.heard) ∧ w'.cell? ⟨w.heap.size, 2, none⟩ = some (.int .i64 f.epoch) ∧ w'.cell? ⟨w.heap.size, 3, none⟩ = some (.slice ua f.op.length uc) ∧ w'.cell? ⟨w.heap.size, 4, none⟩ = some (.string f.text) ∧ Below w0.heap.size w0 w') w' → Below w0.heap.size w' w'' → (fun w' => w'.cell? ⟨g, k * 10 + 5, none⟩ = some (.int .i64 s.ep) ∧ w'.cell? ⟨g, k * 10 + 5 + 1, none⟩ = some (.int .i64 s.nx) ∧ w'.cell? ⟨g, k * 10 + 5 + 2, none⟩ = some (.slice sa s.S.length sc) ∧ w'.cell? ⟨g, k * 10 + 5 + 3, none⟩ = some (.slice qa s.Q.length qc) ∧ w'.cell? ⟨g, k * 10 + 5 + 4, none⟩ = some (.int .i64 s.hd) ∧ w'.cell? ⟨w.heap.size, 0, none⟩ = some (.int .i64 f.kind) ∧ w'.cell? ⟨w.heap.size, 1, none⟩ = some (.int .i64 f.heard) ∧ w'.cell? ⟨w.heap.size, 2, none⟩ = some (.int .i64 f.epoch) ∧ w'.cell? ⟨w.heap.size, 3, none⟩ = some (.slice ua f.op.length uc) ∧ w'.cell? ⟨w.heap.size, 4, none⟩ = some (.string f.text) ∧ Below w0.heap.size w0 w') w'' := fun {w' w''} h hb => ⟨(hb.cell (p := ⟨g, k * 10 + 5, none⟩) hg0).trans h.1, (hb.cell (p := ⟨g, k * 10 + 5 + 1, none⟩) hg0).trans h.2.1, (hb.cell (p := ⟨g, k * 10 + 5 + 2, none⟩) hg0).trans h.2.2.1, (hb.cell (p := ⟨g, k * 10 + 5 + 3, none⟩) hg0).trans h.2.2.2.1, (hb.cell (p := ⟨g, k * 10 + 5 + 4, none⟩) hg0).trans h.2.2.2.2.1, (hb.cell (p := ⟨w.heap.size, 0, none⟩) fl0).trans h.2.2.2.2.2.1, (hb.cell (p := ⟨w.heap.size, 1, none⟩) fl0).trans h.2.2.2.2.2.2.1, (hb.cell (p := ⟨w.heap.size, 2, none⟩) fl0).trans h.2.2.2.2.2.2.2.1, (hb.cell (p := ⟨w.heap.size, 3, none⟩) fl0).trans h.2.2.2.2.2.2.2.2.1, (hb.cell (p := ⟨w.heap.size, 4, none⟩) fl0).trans h.2.2.2.2.2.2.2.2.2.1, h.2.2.2.2.2.2.2.2.2.2.trans hb⟩
  have keepC : ∀ {w' w'' : World}, (fun w' => w'.cell? ⟨g, k * 10 + 5, none⟩ = some (.int .i64 s.ep) ∧ w'.cell? ⟨g, k * 10 + 5 + 1, none⟩ = some (.int .i64 s.nx) ∧ w'.cell? ⟨g, k * 10 + 5 + 2, none⟩ = some (.slice sa s.S.length sc) ∧ w'.cell? ⟨g, k * 10 + 5 + 3, none⟩ = some (.slice qa s.Q.length qc) ∧ w'.cell? ⟨g, k * 10 + 5 + 4, none⟩ = some (.int .i64 s.hd) ∧ w'.cell? ⟨w.heap.size, 0, none⟩ = some (.int .i64 f.kind) ∧ w'.cell? ⟨w.heap.size, 1, none⟩ = some (.int .i64 f.heard) ∧ w'.cell? ⟨w.heap.size, 2, none⟩ = some (.int .i64 f.epoch) ∧ w'.cell? ⟨w.heap.size, 3, none⟩ = some (.slice ua f.op.length uc) ∧ w'.cell? ⟨w.heap.size, 4, none⟩ = some (.string f.text) ∧ Below w0.heap.size w0 w') w' → Below w'.heap.size w' w'' → (fun w' => w'.cell? ⟨g, k * 10 + 5, none⟩ = some (.int .i64 s.ep) ∧ w'.cell? ⟨g, k * 10 + 5 + 1, none⟩ = some (.int .i64 s.nx) ∧ w'.cell? ⟨g, k * 10 + 5 + 2, none⟩ = some (.slice sa s.S.length sc) ∧ w'.cell? ⟨g, k * 10 + 5 + 3, none⟩ = some (.slice qa s.Q.length qc) ∧ w'.cell? ⟨g, k * 10 + 5 + 4, none⟩ = some (.int .i64 s.hd) ∧ w'.cell? ⟨w.heap.size, 0, none⟩ = some (.int .i64 f.kind) ∧ w'.cell? ⟨w.heap.size, 1, none⟩ = some (.int .i64 f.heard) ∧ w'.cell? ⟨w.heap.size, 2, none⟩ = some (.int .i64 f.epoch) ∧ w'.cell? ⟨w.heap.size, 3, none⟩ = some (.slice ua f.op.length uc) ∧ w'.cell? ⟨w.heap.size, 4, none⟩ = some (.string f.text) ∧ Below w0.heap.size w0 w') w'' := fun {w' w''} h hb => keepB h ⟨hb.os, hb.tape, hb.output, hb.size, fun k hk => hb.block k (Nat.lt_of_lt_of_le hk (toB w' h).size)⟩
  have keepA : ∀ {w' : World} (o : Obj), (fun w' => w'.cell? ⟨g, k * 10 + 5, none⟩ = some (.int .i64 s.ep) ∧ w'.cell? ⟨g, k * 10 + 5 + 1, none⟩ = some (.int .i64 s.nx) ∧ w'.cell? ⟨g, k * 10 + 5 + 2, none⟩ = some (.slice sa s.S.length sc) ∧ w'.cell? ⟨g, k * 10 + 5 + 3, none⟩ = some (.slice qa s.Q.length qc) ∧ w'.cell? ⟨g, k * 10 + 5 + 4, none⟩ = some (.int .i64 s.hd) ∧ w'.cell? ⟨w.heap.size, 0, none⟩ = some (.int .i64 f.kind) ∧ w'.cell? ⟨w.heap.size, 1, none⟩ = some (.int .i64 f.heard) ∧ w'.cell? ⟨w.heap.size, 2, none⟩ = some (.int .i64 f.epoch) ∧ w'.cell? ⟨w.heap.size, 3, none⟩ = some (.slice ua f.op.length uc) ∧ w'.cell? ⟨w.heap.size, 4, none⟩ = some (.string f.text) ∧ Below w0.heap.size w0 w') w' → (fun w' => w'.cell? ⟨g, k * 10 + 5, none⟩ = some (.int .i64 s.ep) ∧ w'.cell? ⟨g, k * 10 + 5 + 1, none⟩ = some (.int .i64 s.nx) ∧ w'.cell? ⟨g, k * 10 + 5 + 2, none⟩ = some (.slice sa s.S.length sc) ∧ w'.cell? ⟨g, k * 10 + 5 + 3, none⟩ = some (.slice qa s.Q.length qc) ∧ w'.cell? ⟨g, k * 10 + 5 + 4, none⟩ = some (.int .i64 s.hd) ∧ w'.cell? ⟨w.heap.size, 0, none⟩ = some (.int .i64 f.kind) ∧ w'.cell? ⟨w.heap.size, 1, none⟩ = some (.int .i64 f.heard) ∧ w'.cell? ⟨w.heap.size, 2, none⟩ = some (.int .i64 f.epoch) ∧ w'.cell? ⟨w.heap.size, 3, none⟩ = some (.slice ua f.op.length uc) ∧ w'.cell? ⟨w.heap.size, 4, none⟩ = some (.string f.text) ∧ Below w0.heap.size w0 w') (w'.alloc o) := fun {w'} o h => keepC h ((Below.refl _ w').alloc (Nat.le_refl _) o)
  have keepD : ∀ {w' : World} (o : Obj), (fun w' => w'.cell? ⟨g, k * 10 + 5, none⟩ = some (.int .i64 s.ep) ∧ w'.cell? ⟨g, k * 10 + 5 + 1, none⟩ = some (.int .i64 s.nx) ∧ w'.cell? ⟨g, k * 10 + 5 + 2, none⟩ = some (.slice sa s.S.length sc) ∧ w'.cell? ⟨g, k * 10 + 5 + 3, none⟩ = some (.slice qa s.Q.length qc) ∧ w'.cell? ⟨g, k * 10 + 5 + 4, none⟩ = some (.int .i64 s.hd) ∧ w'.cell? ⟨w.heap.size, 0, none⟩ = some (.int .i64 f.kind) ∧ w'.cell? ⟨w.heap.size, 1, none⟩ = some (.int .i64 f.heard) ∧ w'.cell? ⟨w.heap.size, 2, none⟩ = some (.int .i64 f.epoch) ∧ w'.cell? ⟨w.heap.size, 3, none⟩ = some (.slice ua f.op.length uc) ∧ w'.cell? ⟨w.heap.size, 4, none⟩ = some (.string f.text) ∧ Below w0.heap.size w0 w') w'.drew → (fun w' => w'.cell? ⟨g, k * 10 + 5, none⟩ = some (.int .i64 s.ep) ∧ w'.cell? ⟨g, k * 10 + 5 + 1, none⟩ = some (.int .i64 s.nx) ∧ w'.cell? ⟨g, k * 10 + 5 + 2, none⟩ = some (.slice sa s.S.length sc) ∧ w'.cell? ⟨g, k * 10 + 5 + 3, none⟩ = some (.slice qa s.Q.length qc) ∧ w'.cell? ⟨g, k * 10 + 5 + 4, none⟩ = some (.int .i64 s.hd) ∧ w'.cell? ⟨w.heap.size, 0, none⟩ = some (.int .i64 f.kind) ∧ w'.cell? ⟨w.heap.size, 1, none⟩ = some (.int .i64 f.heard) ∧ w'.cell? ⟨w.heap.size, 2, none⟩ = some (.int .i64 f.epoch) ∧ w'.cell? ⟨w.heap.size, 3, none⟩ = some (.slice ua f.op.length uc) ∧ w'.cell? ⟨w.heap.size, 4, none⟩ = some (.string f.text) ∧ Below w0.heap.size w0 w') (w'.alloc o).drew := fun {w'} o h => keepC h ⟨rfl, rfl, rfl, by show w'.heap.size ≤ (w'.alloc o).heap.size; simp, fun k hk => Below.heap_alloc w' o k hk⟩
  have toBh : Hid (∀ w', (fun w' => w'.cell? ⟨g, k * 10 + 5, none⟩ = some (.int .i64 s.ep) ∧ w'.cell? ⟨g, k * 10 + 5 + 1, none⟩ = some (.int .i64 s.nx) ∧ w'.cell? ⟨g, k * 10 + 5 + 2, none⟩ = some (.slice sa s.S.length sc) ∧ w'.cell? ⟨g, k * 10 + 5 + 3, none⟩ = some (.slice qa s.Q.length qc) ∧ w'.cell? ⟨g, k * 10 + 5 + 4, none⟩ = some (.int .i64 s.hd) ∧ w'.cell? ⟨w.heap.size, 0, none⟩ = some (.int .i64 f.kind) ∧ w'.cell? ⟨w.heap.size, 1, none⟩ = some (.int .i64 f.heard) ∧ w'.cell? ⟨w.heap.size, 2, none⟩ = some (.int .i64 f.epoch) ∧ w'.cell? ⟨w.heap.size, 3, none⟩ = some (.slice ua f.op.length uc) ∧ w'.cell? ⟨w.heap.size, 4, none⟩ = some (.string f.text) ∧ Below w0.heap.size w0 w') w' → Below w0.heap.size w0 w') := toB
  have keepBh : Hid (∀ {w' w'' : World}, (fun w' => w'.cell? ⟨g, k * 10 + 5, none⟩ = some (.int .i64 s.ep) ∧ w'.cell? ⟨g, k * 10 + 5 + 1, none⟩ = some (.int .i64 s.nx) ∧ w'.cell? ⟨g, k * 10 + 5 + 2, none⟩ = some (.slice sa s.S.length sc) ∧ w'.cell? ⟨g, k * 10 + 5 + 3, none⟩ = some (.slice qa s.Q.length qc) ∧ w'.cell? ⟨g, k * 10 + 5 + 4, none⟩ = some (.int .i64 s.hd) ∧ w'.cell? ⟨w.heap.size, 0, none⟩ = some (.int .i64 f.kind) ∧ w'.cell? ⟨w.heap.size, 1, none⟩ = some (.int .i64 f.heard) ∧ w'.cell? ⟨w.heap.size, 2, none⟩ = some (.int .i64 f.epoch) ∧ w'.cell? ⟨w.heap.size, 3, none⟩ = some (.slice ua f.op.length uc) ∧ w'.cell? ⟨w.heap.size, 4, none⟩ = some (.string f.text) ∧ Below w0.heap.size w0 w') w' → Below w0.heap.size w' w'' → (fun w' => w'.cell? ⟨g, k * 10 + 5, none⟩ = some (.int .i64 s.ep) ∧ w'.cell? ⟨g, k * 10 + 5 + 1, none⟩ = some (.int .i64 s.nx) ∧ w'.cell? ⟨g, k * 10 + 5 + 2, none⟩ = some (.slice sa s.S.length sc) ∧ w'.cell? ⟨g, k * 10 + 5 + 3, none⟩ = some (.slice qa s.Q.length qc) ∧ w'.cell? ⟨g, k * 10 + 5 + 4, none⟩ = some (.int .i64 s.hd) ∧ w'.cell? ⟨w.heap.size, 0, none⟩ = some (.int .i64 f.kind) ∧ w'.cell? ⟨w.heap.size, 1, none⟩ = some (.int .i64 f.heard) ∧ w'.cell? ⟨w.heap.size, 2, none⟩ = some (.int .i64 f.epoch) ∧ w'.cell? ⟨w.heap.size, 3, none⟩ = some (.slice ua f.op.length uc) ∧ w'.cell? ⟨w.heap.size, 4, none⟩ = some (.string f.text) ∧ Below w0.heap.size w0 w') w'') := keepB
  have keepCh : Hid (∀ {w' w'' : World}, (fun w' => w'.cell? ⟨g, k * 10 + 5, none⟩ = some (.int .i64 s.ep) ∧ w'.cell? ⟨g, k * 10 + 5 + 1, none⟩ = some (.int .i64 s.nx) ∧ w'.cell? ⟨g, k * 10 + 5 + 2, none⟩ = some (.slice sa s.S.length sc) ∧ w'.cell? ⟨g, k * 10 + 5 + 3, none⟩ = some (.slice qa s.Q.length qc) ∧ w'.cell? ⟨g, k * 10 + 5 + 4, none⟩ = some (.int .i64 s.hd) ∧ w'.cell? ⟨w.heap.size, 0, none⟩ = some (.int .i64 f.kind) ∧ w'.cell? ⟨w.heap.size, 1, none⟩ = some (.int .i64 f.heard) ∧ w'.cell? ⟨w.heap.size, 2, none⟩ = some (.int .i64 f.epoch) ∧ w'.cell? ⟨w.heap.size, 3, none⟩ = some (.slice ua f.op.length uc) ∧ w'.cell? ⟨w.heap.size, 4, none⟩ = some (.string f.text) ∧ Below w0.heap.size w0 w') w' → Below w'.heap.size w' w'' → (fun w' => w'.cell? ⟨g, k * 10 + 5, none⟩ = some (.int .i64 s.ep) ∧ w'.cell? ⟨g, k * 10 + 5 + 1, none⟩ = some (.int .i64 s.nx) ∧ w'.cell? ⟨g, k * 10 + 5 + 2, none⟩ = some (.slice sa s.S.length sc) ∧ w'.cell? ⟨g, k * 10 + 5 + 3, none⟩ = some (.slice qa s.Q.length qc) ∧ w'.cell? ⟨g, k * 10 + 5 + 4, none⟩ = some (.int .i64 s.hd) ∧ w'.cell? ⟨w.heap.size, 0, none⟩ = some (.int .i64 f.kind) ∧ w'.cell? ⟨w.heap.size, 1, none⟩ = some (.int .i64 f.heard) ∧ w'.cell? ⟨w.heap.size, 2, none⟩ = some (.int .i64 f.epoch) ∧ w'.cell? ⟨w.heap.size, 3, none⟩ = some (.slice ua f.op.length uc) ∧ w'.cell? ⟨w.heap.size, 4, none⟩ = some (.string f.text) ∧ Below w0.heap.size w0 w') w'') := keepC
  have keepAh : Hid (∀ {w' : World} (o : Obj), (fun w' => w'.cell? ⟨g, k * 10 + 5, none⟩ = some (.int .i64 s.ep) ∧ w'.cell? ⟨g, k * 10 + 5 + 1, none⟩ = some (.int .i64 s.nx) ∧ w'.cell? ⟨g, k * 10 + 5 + 2, none⟩ = some (.slice sa s.S.length sc) ∧ w'.cell? ⟨g, k * 10 + 5 + 3, none⟩ = some (.slice qa s.Q.length qc) ∧ w'.cell? ⟨g, k * 10 + 5 + 4, none⟩ = some (.int .i64 s.hd) ∧ w'.cell? ⟨w.heap.size, 0, none⟩ = some (.int .i64 f.kind) ∧ w'.cell? ⟨w.heap.size, 1, none⟩ = some (.int .i64 f.heard) ∧ w'.cell? ⟨w.heap.size, 2, none⟩ = some (.int .i64 f.epoch) ∧ w'.cell? ⟨w.heap.size, 3, none⟩ = some (.slice ua f.op.length uc) ∧ w'.cell? ⟨w.heap.size, 4, none⟩ = some (.string f.text) ∧ Below w0.heap.size w0 w') w' → (fun w' => w'.cell? ⟨g, k * 10 + 5, none⟩ = some (.int .i64 s.ep) ∧ w'.cell? ⟨g, k * 10 + 5 + 1, none⟩ = some (.int .i64 s.nx) ∧ w'.cell? ⟨g, k * 10 + 5 + 2, none⟩ = some (.slice sa s.S.length sc) ∧ w'.cell? ⟨g, k * 10 + 5 + 3, none⟩ = some (.slice qa s.Q.length qc) ∧ w'.cell? ⟨g, k * 10 + 5 + 4, none⟩ = some (.int .i64 s.hd) ∧ w'.cell? ⟨w.heap.size, 0, none⟩ = some (.int .i64 f.kind) ∧ w'.cell? ⟨w.heap.size, 1, none⟩ = some (.int .i64 f.heard) ∧ w'.cell? ⟨w.heap.size, 2, none⟩ = some (.int .i64 f.epoch) ∧ w'.cell? ⟨w.heap.size, 3, none⟩ = some (.slice ua f.op.length uc) ∧ w'.cell? ⟨w.heap.size, 4, none⟩ = some (.string f.text) ∧ Below w0.heap.size w0 w') (w'.alloc o)) := keepA
  have keepDh : Hid (∀ {w' : World} (o : Obj), (fun w' => w'.cell? ⟨g, k * 10 + 5, none⟩ = some (.int .i64 s.ep) ∧ w'.cell? ⟨g, k * 10 + 5 + 1, none⟩ = some (.int .i64 s.nx) ∧ w'.cell? ⟨g, k * 10 + 5 + 2, none⟩ = some (.slice sa s.S.length sc) ∧ w'.cell? ⟨g, k * 10 + 5 + 3, none⟩ = some (.slice qa s.Q.length qc) ∧ w'.cell? ⟨g, k * 10 + 5 + 4, none⟩ = some (.int .i64 s.hd) ∧ w'.cell? ⟨w.heap.size, 0, none⟩ = some (.int .i64 f.kind) ∧ w'.cell? ⟨w.heap.size, 1, none⟩ = some (.int .i64 f.heard) ∧ w'.cell? ⟨w.heap.size, 2, none⟩ = some (.int .i64 f.epoch) ∧ w'.cell? ⟨w.heap.size, 3, none⟩ = some (.slice ua f.op.length uc) ∧ w'.cell? ⟨w.heap.size, 4, none⟩ = some (.string f.text) ∧ Below w0.heap.size w0 w') w'.drew → (fun w' => w'.cell? ⟨g, k * 10 + 5, none⟩ = some (.int .i64 s.ep) ∧ w'.cell? ⟨g, k * 10 + 5 + 1, none⟩ = some (.int .i64 s.nx) ∧ w'.cell? ⟨g, k * 10 + 5 + 2, none⟩ = some (.slice sa s.S.length sc) ∧ w'.cell? ⟨g, k * 10 + 5 + 3, none⟩ = some (.slice qa s.Q.length qc) ∧ w'.cell? ⟨g, k * 10 + 5 + 4, none⟩ = some (.int .i64 s.hd) ∧ w'.cell? ⟨w.heap.size, 0, none⟩ = some (.int .i64 f.kind) ∧ w'.cell? ⟨w.heap.size, 1, none⟩ = some (.int .i64 f.heard) ∧ w'.cell? ⟨w.heap.size, 2, none⟩ = some (.int .i64 f.epoch) ∧ w'.cell? ⟨w.heap.size, 3, none⟩ = some (.slice ua f.op.length uc) ∧ w'.cell? ⟨w.heap.size, 4, none⟩ = some (.string f.text) ∧ Below w0.heap.size w0 w') (w'.alloc o).drew) := keepD
  clear toB keepB keepC keepA keepD
  have szd : w0.heap.size ≤ w0.drew.heap.size := Nat.le_refl _
  have szd2 : w0.heap.size ≤ w0.heap.size := Nat.le_refl _
  clear d5 d6 d7 d8 d9 f0 hd1 hd2 hn2
  go_region_held3 (fun w' => w'.cell? ⟨g, k * 10 + 5, none⟩ = some (.int .i64 s.ep) ∧ w'.cell? ⟨g, k * 10 + 5 + 1, none⟩ = some (.int .i64 s.nx) ∧ w'.cell? ⟨g, k * 10 + 5 + 2, none⟩ = some (.slice sa s.S.length sc) ∧ w'.cell? ⟨g, k * 10 + 5 + 3, none⟩ = some (.slice qa s.Q.length qc) ∧ w'.cell? ⟨g, k * 10 + 5 + 4, none⟩ = some (.int .i64 s.hd) ∧ w'.cell? ⟨w.heap.size, 0, none⟩ = some (.int .i64 f.kind) ∧ w'.cell? ⟨w.heap.size, 1, none⟩ = some (.int .i64 f.heard) ∧ w'.cell? ⟨w.heap.size, 2, none⟩ = some (.int .i64 f.epoch) ∧ w'.cell? ⟨w.heap.size, 3, none⟩ = some (.slice ua f.op.length uc) ∧ w'.cell? ⟨w.heap.size, 4, none⟩ = some (.string f.text) ∧ Below w0.heap.size w0 w') (with_reducible first | exact hS0 | exact keepDh.out _ hS0 | assumption | exact keepCh.out (by assumption) hbv | exact keepAh.out _ (by assumption) | exact keepAh.out _ hSv | exact keepBh.out (by assumption) ((((((Below.refl _ _).setCell (by first | exact szv | exact szd | exact szd2) _).setCell (by first | exact szv | exact szd | exact szd2) _).setCell (by first | exact szv | exact szd | exact szd2) _).setCell (by first | exact szv | exact szd | exact szd2) _).setCell (by first | exact szv | exact szd | exact szd2) _)) (first | (go_at_call 21; with_reducible refine Calls.mono (cS2 _ (below_two HB0 (toBh.out _ (by assumption)) (Nat.le_refl _))) ?_; rintro e wv ⟨S', Q', P', sa', sc', qa', qc', pa', pc', rfl, hG, hbv⟩; have hSv := keepCh.out (by assumption) hbv; have szv := Nat.le_trans (toBh.out _ (by assumption)).size hbv.size; (first | have nv := kept_drewW hbv | skip); (first | (have hnf := blk nv; obtain ⟨n0, nl0, nf0⟩ := hnf) | skip)))
  · have HBv := toBh.out _ hSv
    have hba := (Below.refl wv.heap.size wv).alloc (Nat.le_refl _) (.cells #[.int .i64 lep, .int .i64 lnx, .slice sa' S'.length sc', .slice qa' Q'.length qc', .int .i64 lhd] 45)
    have hN6 := heap_alloc_new wv (.cells #[.int .i64 lep, .int .i64 lnx, .slice sa' S'.length sc', .slice qa' Q'.length qc', .int .i64 lhd] 45)
    have HBW6 := below_two HBv hba (Nat.le_refl _)
    have hG6 := (hG.base (show B ≤ w0.drew.heap.size by have := hw.hB; have := heap_lt hw.blk; have := HB0.size; show B ≤ w0.heap.size; omega)).below hba
    clear hG hba hSv hbv szd szd2 HBv
    generalize (wv.alloc (.cells #[.int .i64 lep, .int .i64 lnx, .slice sa' S'.length sc', .slice qa' Q'.length qc', .int .i64 lhd] 45)) = w6 at *
    have HB6 := below_two HB0 HBW6 (Nat.le_refl _)
    have hW6 := hw.below HB6
    have hz6 := HB6.size
    have hBw : B ≤ w.heap.size := by have := hw.hB; have := heap_lt hw.blk; omega
    clear toBh keepAh keepBh keepCh keepDh HB0 hF fl0 hdd cS2 hg0 bf0 b0 hblk
    by_cases he : er = 0
    · subst he
      have hsm := sendR_small (sideL s) f (fun x hx => by obtain ⟨y, hy, rfl⟩ := List.mem_map.1 hx; exact hsT.fS y hy) (fun x hx => by obtain ⟨y, hy, rfl⟩ := List.mem_map.1 hx; exact hsT.fQ y hy) hs
      have hso : SentOk s (linkPut s lep lnx lhd S' Q' (.slice sa' S'.length sc') (.slice qa' Q'.length qc')) f P' := .inr ⟨by rw [HR.out], by rw [HR.out]; exact hG6.eP, S', Q', _, _, by rw [HR.out], by rw [HR.out]; exact hG6.eS, by rw [HR.out]; exact hG6.eQ⟩
      rw [HR.out] at hsm
      obtain ⟨m1, m2, m3, m4, m5⟩ := hsm
      have m3 := m3 1048577 (by omega)
      have hlS : S'.length = ls.length := by have := congrArg List.length hG6.eS; simpa using this
      have hlQ : Q'.length = lq.length := by have := congrArg List.length hG6.eQ; simpa using this
      have hlP : P'.length ≤ 8 := by have := congrArg List.length hG6.eP; simp at this m5; omega
      have e1 : (sideL s).sent.length = s.S.length := by simp [sideL, mkL]
      have e2 : (sideL s).queue.length = s.Q.length := by simp [sideL, mkL]
      simp only [e1, e2] at m3 m4
      obtain ⟨h1, h2, h3⟩ := link_put5 (ep := lep) (nx := lnx) (hd := lhd) hW6 HD.out HK.out hG6.inS hG6.inQ (fun x hx => m1 x.1 (by rw [← hG6.eS]; exact List.mem_map_of_mem hx)) (fun x hx => m2 x.1 (by rw [← hG6.eQ]; exact List.mem_map_of_mem hx)) (by omega) (by omega)
      have hP7 := hG6.inP.typ h3 (by decide) (by decide)
      have cP := post_any B p { V with sides := L ++ linkPut s lep lnx lhd S' Q' (.slice sa' S'.length sc') (.slice qa' Q'.length qc') :: R } (.slice (some ⟨g, 0, none⟩) n c) uv mv pv rv s.peer pa' pc' P' _ h1 hP7 (by omega) hv
      have q5 : w6.cell? ⟨g, k * 10 + 5, none⟩ = some (.int .i64 s.ep) := (HB6.cell (p := ⟨g, k * 10 + 5, none⟩) hgl).trans (HC.out 5 (by omega))
      have q6 : w6.cell? ⟨g, k * 10 + 5 + 1, none⟩ = some (.int .i64 s.nx) := (HB6.cell (p := ⟨g, k * 10 + 5 + 1, none⟩) hgl).trans (HC.out 6 (by omega))
      have q7 : w6.cell? ⟨g, k * 10 + 5 + 2, none⟩ = some s.sv := (HB6.cell (p := ⟨g, k * 10 + 5 + 2, none⟩) hgl).trans (HC.out 7 (by omega))
      have q8 : w6.cell? ⟨g, k * 10 + 5 + 3, none⟩ = some s.qv := (HB6.cell (p := ⟨g, k * 10 + 5 + 3, none⟩) hgl).trans (HC.out 8 (by omega))
      have q9 : w6.cell? ⟨g, k * 10 + 5 + 4, none⟩ = some (.int .i64 s.hd) := (HB6.cell (p := ⟨g, k * 10 + 5 + 4, none⟩) hgl).trans (HC.out 9 (by omega))
      have q0 : w6.cell? ⟨g, k * 10, none⟩ = some (.int .i64 s.peer) := (HB6.cell (p := ⟨g, k * 10, none⟩) hgl).trans (HC.out 0 (by omega))
      have qf : ∀ j, w6.frozen? ⟨g, j, none⟩ = false := fun j => (World.frozen?_of_block (a := ⟨g, j, none⟩) (HB6.block g hgl)).trans (HF.out j)
      obtain ⟨l0, ll0, _⟩ := blk hN6
      have tt := ((Typ.of_below (Ts := [134, 140, 93]) HB6).trans (h3.more (Us := [134, 140, 93]) (by decide)))
      have hBB := (HB6.mono hBw).trans h2
      clear hlS hlQ e1 e2 m1 m2 m3 m4 m5 hG6 hP7 h1 h2 h3 HB6 HBW6 hW6
      go_wp2_with fail
      refine cP.mono ?_
      rintro r w8 ⟨rfl, pv8, hW8, hB8, ht8⟩
      go_wp2_with fail
      go_end0
      exact ⟨_, P', pv8, rfl, hW8, hso, hBB.trans hB8, tt.trans (ht8.more (by decide))⟩
    · have g1 : (er != 0) = true := by simpa using he
      have hEq : Hid ({ V with sides := L ++ s :: R, posts := V.posts ++ postsTo s.peer [] } = V) := by show _ = _; rw [← HD.out]; simp [postsTo]
      have hso : SentOk s s f [] := .inl ⟨by rw [HR.out]; exact he, rfl, rfl⟩
      have hBB := HB6.mono hBw
      have tt := Typ.of_below (Ts := [134, 140, 93]) HB6
      clear hG6 HB6 HBW6 he
      go_wp2_with fail
      refine bodyPost_ret (results_none rfl _ _ _) rfl ?_
      exact ⟨s, [], pv, rfl, by rw [hEq.out]; exact hW6, hso, hBB, tt⟩
  · have HBv := toBh.out _ hSv
    obtain ⟨hN6, hch⟩ := puts_all nv [.int .i64 lep, .int .i64 lnx, .slice sa' S'.length sc', .slice qa' Q'.length qc', .int .i64 lhd] rfl
    simp only [puts, Nat.zero_add, Nat.reduceAdd] at hN6 hch
    have HBW6 := HBv.trans (hch.below (B := w0.heap.size) (fun i e => by omega) HBv.size)
    have hG6 := (hG.base (show B ≤ (w0.alloc (.cells #[.int .i64 0, .int .i64 0, .slice none 0 0, .slice none 0 0, .int .i64 0] 45)).drew.heap.size by have := hw.hB; have := heap_lt hw.blk; have := HB0.size; show B ≤ (w0.alloc (.cells #[.int .i64 0, .int .i64 0, .slice none 0 0, .slice none 0 0, .int .i64 0] 45)).heap.size; simp; omega)).typ (Typ.stored (Ts := [45]) nv (by decide) hch) (by decide) (by decide) (by decide)
    clear hG hSv hbv szd szd2 HBv hch nv n0 nl0 nf0
    generalize (((((wv.setCell ⟨w0.heap.size, 0, none⟩ (.int .i64 lep)).setCell ⟨w0.heap.size, 1, none⟩ (.int .i64 lnx)).setCell ⟨w0.heap.size, 2, none⟩ (.slice sa' S'.length sc')).setCell ⟨w0.heap.size, 3, none⟩ (.slice qa' Q'.length qc')).setCell ⟨w0.heap.size, 4, none⟩ (.int .i64 lhd)) = w6 at *
    have HB6 := below_two HB0 HBW6 (Nat.le_refl _)
    have hW6 := hw.below HB6
    have hz6 := HB6.size
    have hBw : B ≤ w.heap.size := by have := hw.hB; have := heap_lt hw.blk; omega
    clear toBh keepAh keepBh keepCh keepDh HB0 hF fl0 hdd cS2 hg0 bf0 b0 hblk
    by_cases he : er = 0
    · subst he
      have hsm := sendR_small (sideL s) f (fun x hx => by obtain ⟨y, hy, rfl⟩ := List.mem_map.1 hx; exact hsT.fS y hy) (fun x hx => by obtain ⟨y, hy, rfl⟩ := List.mem_map.1 hx; exact hsT.fQ y hy) hs
      have hso : SentOk s (linkPut s lep lnx lhd S' Q' (.slice sa' S'.length sc') (.slice qa' Q'.length qc')) f P' := .inr ⟨by rw [HR.out], by rw [HR.out]; exact hG6.eP, S', Q', _, _, by rw [HR.out], by rw [HR.out]; exact hG6.eS, by rw [HR.out]; exact hG6.eQ⟩
      rw [HR.out] at hsm
      obtain ⟨m1, m2, m3, m4, m5⟩ := hsm
      have m3 := m3 1048577 (by omega)
      have hlS : S'.length = ls.length := by have := congrArg List.length hG6.eS; simpa using this
      have hlQ : Q'.length = lq.length := by have := congrArg List.length hG6.eQ; simpa using this
      have hlP : P'.length ≤ 8 := by have := congrArg List.length hG6.eP; simp at this m5; omega
      have e1 : (sideL s).sent.length = s.S.length := by simp [sideL, mkL]
      have e2 : (sideL s).queue.length = s.Q.length := by simp [sideL, mkL]
      simp only [e1, e2] at m3 m4
      obtain ⟨h1, h2, h3⟩ := link_put5 (ep := lep) (nx := lnx) (hd := lhd) hW6 HD.out HK.out hG6.inS hG6.inQ (fun x hx => m1 x.1 (by rw [← hG6.eS]; exact List.mem_map_of_mem hx)) (fun x hx => m2 x.1 (by rw [← hG6.eQ]; exact List.mem_map_of_mem hx)) (by omega) (by omega)
      have hP7 := hG6.inP.typ h3 (by decide) (by decide)
      have cP := post_any B p { V with sides := L ++ linkPut s lep lnx lhd S' Q' (.slice sa' S'.length sc') (.slice qa' Q'.length qc') :: R } (.slice (some ⟨g, 0, none⟩) n c) uv mv pv rv s.peer pa' pc' P' _ h1 hP7 (by omega) hv
      have q5 : w6.cell? ⟨g, k * 10 + 5, none⟩ = some (.int .i64 s.ep) := (HB6.cell (p := ⟨g, k * 10 + 5, none⟩) hgl).trans (HC.out 5 (by omega))
      have q6 : w6.cell? ⟨g, k * 10 + 5 + 1, none⟩ = some (.int .i64 s.nx) := (HB6.cell (p := ⟨g, k * 10 + 5 + 1, none⟩) hgl).trans (HC.out 6 (by omega))
      have q7 : w6.cell? ⟨g, k * 10 + 5 + 2, none⟩ = some s.sv := (HB6.cell (p := ⟨g, k * 10 + 5 + 2, none⟩) hgl).trans (HC.out 7 (by omega))
      have q8 : w6.cell? ⟨g, k * 10 + 5 + 3, none⟩ = some s.qv := (HB6.cell (p := ⟨g, k * 10 + 5 + 3, none⟩) hgl).trans (HC.out 8 (by omega))
      have q9 : w6.cell? ⟨g, k * 10 + 5 + 4, none⟩ = some (.int .i64 s.hd) := (HB6.cell (p := ⟨g, k * 10 + 5 + 4, none⟩) hgl).trans (HC.out 9 (by omega))
      have q0 : w6.cell? ⟨g, k * 10, none⟩ = some (.int .i64 s.peer) := (HB6.cell (p := ⟨g, k * 10, none⟩) hgl).trans (HC.out 0 (by omega))
      have qf : ∀ j, w6.frozen? ⟨g, j, none⟩ = false := fun j => (World.frozen?_of_block (a := ⟨g, j, none⟩) (HB6.block g hgl)).trans (HF.out j)
      obtain ⟨l0, ll0, _⟩ := blk hN6
      have tt := ((Typ.of_below (Ts := [134, 140, 93]) HB6).trans (h3.more (Us := [134, 140, 93]) (by decide)))
      have hBB := (HB6.mono hBw).trans h2
      clear hlS hlQ e1 e2 m1 m2 m3 m4 m5 hG6 hP7 h1 h2 h3 HB6 HBW6 hW6
      go_wp2_with fail
      refine cP.mono ?_
      rintro r w8 ⟨rfl, pv8, hW8, hB8, ht8⟩
      go_wp2_with fail
      go_end0
      exact ⟨_, P', pv8, rfl, hW8, hso, hBB.trans hB8, tt.trans (ht8.more (by decide))⟩
    · have g1 : (er != 0) = true := by simpa using he
      have hEq : Hid ({ V with sides := L ++ s :: R, posts := V.posts ++ postsTo s.peer [] } = V) := by show _ = _; rw [← HD.out]; simp [postsTo]
      have hso : SentOk s s f [] := .inl ⟨by rw [HR.out]; exact he, rfl, rfl⟩
      have hBB := HB6.mono hBw
      have tt := Typ.of_below (Ts := [134, 140, 93]) HB6
      clear hG6 HB6 HBW6 he
      go_wp2_with fail
      refine bodyPost_ret (results_none rfl _ _ _) rfl ?_
      exact ⟨s, [], pv, rfl, by rw [hEq.out]; exact hW6, hso, hBB, tt⟩

end Go.Proofs.YtpgcjpiabciekaaDoor
