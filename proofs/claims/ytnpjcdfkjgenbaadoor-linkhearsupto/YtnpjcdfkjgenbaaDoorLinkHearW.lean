/-
  Walk: link.Hear.
-/
import Derived.Test.YtnpjcdfkjgenbaaDoorLinkHear
namespace Go.Proofs.YtnpjcdfkjgenbaaDoor
open Go.RowKit Go.Lib

theorem lhearErr_zero {ep nx hd : Int} {S Q : List FrK} {p : PkI} (h : lhearErr (mkL ep nx hd S Q) p = 0) : linkErr (mkL ep nx hd S Q) = 0 ∧ p.err = 0 ∧ ep ≠ 0 ∧ p.epoch = ep := by
  unfold lhearErr at h
  have e1 : (mkL ep nx hd S Q).epoch = ep := rfl
  rw [e1] at h
  by_cases h1 : linkErr (mkL ep nx hd S Q) = 0
  · rw [if_neg (by simpa using h1)] at h
    by_cases h3 : p.err = 0
    · rw [if_neg (by simpa using h3)] at h
      by_cases h2 : ep = 0 ∨ p.epoch ≠ ep
      · rw [if_pos h2] at h; cases h
      · exact ⟨h1, h3, fun e => h2 (.inl e), Classical.byContradiction fun e => h2 (.inr e)⟩
    · rw [if_pos h3] at h; exact absurd h h3
  · rw [if_pos h1] at h; exact absurd h h1
theorem pkErr_bounds {p : PkI} (h : p.err = 0) : (0 ≤ p.number ∧ p.number ≤ 1048576) ∧ (0 ≤ p.ack ∧ p.ack ≤ 1048576) := by
  unfold PkI.err packetErr at h
  by_cases h1 : inN p.epoch = false
  · rw [if_pos h1] at h; cases h
  by_cases h2 : inN p.number = false
  · rw [if_neg h1, if_pos h2] at h; cases h
  by_cases h3 : inN p.ack = false
  · rw [if_neg h1, if_neg h2, if_pos h3] at h; cases h
  have g2 : inN p.number = true := by simpa using h2
  have g3 : inN p.ack = true := by simpa using h3
  exact ⟨of_decide_eq_true g2, of_decide_eq_true g3⟩

/-- a store into a block of another type -/
theorem LinkRows.stored {w w' : World} {B : Nat} {sv qv : Value} {S0 Q0 : List FrI} {b : Nat} {cs : Array Value} {T : TypeId} (h : LinkRows w B sv qv S0 Q0) (hb : w.heap[b]? = some (.cells cs T (0, 0))) (h1 : T ≠ 28) (h2 : T ≠ 63) (hc : Chg (fun k => k = b) w w') : LinkRows w' B sv qv S0 Q0 := by
  obtain ⟨S, Q, m, a1, a2, a3, a4, a5, a6, a7⟩ := h.ex
  exact ⟨S, Q, m, a1.stored hb h1 h2 hc, a2, a3, a4.stored hb h1 h2 hc, a5, a6, Nat.le_trans a7 hc.size⟩
theorem LinkRows.below {w w' : World} {B : Nat} {sv qv : Value} {S0 Q0 : List FrI} (h : LinkRows w B sv qv S0 Q0) (hb : Below w.heap.size w w') : LinkRows w' B sv qv S0 Q0 := by
  obtain ⟨S, Q, m, a1, a2, a3, a4, a5, a6, a7⟩ := h.ex
  exact ⟨S, Q, m, a1.below hb, a2, a3, a4.below hb, a5, a6, Nat.le_trans a7 hb.size⟩
theorem LinkRows.forms {w : World} {B : Nat} {sv qv : Value} {S0 Q0 : List FrI} (h : LinkRows w B sv qv S0 Q0) : ∃ sa sn sc qa qn qc, sv = .slice sa sn sc ∧ qv = .slice qa qn qc := by
  obtain ⟨S, Q, m, a1, a2, a3, a4, _⟩ := h.ex
  obtain ⟨sa, sc, e1⟩ := own_form a1.row
  obtain ⟨qa, qc, e2⟩ := own_form a4.row
  exact ⟨sa, _, sc, qa, _, qc, e1, e2⟩
/-- a struct's own block is of another type than frames (a frame's variable is of theirs: it lies ahead) -/
theorem GoOk.forms {w : World} {B N : Nat} {sv qv pv : Value} {R : LinkI × List PkI} (h : GoOk w B N sv qv pv R) : ∃ sa sn sc qa qn qc pa pn pc, sv = .slice sa sn sc ∧ qv = .slice qa qn qc ∧ pv = .slice pa pn pc := by
  obtain ⟨S, Q, P, a1, a2, a3, a4, a5, _⟩ := h.ex
  obtain ⟨sa, sc, e1, _⟩ := a1.row
  obtain ⟨qa, qc, e2, _⟩ := a3.row
  obtain ⟨pa, pc, e3⟩ := own_form a5.row
  exact ⟨sa, _, sc, qa, _, qc, pa, _, pc, e1, e2, e3⟩
theorem GoOk.stored {w w' : World} {B N : Nat} {sv qv pv : Value} {R : LinkI × List PkI} {b : Nat} {cs : Array Value} {T : TypeId} (h : GoOk w B N sv qv pv R) (hb : w.heap[b]? = some (.cells cs T (0, 0))) (h1 : T ≠ 28) (h2 : T ≠ 63) (h3 : T ≠ 30) (hc : Chg (fun k => k = b) w w') : GoOk w' B N sv qv pv R := by
  obtain ⟨S, Q, P, a1, a2, a3, a4, a5, a6⟩ := h.ex
  exact ⟨S, Q, P, a1.stored hb h1 h2 hc, a2, a3.stored hb h1 h2 hc, a4, a5.stored hb h3 h2 hc, a6⟩
/-- a store into a block that lies ahead of all of it -/
theorem GoOk.ahead {w w' : World} {B N : Nat} {sv qv pv : Value} {R : LinkI × List PkI} {b : Nat} (h : GoOk w B N sv qv pv R) (h1 : b < B) (h2 : b < N) (hc : Chg (fun k => k = b) w w') : GoOk w' B N sv qv pv R := by
  obtain ⟨S, Q, P, a1, a2, a3, a4, a5, a6⟩ := h.ex
  refine ⟨S, Q, P, a1.ahead hc (fun k e => by omega), a2, a3.ahead hc (fun k e => by omega), a4, ⟨own_chg a5.row hc (fun k hk e => by have := (a5.row.lt k hk).1; omega), fun x hx => own_chg (a5.each x hx) hc (fun k hk e => by have := ((a5.each x hx).lt k hk).1; omega)⟩, a6⟩
theorem GoOk.base {w : World} {B N B' N' : Nat} {sv qv pv : Value} {R : LinkI × List PkI} (h : GoOk w B N sv qv pv R) (h1 : B' ≤ B) (h2 : N' ≤ N) : GoOk w B' N' sv qv pv R := by
  obtain ⟨S, Q, P, a1, a2, a3, a4, a5, a6⟩ := h.ex
  exact ⟨S, Q, P, a1.base h1, a2, a3.base h1, a4, a5.base h2, a6⟩
theorem GoOk.below {w w' : World} {B N : Nat} {sv qv pv : Value} {R : LinkI × List PkI} (h : GoOk w B N sv qv pv R) (hb : Below w.heap.size w w') : GoOk w' B N sv qv pv R := by
  obtain ⟨S, Q, P, a1, a2, a3, a4, a5, a6⟩ := h.ex
  exact ⟨S, Q, P, a1.below hb, a2, a3.below hb, a4, a5.below hb, a6⟩

/-- what the walks of Hear begin with -/
theorem hear_setup {B : Nat} {ep nx hd : Int} {S Q : List FrK} {sv qv : Value} {p : PkI} {v : Value} {w : World} (hS : InK frS w B sv S) (hQ : InK frS w B qv Q) (fS : ∀ x ∈ S, FrSmall x.1) (fQ : ∀ x ∈ Q, FrSmall x.1) (lS : S.length ≤ 1048577) (lQ : Q.length ≤ 1048576) (ho : OpVal w v p.frame.op) (hs : FrSmall p.frame) (hT : Tabs w) (herr : lhearErr (mkL ep nx hd S Q) p = 0) :
    (∀ w1, Below w.heap.size w w1 → Calls Tryd.prog 11 #[.agg #[.int .i64 ep, .int .i64 nx, sv, qv, .int .i64 hd], .agg #[.int .i64 p.epoch, .int .i64 p.number, .bool p.bare, .int .i64 p.ack, .int .i64 p.frame.kind, .int .i64 p.frame.heard, .int .i64 p.frame.epoch, v, .string p.frame.text]] w1 fun r w' => r = .returned (.int .i64 0) ∧ Below w1.heap.size w1 w') ∧
    (∀ w1, Below w.heap.size w w1 → Calls Tryd.prog 12 #[.agg #[.int .i64 ep, .int .i64 nx, sv, qv, .int .i64 hd], .int .i64 p.ack] w1 fun r w' => ∃ sv' qv', r = .returned (.agg #[.int .i64 ep, .int .i64 nx, sv', qv', .int .i64 hd]) ∧ LinkRows w' w1.heap.size sv' qv' (behindL (mkL ep nx hd S Q) p.ack).sent (Q.map (·.1)) ∧ Below w1.heap.size w1 w') ∧
    (∀ (h' : Int) (sv1 qv1 : Value) (B1 : Nat) (w1 : World), LinkRows w1 B1 sv1 qv1 (behindL (mkL ep nx hd S Q) p.ack).sent (Q.map (·.1)) → B1 ≤ w1.heap.size → Calls Tryd.prog 14 #[.agg #[.int .i64 ep, .int .i64 nx, sv1, qv1, .int .i64 h']] w1 fun r w' => ∃ sv' qv' pv, r = .returned (.tuple #[.agg #[.int .i64 ep, .int .i64 (nx + (goK (behindL (mkL ep nx hd S Q) p.ack).sent.length (Q.map (·.1)).length nx : Nat)), sv', qv', .int .i64 h'], pv]) ∧ GoOk w' B1 w1.heap.size sv' qv' pv (LinkI.go ⟨ep, nx, (behindL (mkL ep nx hd S Q) p.ack).sent, Q.map (·.1), h'⟩) ∧ Below B1 w1 w' ∧ KeptF w1 w') ∧
    (∀ w1, Below w.heap.size w w1 → Calls Tryd.prog 13 #[.agg #[.int .i64 p.frame.kind, .int .i64 p.frame.heard, .int .i64 p.frame.epoch, v, .string p.frame.text]] w1 fun r w' => ∃ u, r = .returned (.agg #[.int .i64 p.frame.kind, .int .i64 p.frame.heard, .int .i64 p.frame.epoch, u, .string p.frame.text]) ∧ w'.ownsRow w1.heap.size 63 3 u p.frame.op.length (partCells p.frame.op) ∧ Below w1.heap.size w1 w') ∧
    (0 ≤ hd ∧ hd ≤ 1048576) := by
  obtain ⟨h1, h3, h2, h4⟩ := lhearErr_zero herr
  obtain ⟨k1, k2, k3, k4, k5, k6, k7⟩ := linkOk h1
  refine ⟨fun w1 hb => ?_, fun w1 hb => ?_, fun h' sv1 qv1 B1 w1 hL hB => ?_, fun w1 hb => ?_, k2⟩
  · have := checkHear_any ep nx hd S Q sv qv p v w1 (hS.below hb) (hQ.below hb) fS fQ lS (by omega) (ho.below hb) hs (hT.below hb)
    rw [herr] at this
    exact this
  · exact behind_any ep nx hd p.ack S Q sv qv w1 (hS.below hb) (hQ.below hb) (fun x hx => by have := (fS x hx).op.1; omega) (fun x hx => by have := (fQ x hx).op.1; omega) k4 lQ ⟨k5, k3.2⟩
  · refine goOn_any ep nx h' sv1 qv1 _ _ B1 w1 hL (fun g hg => ?_) ?_ (by rw [List.length_map]; omega) ⟨by omega, k3.2⟩ hB
    · obtain ⟨x, hx, rfl⟩ := List.mem_map.1 hg
      have := (fQ x hx).op.1
      omega
    · show ((S.map (·.1)).drop _).length ≤ 8
      rw [List.length_drop, List.length_map]
      omega
  · exact copyOf_any p.frame v w1 (ho.below hb) (by have := hs.op.1; omega)

/-- what Hear answers, in its two results' blocks -/
structure HearAt (w w' : World) (B M : Nat) (ep N h' fk fh fe : Int) (sa qa ua pa : Option Addr) (sn sc qn qc un uc pn pc : Nat) (tx : ByteArray) (R : LinkI × List PkI) (os : List Part) : Prop where
  r : w'.heap[w.heap.size + 1 + 1]? = some (.cells #[.int .i64 ep, .int .i64 N, .slice sa sn sc, .slice qa qn qc, .int .i64 h'] 24 (0, 0))
  x : w'.heap[w.heap.size + 1 + 1 + 1]? = some (.cells #[.int .i64 fk, .int .i64 fh, .int .i64 fe, .slice ua un uc, .string tx] 28 (0, 0))
  go : GoOk w' B M (.slice sa sn sc) (.slice qa qn qc) (.slice pa pn pc) R
  own : w'.ownsRow B 63 3 (.slice ua un uc) os.length (partCells os)
  below : Below w.heap.size w w'
  b : w.heap.size + 1 + 1 + 1 < B
  m : w.heap.size + 1 + 1 + 1 < M
theorem HearAt.putR {w w' : World} {B M : Nat} {ep N h' fk fh fe : Int} {sa qa ua pa : Option Addr} {sn sc qn qc un uc pn pc : Nat} {tx : ByteArray} {R : LinkI × List PkI} {os : List Part} (h : HearAt w w' B M ep N h' fk fh fe sa qa ua pa sn sc qn qc un uc pn pc tx R os) : HearAt w (((((w'.setCell ⟨w.heap.size + 1 + 1, 0, none⟩ (.int .i64 ep)).setCell ⟨w.heap.size + 1 + 1, 1, none⟩ (.int .i64 N)).setCell ⟨w.heap.size + 1 + 1, 2, none⟩ (.slice sa sn sc)).setCell ⟨w.heap.size + 1 + 1, 3, none⟩ (.slice qa qn qc)).setCell ⟨w.heap.size + 1 + 1, 4, none⟩ (.int .i64 h')) B M ep N h' fk fh fe sa qa ua pa sn sc qn qc un uc pn pc tx R os := by
  obtain ⟨hf, hc⟩ := puts_all h.r [.int .i64 ep, .int .i64 N, .slice sa sn sc, .slice qa qn qc, .int .i64 h'] rfl
  simp only [puts, Nat.zero_add, Nat.reduceAdd] at hf hc
  have h1 := h.b
  have h2 := h.m
  exact ⟨hf, hc.row h.x (by omega), h.go.ahead (by omega) (by omega) hc, own_chg h.own hc (fun k hk e => by have := (h.own.lt k hk).1; omega), h.below.trans (hc.below (fun k e => by omega) h.below.size), h.b, h.m⟩
theorem HearAt.putX {w w' : World} {B M : Nat} {ep N h' fk fh fe : Int} {sa qa ua pa : Option Addr} {sn sc qn qc un uc pn pc : Nat} {tx : ByteArray} {R : LinkI × List PkI} {os : List Part} (h : HearAt w w' B M ep N h' fk fh fe sa qa ua pa sn sc qn qc un uc pn pc tx R os) : HearAt w (((((w'.setCell ⟨w.heap.size + 1 + 1 + 1, 0, none⟩ (.int .i64 fk)).setCell ⟨w.heap.size + 1 + 1 + 1, 1, none⟩ (.int .i64 fh)).setCell ⟨w.heap.size + 1 + 1 + 1, 2, none⟩ (.int .i64 fe)).setCell ⟨w.heap.size + 1 + 1 + 1, 3, none⟩ (.slice ua un uc)).setCell ⟨w.heap.size + 1 + 1 + 1, 4, none⟩ (.string tx)) B M ep N h' fk fh fe sa qa ua pa sn sc qn qc un uc pn pc tx R os := by
  obtain ⟨hf, hc⟩ := puts_all h.x [.int .i64 fk, .int .i64 fh, .int .i64 fe, .slice ua un uc, .string tx] rfl
  simp only [puts, Nat.zero_add, Nat.reduceAdd] at hf hc
  have h1 := h.b
  have h2 := h.m
  exact ⟨hc.row h.r (by omega), hf, h.go.ahead (by omega) (by omega) hc, own_chg h.own hc (fun k hk e => by have := (h.own.lt k hk).1; omega), h.below.trans (hc.below (fun k e => by omega) h.below.size), h.b, h.m⟩
theorem HearAt.drew {w w' : World} {B M : Nat} {ep N h' fk fh fe : Int} {sa qa ua pa : Option Addr} {sn sc qn qc un uc pn pc : Nat} {tx : ByteArray} {R : LinkI × List PkI} {os : List Part} (h : HearAt w w' B M ep N h' fk fh fe sa qa ua pa sn sc qn qc un uc pn pc tx R os) : HearAt w w'.drew B M ep N h' fk fh fe sa qa ua pa sn sc qn qc un uc pn pc tx R os :=
  have hd : Below w'.heap.size w' w'.drew := ⟨rfl, rfl, rfl, Nat.le_refl _, fun _ _ => rfl⟩
  ⟨h.r, h.x, h.go.below hd, own_below h.own hd, h.below.drew, h.b, h.m⟩

theorem hear_ss {w w' : World} {B M : Nat} {ep N h' fk fh fe : Int} {sa qa ua pa : Option Addr} {sn sc qn qc un uc pn pc : Nat} {tx : ByteArray} {R : LinkI × List PkI} {os : List Part} (h : HearAt w w' B M ep N h' fk fh fe sa qa ua pa sn sc qn qc un uc pn pc tx R os) : (fun w' => w'.cell? ⟨w.heap.size + 1 + 1, 0, none⟩ = some (.int .i64 ep) ∧ w'.cell? ⟨w.heap.size + 1 + 1, 1, none⟩ = some (.int .i64 N) ∧ w'.cell? ⟨w.heap.size + 1 + 1, 2, none⟩ = some (.slice sa sn sc) ∧ w'.cell? ⟨w.heap.size + 1 + 1, 3, none⟩ = some (.slice qa qn qc) ∧ w'.cell? ⟨w.heap.size + 1 + 1, 4, none⟩ = some (.int .i64 h') ∧ w'.cell? ⟨w.heap.size + 1 + 1 + 1, 0, none⟩ = some (.int .i64 fk) ∧ w'.cell? ⟨w.heap.size + 1 + 1 + 1, 1, none⟩ = some (.int .i64 fh) ∧ w'.cell? ⟨w.heap.size + 1 + 1 + 1, 2, none⟩ = some (.int .i64 fe) ∧ w'.cell? ⟨w.heap.size + 1 + 1 + 1, 3, none⟩ = some (.slice ua un uc) ∧ w'.cell? ⟨w.heap.size + 1 + 1 + 1, 4, none⟩ = some (.string tx) ∧ HearAt w w' B M ep N h' fk fh fe sa qa ua pa sn sc qn qc un uc pn pc tx R os) w' := by
  obtain ⟨r0, _, _⟩ := blk h.r
  obtain ⟨x0, _, _⟩ := blk h.x
  exact ⟨r0 0, r0 1, r0 2, r0 3, r0 4, x0 0, x0 1, x0 2, x0 3, x0 4, h⟩
theorem ss_hear {w w' : World} {B M : Nat} {ep N h' fk fh fe : Int} {sa qa ua pa : Option Addr} {sn sc qn qc un uc pn pc : Nat} {tx : ByteArray} {R : LinkI × List PkI} {os : List Part} (h : (fun w' => w'.cell? ⟨w.heap.size + 1 + 1, 0, none⟩ = some (.int .i64 ep) ∧ w'.cell? ⟨w.heap.size + 1 + 1, 1, none⟩ = some (.int .i64 N) ∧ w'.cell? ⟨w.heap.size + 1 + 1, 2, none⟩ = some (.slice sa sn sc) ∧ w'.cell? ⟨w.heap.size + 1 + 1, 3, none⟩ = some (.slice qa qn qc) ∧ w'.cell? ⟨w.heap.size + 1 + 1, 4, none⟩ = some (.int .i64 h') ∧ w'.cell? ⟨w.heap.size + 1 + 1 + 1, 0, none⟩ = some (.int .i64 fk) ∧ w'.cell? ⟨w.heap.size + 1 + 1 + 1, 1, none⟩ = some (.int .i64 fh) ∧ w'.cell? ⟨w.heap.size + 1 + 1 + 1, 2, none⟩ = some (.int .i64 fe) ∧ w'.cell? ⟨w.heap.size + 1 + 1 + 1, 3, none⟩ = some (.slice ua un uc) ∧ w'.cell? ⟨w.heap.size + 1 + 1 + 1, 4, none⟩ = some (.string tx) ∧ HearAt w w' B M ep N h' fk fh fe sa qa ua pa sn sc qn qc un uc pn pc tx R os) w') : HearAt w w' B M ep N h' fk fh fe sa qa ua pa sn sc qn qc un uc pn pc tx R os := h.2.2.2.2.2.2.2.2.2.2

set_option maxRecDepth 100000 in
set_option maxHeartbeats 4000000 in
theorem lhear_bare {B : Nat} (ep nx hd : Int) (S Q : List FrK) (sv qv : Value) (pe num ack fk fh fe : Int) (ps : List Part) (tx : ByteArray) (v : Value) (w : World) (hS : InK frS w B sv S) (hQ : InK frS w B qv Q) (fS : ∀ x ∈ S, FrSmall x.1) (fQ : ∀ x ∈ Q, FrSmall x.1) (lS : S.length ≤ 1048577) (lQ : Q.length ≤ 1048576) (ho : OpVal w v ps) (hs : FrSmall ⟨fk, fh, fe, ps, tx⟩) (hT : Tabs w) (herr : lhearErr (mkL ep nx hd S Q) ⟨pe, num, true, ack, ⟨fk, fh, fe, ps, tx⟩⟩ = 0) :
    Calls Tryd.prog 5 #[.agg #[.int .i64 ep, .int .i64 nx, sv, qv, .int .i64 hd], .agg #[.int .i64 pe, .int .i64 num, .bool true, .int .i64 ack, .int .i64 fk, .int .i64 fh, .int .i64 fe, v, .string tx]] w fun r w' => ∃ sv' qv' pv, r = .returned (.tuple #[.agg #[.int .i64 ep, .int .i64 (LinkI.go (behindL (mkL ep nx hd S Q) ack)).1.next, sv', qv', .int .i64 hd], .agg #[.int .i64 0, .int .i64 0, .int .i64 0, .slice none 0 0, .string ⟨#[]⟩], .bool false, pv, .int .i64 0]) ∧ GoOk w' w.heap.size w.heap.size sv' qv' pv (LinkI.go (behindL (mkL ep nx hd S Q) ack)) ∧ Below w.heap.size w w' := by
  obtain ⟨cK, cB, cG, _, _⟩ := hear_setup hS hQ fS fQ lS lQ ho hs hT herr
  simp only at cK cB cG
  obtain ⟨sa, sc, rfl, _⟩ := hS.row
  obtain ⟨qa, qc, rfl, _⟩ := hQ.row
  obtain ⟨ua, uc, rfl, _⟩ := ho.form
  have hgo : LinkI.go (behindL (mkL ep nx hd S Q) ack) = LinkI.go ⟨ep, nx, (behindL (mkL ep nx hd S Q) ack).sent, Q.map (·.1), hd⟩ := rfl
  rw [hgo]
  generalize (behindL (mkL ep nx hd S Q) ack).sent = S0 at *
  generalize Q.map (·.1) = Q0 at *
  show Calls _ _ _ _ fun r w' => ∃ sv' qv' pv, r = .returned (.tuple #[.agg #[.int .i64 ep, .int .i64 (nx + (goK S0.length Q0.length nx : Nat)), sv', qv', .int .i64 hd], .agg #[.int .i64 0, .int .i64 0, .int .i64 0, .slice none 0 0, .string ⟨#[]⟩], .bool false, pv, .int .i64 0]) ∧ GoOk w' w.heap.size w.heap.size sv' qv' pv (LinkI.go ⟨ep, nx, S0, Q0, hd⟩) ∧ Below w.heap.size w w'
  have cG' := cG hd
  generalize LinkI.go ⟨ep, nx, S0, Q0, hd⟩ = R at *
  generalize nx + (goK S0.length Q0.length nx : Nat) = N at *
  obtain ⟨hl, hp, hr, hx, HB0, hz⟩ := four_blocks w (.cells #[.int .i64 ep, .int .i64 nx, .slice sa S.length sc, .slice qa Q.length qc, .int .i64 hd] 24) (.cells #[.int .i64 pe, .int .i64 num, .bool true, .int .i64 ack, .int .i64 fk, .int .i64 fh, .int .i64 fe, .slice ua ps.length uc, .string tx] 30) (.cells #[.int .i64 0, .int .i64 0, .slice none 0 0, .slice none 0 0, .int .i64 0] 24) (.cells #[.int .i64 0, .int .i64 0, .int .i64 0, .slice none 0 0, .string ⟨#[]⟩] 28)
  have cK1 := cK _ HB0
  have hxz : w.heap.size + 1 + 1 + 1 < ((((w.alloc (.cells #[.int .i64 ep, .int .i64 nx, .slice sa S.length sc, .slice qa Q.length qc, .int .i64 hd] 24)).alloc (.cells #[.int .i64 pe, .int .i64 num, .bool true, .int .i64 ack, .int .i64 fk, .int .i64 fh, .int .i64 fe, .slice ua ps.length uc, .string tx] 30)).alloc (.cells #[.int .i64 0, .int .i64 0, .slice none 0 0, .slice none 0 0, .int .i64 0] 24)).alloc (.cells #[.int .i64 0, .int .i64 0, .int .i64 0, .slice none 0 0, .string ⟨#[]⟩] 28)).heap.size := by omega
  obtain ⟨l0, ll0, _⟩ := blk hl
  obtain ⟨p0, pl0, _⟩ := blk hp
  clear cK cG hS hQ fS fQ ho hs hz herr hgo lS lQ
  go_enter Tryd.func5, Tryd.ntmps5
  go_wp2_with fail
  refine cK1.mono ?_
  generalize ((((w.alloc (.cells #[.int .i64 ep, .int .i64 nx, .slice sa S.length sc, .slice qa Q.length qc, .int .i64 hd] 24)).alloc (.cells #[.int .i64 pe, .int .i64 num, .bool true, .int .i64 ack, .int .i64 fk, .int .i64 fh, .int .i64 fe, .slice ua ps.length uc, .string tx] 30)).alloc (.cells #[.int .i64 0, .int .i64 0, .slice none 0 0, .slice none 0 0, .int .i64 0] 24)).alloc (.cells #[.int .i64 0, .int .i64 0, .int .i64 0, .slice none 0 0, .string ⟨#[]⟩] 28)) = w0 at *
  rintro r w1 ⟨rfl, hb1⟩
  have HB1 := below_two HB0 hb1 (Nat.le_refl _)
  have hz1 := hb1.size
  replace hl := (hb1.block _ ll0).trans hl
  replace hp := (hb1.block _ pl0).trans hp
  replace hr := (hb1.block _ (by omega)).trans hr
  replace hx := (hb1.block _ hxz).trans hx
  clear l0 ll0 p0 pl0 cK1
  have cB1 := cB w1 HB1
  obtain ⟨l0, ll0, _⟩ := blk hl
  obtain ⟨p0, pl0, _⟩ := blk hp
  go_wp2_with fail
  refine cB1.mono ?_
  rintro r w2 ⟨sv1, qv1, rfl, hL, hb2⟩
  obtain ⟨ka, kn, kc, oa, on, oc, rfl, rfl⟩ := hL.forms
  have HB2 := below_two HB1 hb2 (Nat.le_refl _)
  have hz2 := hb2.size
  replace hp := (hb2.block _ pl0).trans hp
  replace hr := (hb2.block _ (by omega)).trans hr
  replace hx := (hb2.block _ (by omega)).trans hx
  clear l0 ll0 p0 pl0 cB1 cB hl
  obtain ⟨hr3, hs3⟩ := puts_all hr [.int .i64 ep, .int .i64 nx, .slice ka kn kc, .slice oa on oc, .int .i64 hd] rfl
  simp only [puts, Nat.zero_add, Nat.reduceAdd] at hr3 hs3
  have hp3 := hs3.row hp (by omega)
  have hx3 := hs3.row hx (by omega)
  have hL3 := hL.stored hr (by decide) (by decide) hs3
  have HB3 := HB2.trans (hs3.below (B := w.heap.size) (fun i e => by omega) HB2.size)
  have hz3 := hs3.size
  have cG3 := cG' _ _ w1.heap.size _ hL3 (by omega)
  obtain ⟨r2, rl2, rf2⟩ := blk hr
  obtain ⟨p3, pl3, _⟩ := blk hp3
  obtain ⟨r3, rl3, rf3⟩ := blk hr3
  clear hs3 hL cG'
  go_wp2_with fail
  refine cG3.mono ?_
  clear r2 rl2 rf2 p3 pl3 r3 rl3 rf3 cG3 hr hx hp
  generalize (((((w2.setCell ⟨w.heap.size + 1 + 1, 0, none⟩ (.int .i64 ep)).setCell ⟨w.heap.size + 1 + 1, 1, none⟩ (.int .i64 nx)).setCell ⟨w.heap.size + 1 + 1, 2, none⟩ (.slice ka kn kc)).setCell ⟨w.heap.size + 1 + 1, 3, none⟩ (.slice oa on oc)).setCell ⟨w.heap.size + 1 + 1, 4, none⟩ (.int .i64 hd)) = w3 at *
  rintro r w4 ⟨sv4, qv4, pv4, rfl, hG, hb4, hkf⟩
  obtain ⟨sa4, sn4, sc4, qa4, qn4, qc4, pa4, pn4, pc4, rfl, rfl, rfl⟩ := hG.forms
  have hr4 := hkf _ _ _ (by decide) hr3
  have hp4 := hkf _ _ _ (by decide) hp3
  have hx4 := (hb4.block _ (show w.heap.size + 1 + 1 + 1 < w1.heap.size by omega)).trans hx3
  have HB4 := HB3.trans (hb4.mono (show w.heap.size ≤ w1.heap.size by omega))
  obtain ⟨hr5, hs5⟩ := puts_all hr4 [.int .i64 ep, .int .i64 N, .slice sa4 sn4 sc4, .slice qa4 qn4 qc4, .int .i64 hd] rfl
  simp only [puts, Nat.zero_add, Nat.reduceAdd] at hr5 hs5
  have hp5 := hs5.row hp4 (by omega)
  have hx5 := hs5.row hx4 (by omega)
  have hG5 := hG.ahead (show w.heap.size + 1 + 1 < w1.heap.size by omega) (show w.heap.size + 1 + 1 < w3.heap.size by omega) hs5
  have HB5 := HB4.trans (hs5.below (B := w.heap.size) (fun i e => by omega) HB4.size)
  have HA : HearAt w (((((w4.setCell ⟨w.heap.size + 1 + 1, 0, none⟩ (.int .i64 ep)).setCell ⟨w.heap.size + 1 + 1, 1, none⟩ (.int .i64 N)).setCell ⟨w.heap.size + 1 + 1, 2, none⟩ (.slice sa4 sn4 sc4)).setCell ⟨w.heap.size + 1 + 1, 3, none⟩ (.slice qa4 qn4 qc4)).setCell ⟨w.heap.size + 1 + 1, 4, none⟩ (.int .i64 hd)) w1.heap.size w3.heap.size ep N hd 0 0 0 sa4 qa4 none pa4 sn4 sc4 qn4 qc4 0 0 pn4 pc4 ⟨#[]⟩ R [] := ⟨hr5, hx5, hG5, World.ownsRow_nil _ _ _ _, HB5, by omega, by omega⟩
  obtain ⟨r4, rl4, rf4⟩ := blk hr4
  obtain ⟨p5, pl5, _⟩ := blk hp5
  obtain ⟨r5, rl5, rf5⟩ := blk hr5
  obtain ⟨x5, xl5, xf5⟩ := blk hx5
  have hzz : w.heap.size ≤ w1.heap.size ∧ w.heap.size ≤ w3.heap.size := by omega
  clear hG hG5 hs5 hkf hb4 hr3 hp3 hx3 hL3 hx4 hp4
  go_wp2_with fail
  clear r4 rl4 rf4 p5 pl5
  generalize (((((w4.setCell ⟨w.heap.size + 1 + 1, 0, none⟩ (.int .i64 ep)).setCell ⟨w.heap.size + 1 + 1, 1, none⟩ (.int .i64 N)).setCell ⟨w.heap.size + 1 + 1, 2, none⟩ (.slice sa4 sn4 sc4)).setCell ⟨w.heap.size + 1 + 1, 3, none⟩ (.slice qa4 qn4 qc4)).setCell ⟨w.heap.size + 1 + 1, 4, none⟩ (.int .i64 hd)) = w5 at *
  obtain ⟨d1, _, df1⟩ := blk HA.r
  obtain ⟨d2, _, df2⟩ := blk HA.x
  have a0 : w5.cell? ⟨w.heap.size + 1 + 1, 0, none⟩ = some (.int .i64 ep) := d1 0
  have b0 : w5.frozen? ⟨w.heap.size + 1 + 1, 0, none⟩ = false := df1 0
  have c0 : w5.cell? ⟨w.heap.size + 1 + 1 + 1, 0, none⟩ = some (.int .i64 0) := d2 0
  have e0 : w5.frozen? ⟨w.heap.size + 1 + 1 + 1, 0, none⟩ = false := df2 0
  have a1 : w5.cell? ⟨w.heap.size + 1 + 1, 1, none⟩ = some (.int .i64 N) := d1 1
  have b1 : w5.frozen? ⟨w.heap.size + 1 + 1, 1, none⟩ = false := df1 1
  have c1 : w5.cell? ⟨w.heap.size + 1 + 1 + 1, 1, none⟩ = some (.int .i64 0) := d2 1
  have e1 : w5.frozen? ⟨w.heap.size + 1 + 1 + 1, 1, none⟩ = false := df2 1
  have a2 : w5.cell? ⟨w.heap.size + 1 + 1, 2, none⟩ = some (.slice sa4 sn4 sc4) := d1 2
  have b2 : w5.frozen? ⟨w.heap.size + 1 + 1, 2, none⟩ = false := df1 2
  have c2 : w5.cell? ⟨w.heap.size + 1 + 1 + 1, 2, none⟩ = some (.int .i64 0) := d2 2
  have e2 : w5.frozen? ⟨w.heap.size + 1 + 1 + 1, 2, none⟩ = false := df2 2
  have a3 : w5.cell? ⟨w.heap.size + 1 + 1, 3, none⟩ = some (.slice qa4 qn4 qc4) := d1 3
  have b3 : w5.frozen? ⟨w.heap.size + 1 + 1, 3, none⟩ = false := df1 3
  have c3 : w5.cell? ⟨w.heap.size + 1 + 1 + 1, 3, none⟩ = some (.slice none 0 0) := d2 3
  have e3 : w5.frozen? ⟨w.heap.size + 1 + 1 + 1, 3, none⟩ = false := df2 3
  have a4 : w5.cell? ⟨w.heap.size + 1 + 1, 4, none⟩ = some (.int .i64 hd) := d1 4
  have b4 : w5.frozen? ⟨w.heap.size + 1 + 1, 4, none⟩ = false := df1 4
  have c4 : w5.cell? ⟨w.heap.size + 1 + 1 + 1, 4, none⟩ = some (.string ⟨#[]⟩) := d2 4
  have e4 : w5.frozen? ⟨w.heap.size + 1 + 1 + 1, 4, none⟩ = false := df2 4
  have hne : w.heap.size + 1 + 1 ≠ w.heap.size + 1 + 1 + 1 := by omega
  have hne2 : w.heap.size + 1 + 1 + 1 ≠ w.heap.size + 1 + 1 := by omega
  clear d1 df1 d2 df2 r5 rl5 rf5 x5 xl5 xf5 hr5 hx5
  have HF := HA.putR.putX.drew
  go_region
  go_wp2_with fail
  clear HA
  generalize ((((((((((w5.setCell ⟨w.heap.size + 1 + 1, 0, none⟩ (.int .i64 ep)).setCell ⟨w.heap.size + 1 + 1, 1, none⟩ (.int .i64 N)).setCell ⟨w.heap.size + 1 + 1, 2, none⟩ (.slice sa4 sn4 sc4)).setCell ⟨w.heap.size + 1 + 1, 3, none⟩ (.slice qa4 qn4 qc4)).setCell ⟨w.heap.size + 1 + 1, 4, none⟩ (.int .i64 hd)).setCell ⟨w.heap.size + 1 + 1 + 1, 0, none⟩ (.int .i64 0)).setCell ⟨w.heap.size + 1 + 1 + 1, 1, none⟩ (.int .i64 0)).setCell ⟨w.heap.size + 1 + 1 + 1, 2, none⟩ (.int .i64 0)).setCell ⟨w.heap.size + 1 + 1 + 1, 3, none⟩ (.slice none 0 0)).setCell ⟨w.heap.size + 1 + 1 + 1, 4, none⟩ (.string ⟨#[]⟩)).drew = w9 at *
  obtain ⟨t9, _, _⟩ := blk HF.r
  obtain ⟨u9, _, _⟩ := blk HF.x
  exact bodyPost_ret (v := .tuple #[.agg #[.int .i64 ep, .int .i64 N, .slice sa4 sn4 sc4, .slice qa4 qn4 qc4, .int .i64 hd], .agg #[.int .i64 0, .int .i64 0, .int .i64 0, .slice none 0 0, .string ⟨#[]⟩], .bool false, .slice pa4 pn4 pc4, .int .i64 0]) (by simp [results, Tryd.results5, go_sem, t9, u9]) rfl ⟨_, _, _, rfl, HF.go.base hzz.1 hzz.2, HF.below⟩

end Go.Proofs.YtnpjcdfkjgenbaaDoor
