/-
  A turn's node as a node in memory; what Begin answers may be (pure).
-/
import Derived.Test.YtpgcjpiabciekaaDoorNodeBegn
namespace Go.Proofs.YtpgcjpiabciekaaDoor
open Go.RowKit Go.Lib

theorem marksAll_length (K : List MarkV) : (marksAll K).length = K.length * 2 := by
  induction K with
  | nil => rfl
  | cons x K ih => show (markVals x ++ marksAll K).length = _; rw [List.length_append, ih]; simp [markVals]; omega
theorem marksAll_get : ∀ (K : List MarkV) (i j : Nat) (h : i < K.length), j < 2 → (marksAll K)[i * 2 + j]? = (markVals K[i])[j]?
  | [], i, _, h, _ => by simp at h
  | x :: K, 0, j, _, hj => by show (markVals x ++ marksAll K)[0 * 2 + j]? = _; rw [Nat.zero_mul, Nat.zero_add, List.getElem?_append_left (by simpa [markVals] using hj)]; rfl
  | x :: K, i + 1, j, h, hj => by
    have := marksAll_get K i j (by simpa using h) hj
    show (markVals x ++ marksAll K)[(i + 1) * 2 + j]? = _
    rw [List.getElem?_append_right (by simp [markVals]; omega)]
    simp only [show (markVals x).length = 2 from rfl]
    rw [show (i + 1) * 2 + j - 2 = i * 2 + j by omega, this]
    rfl
theorem marks_cells {w : World} {B : Nat} {a : Option Addr} {c n : Nat} {K : List MarkV} (h : w.ownsRow B 84 2 (.slice a n c) K.length (marksAll K)) : n = K.length ∧ MarksAt w a c K := by
  rcases h.2 with ⟨e, h0⟩ | ⟨g, cap, cur, e, hb, hg, hn, _⟩
  · simp only [Value.slice.injEq] at e
    obtain ⟨rfl, rfl, rfl⟩ := e
    exact ⟨h0.symm, by omega, .inl (by rw [List.length_eq_zero_iff.1 h0]; rfl)⟩
  · simp only [Value.slice.injEq] at e
    obtain ⟨rfl, rfl, rfl⟩ := e
    refine ⟨rfl, hn, .inr ⟨g, 0, rfl, heap_lt hg, fun i hi j u hj => ?_⟩⟩
    have hi' : i < K.length := by simpa using hi
    have hj' : j < 2 := by
      have := (List.getElem?_eq_some_iff.1 hj).1
      simpa [markVals] using this
    have := h.cells (g := g) rfl (i * 2 + j) u (by rw [marksAll_get K i j hi' hj']; simpa using hj)
    rw [WideShapes.add_plain] at this
    rw [Nat.add_assoc]
    exact this
/-- the node of a turn -/
def TurnV.node (V : TurnV) (sa ua ma : Option Addr) (sc uc mc : Nat) : NodeV := ⟨V.me, V.ep, V.up, V.ready, V.text, V.sides, sa, sc, V.undo.map (·.1), V.undo.map (·.2), ua, uc, V.marks, ma, mc⟩
theorem TurnAt.node {w : World} {B : Nat} {V : TurnV} {sv uv mv pv rv : Value} (h : TurnAt w B V sv uv mv pv rv) (h1 : V.text.size ≤ 1048576) (h2 : ∀ q ∈ V.undo, OpSmall q.1) (h3 : V.sides.length ≤ 1048576) (h4 : V.undo.length ≤ 1048576) (h5 : V.marks.length ≤ 1048576) :
    ∃ sa ua ma sc uc mc, sv = .slice sa V.sides.length sc ∧ uv = .slice ua (V.undo.map (·.1)).length uc ∧ mv = .slice ma V.marks.length mc ∧ NodeAt w (V.node sa ua ma sc uc mc) := by
  obtain ⟨sa, sc, rfl⟩ := own_form h.sides.row
  obtain ⟨ua, uc, rfl⟩ := own_form h.undo.row
  obtain ⟨ma, mc, rfl⟩ := own_form h.marks
  refine ⟨sa, ua, ma, sc, uc, mc, rfl, by rw [List.length_map], rfl, h1, h.sides.sides.2, h.undo.inT.pend.2, fun q hq => ?_, (marks_cells h.marks).2, h3, by simpa [TurnV.node] using h4, h5⟩
  obtain ⟨x, hx, rfl⟩ := List.mem_map.1 hq
  exact h2 x hx

theorem joinF_err (ep up : Int) (h : 1 ≤ ep ∧ ep ≤ 1048576) (hu : 0 ≤ up ∧ up ≤ 1048576) : (joinF ep up).err = 0 := by
  have e1 : inN up = true := decide_eq_true hu
  have e2 : inN ep = true := decide_eq_true (by omega)
  have e3 : opErr [] = 0 := by decide +kernel
  have e4 : textErr ByteArray.empty = 0 := by decide +kernel
  have e5 : (ByteArray.empty).size = 0 := rfl
  have e6 : ¬ ep = 0 := by omega
  show frameErr 2 up ep [] ByteArray.empty = 0
  unfold frameErr ownB
  rw [e1, e2, e3, e4, e5]
  simp [e6]
theorem linkErr_new (ep : Int) (h : 0 ≤ ep ∧ ep ≤ 1048576) : linkErr (mkL ep 1 0 [] []) = 0 := by
  unfold linkErr linkOkB linkNum
  simp [mkL, framesB, inN]
  omega
/-- a Join that is sent on a link that was opened anew -/
theorem join_sent (ep up : Int) (h : 1 ≤ ep ∧ ep ≤ 1048576) (hu : 0 ≤ up ∧ up ≤ 1048576) : sendR (mkL ep 1 0 [] []) (joinF ep up) = ((⟨ep, 2, [joinF ep up], [], 0⟩, [⟨ep, 1, false, 0, joinF ep up⟩]), 0) := by
  have e6 : ¬ ep = 0 := by omega
  have e0 : lsendErr (mkL ep 1 0 [] []) (joinF ep up) = 0 := by
    unfold lsendErr
    rw [linkErr_new ep (by omega), joinF_err ep up h hu]
    simp [mkL, e6]
  unfold sendR
  rw [if_pos e0]
  rfl
theorem linkErr_joined (ep up : Int) (h : 1 ≤ ep ∧ ep ≤ 1048576) (hu : 0 ≤ up ∧ up ≤ 1048576) : linkErr ⟨ep, 2, [joinF ep up], [], 0⟩ = 0 := by
  have e3 := joinF_err ep up h hu
  have e6 : ¬ ep = 0 := by omega
  unfold linkErr linkOkB linkNum
  simp [framesB, inN, e3, e6]
  omega
theorem begun_ok {T : List Int} {me births : Int} {s : ByteArray} {V : TurnV} (h : Begun T me births s V) (hT : treeErr T = 0) (hme : 0 ≤ me ∧ me < (T.length : Int)) (hb : 1 ≤ births ∧ births ≤ 250) (ht : textErr s = 0) (hse : me ≠ 0 → s = ByteArray.empty) (sa ua ma : Option Addr) (sc uc mc : Nat) : nodeErr T (V.node sa ua ma sc uc mc) = 0 := by
  have hs0 : ∀ q r t, sideB r t (side0 q) = true := fun q r t => by
    have e1 : edgeErr 0 0 [] = 0 := by decide +kernel
    have e2 := linkErr_new 0 (by omega)
    unfold sideB side0
    simp [e1, e2]
  have hmp : ∀ R : List Int, (R.map side0).map (·.peer) = R := fun R => by rw [List.map_map]; exact List.map_id R
  have hall : ∀ (R : List Int) r t, (R.map side0).all (sideB r t) = true := fun R r t => by
    rw [List.all_eq_true]
    intro x hx
    obtain ⟨q, _, rfl⟩ := List.mem_map.1 hx
    exact hs0 q r t
  have hN : nodeB T (V.node sa ua ma sc uc mc) = true := by
    unfold nodeB
    have n1 : numB T (V.node sa ua ma sc uc mc) = true := by
      unfold numB TurnV.node
      simp only [h.bme, h.bep, h.bup]
      simp
      omega
    have n2 : textErr (V.node sa ua ma sc uc mc).text = 0 := by show textErr V.text = 0; rw [h.btext]; exact ht
    have n3 : undoB (V.node sa ua ma sc uc mc) = true := by
      unfold undoB TurnV.node
      simp only [h.bundo]
      rfl
    have n4 : marksB (V.node sa ua ma sc uc mc) = true := by
      unfold marksB TurnV.node
      simp only [h.bmarks]
      rfl
    by_cases h0 : me = 0
    · obtain ⟨e1, e2⟩ := h.root h0
      have n5 : sidesB T (V.node sa ua ma sc uc mc) = true := by
        unfold sidesB TurnV.node
        simp only [e1, h.bme, hmp, hall]
        simp
      have n6 : readyB (V.node sa ua ma sc uc mc) = true := by
        unfold readyB TurnV.node
        simp only [h.bme, h.bready, h0]
        simp
      rw [n1, n2, n3, n4, n5, n6]
      rfl
    · obtain ⟨q, R, s', P, e1, e2, e3, e4⟩ := h.rest h0
      rcases e4 with ⟨x, _⟩ | ⟨_, _, S, Q, sv, qv, rfl, eS, eQ⟩
      · exact absurd (by rw [show sideL (side1 (side0 q) (births * 4096)) = mkL (births * 4096) 1 0 [] [] from rfl, join_sent _ 0 (by omega) (by omega)]) x
      · rw [show sideL (side1 (side0 q) (births * 4096)) = mkL (births * 4096) 1 0 [] [] from rfl, join_sent _ 0 (by omega) (by omega)] at eS eQ e2
        have hl : linkErr (mkL (births * 4096) 2 0 S Q) = 0 := by
          unfold mkL
          rw [eS, eQ]
          exact linkErr_joined _ 0 (by omega) (by omega)
        have n5 : sidesB T (V.node sa ua ma sc uc mc) = true := by
          unfold sidesB TurnV.node
          simp only [e2, h.bme, e1, List.map_cons, List.all_cons, hmp, hall]
          have k1 : edgeErr 0 0 [] = 0 := by decide +kernel
          simp only [sideB, linkPut, side1, side0, hl, k1]
          simp
        have n6 : readyB (V.node sa ua ma sc uc mc) = true := by
          unfold readyB TurnV.node firstB
          simp only [h.bme, h.bready, e2, h.btext, hse h0, h.bundo, h.bmarks]
          simp [h0, linkPut, side1, side0]
        rw [n1, n2, n3, n4, n5, n6]
        rfl
  unfold nodeErr
  rw [hT, hN]
  simp

end Go.Proofs.YtpgcjpiabciekaaDoor
