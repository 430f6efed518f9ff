/-
  Sides, marks and nodes in memory; which nodes may be (pure).
-/
import Derived.Test.YtpgcjpiabciekaaDoorLinkCheck
import Derived.Test.YtpgcjpiabciekaaDoorEdgeCheckAll
import Derived.Test.YtpgcjpiabciekaaDoorTreeAt
namespace Go.Proofs.YtpgcjpiabciekaaDoor
open Go.RowKit Go.Lib

theorem blocks2 (w : World) (o o' : Obj) : ((w.alloc o).alloc o').heap[w.heap.size]? = some o ∧ ((w.alloc o).alloc o').heap[w.heap.size + 1]? = some o' ∧ Below w.heap.size w ((w.alloc o).alloc o') ∧ ((w.alloc o).alloc o').heap.size = w.heap.size + 2 := by
  have h2 := heap_alloc_new (w.alloc o) o'
  rw [show (w.alloc o).heap.size = w.heap.size + 1 by simp] at h2
  have hb := (Below.refl w.heap.size w).alloc (Nat.le_refl _) o
  exact ⟨row_old (heap_alloc_new w o) o', h2, hb.alloc hb.size o', by simp⟩

theorem blocks3 (w : World) (o o' o'' : Obj) : (((w.alloc o).alloc o').alloc o'').heap[w.heap.size]? = some o ∧ (((w.alloc o).alloc o').alloc o'').heap[w.heap.size + 1]? = some o' ∧ (((w.alloc o).alloc o').alloc o'').heap[w.heap.size + 1 + 1]? = some o'' ∧ Below w.heap.size w (((w.alloc o).alloc o').alloc o'') ∧ (((w.alloc o).alloc o').alloc o'').heap.size = w.heap.size + 3 := by
  obtain ⟨h1, h2, h3, h4⟩ := blocks2 w o o'
  have h5 := heap_alloc_new ((w.alloc o).alloc o') o''
  rw [h4] at h5
  exact ⟨row_old h1 o'', row_old h2 o'', h5, h3.alloc h3.size o'', by simp⟩

/-- one side of a node -/
structure SideV where
  peer : Int
  joined : Bool
  sent : Int
  heard : Int
  pend : List (List Part)
  pvs : List Value
  pa : Option Addr
  pc : Nat
  ep : Int
  nx : Int
  hd : Int
  S : List FrK
  Q : List FrK
  sv : Value
  qv : Value
def sideVals (s : SideV) : List Value := [.int .i64 s.peer, .bool s.joined, .int .i64 s.sent, .int .i64 s.heard, .slice s.pa s.pend.length s.pc, .int .i64 s.ep, .int .i64 s.nx, s.sv, s.qv, .int .i64 s.hd]
structure SideAt (w : World) (s : SideV) : Prop where
  pend : PendAt w s.pa s.pc s.pend s.pvs
  psm : ∀ q ∈ s.pend, OpSmall q
  plen : s.pend.length ≤ 1048576
  sentB : -9223372036854775808 ≤ s.sent ∧ s.sent ≤ 9223372036854775807
  inS : InK frS w 0 s.sv s.S
  inQ : InK frS w 0 s.qv s.Q
  fS : ∀ x ∈ s.S, FrSmall x.1
  fQ : ∀ x ∈ s.Q, FrSmall x.1
  lS : s.S.length ≤ 1048577
  lQ : s.Q.length ≤ 1048577
theorem SideAt.below {w w' : World} {s : SideV} (h : SideAt w s) (hb : Below w.heap.size w w') : SideAt w' s :=
  ⟨h.pend.below hb, h.psm, h.plen, h.sentB, h.inS.below hb, h.inQ.below hb, h.fS, h.fQ, h.lS, h.lQ⟩
/-- structs of some cells each, in a row -/
def CellsAt (w : World) (a : Option Addr) (size : Nat) (L : List (List Value)) : Prop := L = [] ∨ ∃ b off, a = some ⟨b, off, none⟩ ∧ b < w.heap.size ∧ ∀ i (h : i < L.length) j u, (L[i])[j]? = some u → w.cell? ⟨b, off + i * size + j, none⟩ = some u
theorem CellsAt.below {w w' : World} {a : Option Addr} {size : Nat} {L : List (List Value)} (h : CellsAt w a size L) (hb : Below w.heap.size w w') : CellsAt w' a size L := by
  rcases h with h | ⟨b, off, rfl, hl, hc⟩
  · exact .inl h
  · exact .inr ⟨b, off, rfl, Nat.lt_of_lt_of_le hl hb.size, fun i hi j u hj => (hb.cell (p := ⟨b, off + i * size + j, none⟩) hl).trans (hc i hi j u hj)⟩
/-- sides in memory -/
structure SidesAt (w : World) (a : Option Addr) (c : Nat) (K : List SideV) : Prop where
  cap : K.length ≤ c
  cells : CellsAt w a 10 (K.map sideVals)
  each : ∀ s ∈ K, SideAt w s
theorem SidesAt.below {w w' : World} {a : Option Addr} {c : Nat} {K : List SideV} (h : SidesAt w a c K) (hb : Below w.heap.size w w') : SidesAt w' a c K :=
  ⟨h.cap, h.cells.below hb, fun s hs => (h.each s hs).below hb⟩
theorem SidesAt.get {w : World} {a : Option Addr} {c : Nat} {K : List SideV} (h : SidesAt w a c K) {i : Nat} (hi : i < K.length) : ∃ b off, a = some ⟨b, off, none⟩ ∧ b < w.heap.size ∧ ∀ j u, (sideVals K[i])[j]? = some u → w.cell? ⟨b, off + i * 10 + j, none⟩ = some u := by
  rcases h.cells with h0 | ⟨b, off, rfl, hl, hc⟩
  · have := congrArg List.length h0
    simp at this
    rw [this] at hi
    simp at hi
  · exact ⟨b, off, rfl, hl, fun j u hj => hc i (by simpa using hi) j u (by simpa using hj)⟩
/-- marks -/
abbrev MarkV := Int × Int
def markVals (m : MarkV) : List Value := [.int .i64 m.1, .int .i64 m.2]
structure MarksAt (w : World) (a : Option Addr) (c : Nat) (K : List MarkV) : Prop where
  cap : K.length ≤ c
  cells : CellsAt w a 2 (K.map markVals)
theorem MarksAt.below {w w' : World} {a : Option Addr} {c : Nat} {K : List MarkV} (h : MarksAt w a c K) (hb : Below w.heap.size w w') : MarksAt w' a c K := ⟨h.cap, h.cells.below hb⟩
theorem MarksAt.get {w : World} {a : Option Addr} {c : Nat} {K : List MarkV} (h : MarksAt w a c K) {i : Nat} (hi : i < K.length) : ∃ b off, a = some ⟨b, off, none⟩ ∧ b < w.heap.size ∧ w.cell? ⟨b, off + i * 2, none⟩ = some (.int .i64 K[i].1) ∧ w.cell? ⟨b, off + i * 2 + 1, none⟩ = some (.int .i64 K[i].2) := by
  rcases h.cells with h0 | ⟨b, off, rfl, hl, hc⟩
  · have := congrArg List.length h0
    simp at this
    rw [this] at hi
    simp at hi
  · exact ⟨b, off, rfl, hl, hc i (by simpa using hi) 0 _ (by simp [markVals]), hc i (by simpa using hi) 1 _ (by simp [markVals])⟩

/-- a node -/
structure NodeV where
  me : Int
  ep : Int
  up : Int
  ready : Bool
  text : ByteArray
  sides : List SideV
  sa : Option Addr
  sc : Nat
  undo : List (List Part)
  uvs : List Value
  ua : Option Addr
  uc : Nat
  marks : List MarkV
  ma : Option Addr
  mc : Nat
def nodeVals (n : NodeV) : List Value := [.int .i64 n.me, .int .i64 n.ep, .int .i64 n.up, .bool n.ready, .string n.text, .slice n.sa n.sides.length n.sc, .slice n.ua n.undo.length n.uc, .slice n.ma n.marks.length n.mc]
structure NodeAt (w : World) (n : NodeV) : Prop where
  text : n.text.size ≤ 1048576
  sides : SidesAt w n.sa n.sc n.sides
  undo : PendAt w n.ua n.uc n.undo n.uvs
  usm : ∀ q ∈ n.undo, OpSmall q
  marks : MarksAt w n.ma n.mc n.marks
  ls : n.sides.length ≤ 1048576
  lu : n.undo.length ≤ 1048576
  lm : n.marks.length ≤ 1048576
theorem NodeAt.below {w w' : World} {n : NodeV} (h : NodeAt w n) (hb : Below w.heap.size w w') : NodeAt w' n :=
  ⟨h.text, h.sides.below hb, h.undo.below hb, h.usm, h.marks.below hb, h.ls, h.lu, h.lm⟩

/-- P6.1: a node's children, its neighbours -/
def kidsL (me : Int) : Nat → List Int → List Int
  | _, [] => []
  | i, p :: r => if p = me then (i : Int) :: kidsL me (i + 1) r else kidsL me (i + 1) r
def preL (T : List Int) (me : Int) : List Int := if me = 0 then [] else [T.getD me.toNat 0]
def peersL (T : List Int) (me : Int) : List Int := preL T me ++ kidsL me 0 T
/-- P6.2, its parts -/
def numB (T : List Int) (n : NodeV) : Bool := decide (0 ≤ n.me ∧ n.me < (T.length : Int)) && decide (1 ≤ n.ep ∧ n.ep ≤ 1048575) && decide (0 ≤ n.up ∧ n.up ≤ 1048576) && (decide (n.me ≠ 0) || decide (n.up = 0))
def undoRB : Int → List (List Part) → Bool
  | _, [] => true
  | at_, o :: r => decide (opErr o = 0) && decide (((lens o).1 : Int) = at_) && undoRB (lens o).2 r
def lenT (s : ByteArray) : Int := ((runes s).length : Int)
def undoB (n : NodeV) : Bool := decide (n.undo.length ≤ 12) && undoRB (lenT n.text) n.undo.reverse
def markB (s : ByteArray) (m : MarkV) : Bool := decide (0 ≤ m.1 ∧ m.1 ≤ lenT s) && decide (0 ≤ m.2 ∧ m.2 ≤ lenT s)
def marksB (n : NodeV) : Bool := decide (n.marks.length ≤ 1) && n.marks.all (markB n.text)
def endsB (E : List (List Part)) (s : ByteArray) : Bool := match E.getLast? with
  | none => true
  | some o => decide (((lens o).2 : Int) = lenT s)
def sideB (ready : Bool) (text : ByteArray) (s : SideV) : Bool := decide (edgeErr s.sent s.heard s.pend = 0) && decide (linkErr (mkL s.ep s.nx s.hd s.S s.Q) = 0) && (if s.joined then ready && decide (s.ep ≠ 0) && endsB s.pend text else decide (s.sent = 0) && decide (s.heard = 0))
def sidesB (T : List Int) (n : NodeV) : Bool := decide (n.sides.map (·.peer) = peersL T n.me) && n.sides.all (sideB n.ready n.text)
def firstB (ready : Bool) : List SideV → Bool
  | [] => false
  | s :: _ => decide (ready = s.joined)
theorem firstB_get (ready : Bool) {K : List SideV} (h : 0 < K.length) : firstB ready K = decide (ready = K[0].joined) := by
  cases K with
  | nil => simp at h
  | cons s r => rfl
def readyB (n : NodeV) : Bool := if n.me = 0 then n.ready else firstB n.ready n.sides && (n.ready || (decide (n.text.size = 0) && decide (n.undo.length = 0) && decide (n.marks.length = 0)))
def nodeB (T : List Int) (n : NodeV) : Bool := numB T n && decide (textErr n.text = 0) && undoB n && marksB n && sidesB T n && readyB n
def nodeErr (T : List Int) (n : NodeV) : Int := if treeErr T ≠ 0 then treeErr T else if nodeB T n = true then 0 else 9

end Go.Proofs.YtpgcjpiabciekaaDoor
