/-
  What changes by type of block; rows of structs of one's own; the work of a node in memory.
-/
import Derived.Test.YtpgcjpiabciekaaDoorNodeMem
import Derived.Test.YtpgcjpiabciekaaDoorLinkGo
namespace Go.Proofs.YtpgcjpiabciekaaDoor
open Go.RowKit Go.Lib

/-- only blocks of these types may have changed -/
structure Typ (Ts : List TypeId) (w w' : World) : Prop where
  size : w.heap.size ≤ w'.heap.size
  block : ∀ (k : Nat) (cs : Array Value) (T : TypeId), T ∉ Ts → w.heap[k]? = some (.cells cs T (0, 0)) → w'.heap[k]? = some (.cells cs T (0, 0))
theorem heap_lt {w : World} {k : Nat} {o : Obj} (h : w.heap[k]? = some o) : k < w.heap.size := (Array.getElem?_eq_some_iff.1 h).1
theorem Typ.refl (Ts : List TypeId) (w : World) : Typ Ts w w := ⟨Nat.le_refl _, fun _ _ _ _ h => h⟩
theorem Typ.trans {Ts : List TypeId} {a b c : World} (h : Typ Ts a b) (k : Typ Ts b c) : Typ Ts a c := ⟨Nat.le_trans h.size k.size, fun i cs T hT e => k.block i cs T hT (h.block i cs T hT e)⟩
theorem Typ.more {Ts Us : List TypeId} {w w' : World} (h : Typ Ts w w') (hs : ∀ T ∈ Ts, T ∈ Us) : Typ Us w w' := ⟨h.size, fun i cs T hT e => h.block i cs T (fun hm => hT (hs T hm)) e⟩
theorem Typ.of_below {Ts : List TypeId} {w w' : World} (hb : Below w.heap.size w w') : Typ Ts w w' := ⟨hb.size, fun k _ _ _ e => (hb.block k (heap_lt e)).trans e⟩
theorem Typ.stored {Ts : List TypeId} {w w' : World} {b : Nat} {cs : Array Value} {T : TypeId} (hb : w.heap[b]? = some (.cells cs T (0, 0))) (hT : T ∈ Ts) (hc : Chg (fun k => k = b) w w') : Typ Ts w w' :=
  ⟨hc.size, fun k cs' T' hn e => (hc.block k (heap_lt e) (fun hk => by subst hk; rw [hb] at e; cases e; exact hn hT)).trans e⟩
theorem Typ.grown {Ts : List TypeId} {w w' : World} {B e size : Nat} {v : Value} {n : Nat} {xs : List Value} (hown : w.ownsRow B e size v n xs) (hT : e ∈ Ts) (hg : w.grownBy w' v.ownBlock) : Typ Ts w w' :=
  ⟨hg.size, fun k _ _ hn e' => (hg.block k (heap_lt e') (row_ne hown e' (fun h => hn (h ▸ hT)))).trans e'⟩
theorem SlT.typ {Ts : List TypeId} {w w' : World} {B : Nat} {T : TypeId} {v : Value} {n : Nat} {xs : List Value} (h : SlT w B T v n xs) (ht : Typ Ts w w') (hT : T ∉ Ts) : SlT w' B T v n xs := by
  obtain ⟨a, c, e, hn, hz, hx⟩ := h
  refine ⟨a, c, e, hn, hz, ?_⟩
  rcases hx with h0 | ⟨b, off, cs, ea, hB, hl, hx⟩
  · exact .inl h0
  · have hb := ht.block b cs T hT hl
    exact .inr ⟨b, off, cs, ea, hB, hb, fun j u hj => (World.cell?_of_block (a := ⟨b, off + j, none⟩) (hb.trans hl.symm)).trans (hx j u hj)⟩
theorem own_typ {Ts : List TypeId} {w w' : World} {B e size : Nat} {v : Value} {n : Nat} {xs : List Value} (h : w.ownsRow B e size v n xs) (ht : Typ Ts w w') (hT : e ∉ Ts) : w'.ownsRow B e size v n xs := by
  refine ⟨h.1, ?_⟩
  rcases h.2 with h2 | ⟨g, cap, cur, rfl, hb, hg, h3⟩
  · exact .inl h2
  · exact .inr ⟨g, cap, cur, rfl, hb, ht.block g cur e hT hg, h3⟩
theorem InT.typ {α : Type} {S : Shape α} {Ts : List TypeId} {w w' : World} {B : Nat} {v : Value} {K : List α} (h : InT S w B v K) (ht : Typ Ts w w') (h1 : S.T ∉ Ts) (h2 : 102 ∉ Ts) : InT S w' B v K := ⟨h.row.typ ht h1, fun x hx => (h.each x hx).typ ht h2⟩

/-- structs in a row of one's own, whose operations can be read -/
structure RowM {α : Type} (S : Shape α) (w : World) (B : Nat) (v : Value) (K : List α) : Prop where
  row : w.ownsRow B S.T S.size v K.length (S.all K)
  each : ∀ x ∈ K, SlT w B 102 (S.opv x) (S.ops x).length (partCells (S.ops x))
theorem RowK.rowM {α : Type} {S : Shape α} {w : World} {B : Nat} {v : Value} {K : List α} (h : RowK S w B v K) : RowM S w B v K := ⟨h.row, h.inT.each⟩
theorem rowM_nil {α : Type} (S : Shape α) (w : World) (B : Nat) : RowM S w B (.slice none 0 0) [] := (rowK_nil S w B).rowM
theorem RowM.inT {α : Type} {S : Shape α} {w : World} {B : Nat} {v : Value} {K : List α} (h : RowM S w B v K) : InT S w B v K := ⟨SlT.own h.row fun h0 => by rw [List.length_eq_zero_iff.1 h0]; rfl, h.each⟩
theorem RowM.below {α : Type} {S : Shape α} {w w' : World} {B : Nat} {v : Value} {K : List α} (h : RowM S w B v K) (hb : Below w.heap.size w w') : RowM S w' B v K := ⟨own_below h.row hb, fun x hx => (h.each x hx).below hb⟩
theorem RowM.base {α : Type} {S : Shape α} {w : World} {B B' : Nat} {v : Value} {K : List α} (h : RowM S w B v K) (hB : B' ≤ B) : RowM S w B' v K := ⟨own_base h.row hB, fun x hx => (h.each x hx).base hB⟩
theorem RowM.typ {α : Type} {S : Shape α} {Ts : List TypeId} {w w' : World} {B : Nat} {v : Value} {K : List α} (h : RowM S w B v K) (ht : Typ Ts w w') (h1 : S.T ∉ Ts) (h2 : 102 ∉ Ts) : RowM S w' B v K := ⟨own_typ h.row ht h1, fun x hx => (h.each x hx).typ ht h2⟩
theorem RowM.app {α : Type} {S : Shape α} {Ts : List TypeId} {w w' : World} {B : Nat} {v v' : Value} {K : List α} {x : α} (h : RowM S w B v K) (hu : SlT w B 102 (S.opv x) (S.ops x).length (partCells (S.ops x))) (hr : w'.ownsRow B S.T S.size v' (K.length + 1) (S.all K ++ S.cells x)) (ht : Typ Ts w w') (h2 : 102 ∉ Ts) : RowM S w' B v' (K ++ [x]) := by
  refine ⟨by rw [List.length_append, S.all_append, S.all_one]; exact hr, fun y hy => ?_⟩
  rcases List.mem_append.1 hy with hy | hy
  · exact (h.each y hy).typ ht h2
  · simp only [List.mem_singleton] at hy
    subst hy
    exact hu.typ ht h2

/-- operations, posts, records in a row -/
abbrev OpK := List Part × Value
def opS : Shape OpK := ⟨31, 1, fun x => [x.2], (·.2), (·.1), fun _ => rfl, by decide⟩
abbrev PoK := Int × PkK
def poS : Shape PoK := ⟨93, 10, fun x => .int .i64 x.1 :: pkVals x.2.1 x.2.2, (·.2.2), (·.2.1.frame.op), fun _ => rfl, by decide⟩
abbrev ReK := Int × OpK
def reS : Shape ReK := ⟨181, 2, fun x => [.int .i64 x.1, x.2.2], (·.2.2), (·.2.1), fun _ => rfl, by decide⟩
theorem info_po : (Tryd.prog.info? 93).map (fun i => (i.zero, i.size, i.bytes)) = some (some (.agg #[.int .i64 0, .int .i64 0, .int .i64 0, .bool false, .int .i64 0, .int .i64 0, .int .i64 0, .int .i64 0, .slice none 0 0, .string .empty]), 10, 104) := by kernel_rfl
theorem info_si : (Tryd.prog.info? 140).map (fun i => (i.zero, i.size, i.bytes)) = some (some (.agg #[.int .i64 0, .bool false, .int .i64 0, .int .i64 0, .slice none 0 0, .int .i64 0, .int .i64 0, .slice none 0 0, .slice none 0 0, .int .i64 0]), 10, 128) := by kernel_rfl

/-- operations that can be read by their types are pending ones -/
theorem opS_vals (K : List OpK) : opS.all K = K.map (·.2) := by
  induction K with
  | nil => rfl
  | cons x K ih => show opS.all ([x] ++ K) = _; rw [opS.all_append, opS.all_one, ih]; rfl
theorem InT.pend {w : World} {B : Nat} {a : Option Addr} {c n : Nat} {K : List OpK} (h : InT opS w B (.slice a n c) K) : n = K.length ∧ PendAt w a c (K.map (·.1)) (K.map (·.2)) := by
  obtain ⟨a', c', e, hn, hz, hc⟩ := h.row
  simp only [Value.slice.injEq] at e
  obtain ⟨rfl, rfl, rfl⟩ := e
  refine ⟨rfl, by simp, by simpa using hn, ?_, fun i h1 h2 => ?_⟩
  · rw [opS_vals] at hc
    rcases hc with h0 | ⟨b, off, cs, ea, _, hl, hc⟩
    · exact .inl h0
    · exact .inr ⟨b, off, ea, heap_lt hl, fun j hj => hc j _ (List.getElem?_eq_getElem hj)⟩
  · have hi : i < K.length := by simpa using h1
    have := (h.each K[i] (List.getElem_mem hi)).slIn.op
    simpa [opS] using this

/-- a side whose rows can be read by their types -/
structure SideT (w : World) (B : Nat) (s : SideV) : Prop where
  pl : s.pvs.length = s.pend.length
  pend : InT opS w B (.slice s.pa s.pend.length s.pc) (s.pend.zip s.pvs)
  inS : InT frS w B s.sv s.S
  inQ : InT frS w B s.qv s.Q
  psm : ∀ q ∈ s.pend, OpSmall q
  plen : s.pend.length ≤ 1048576
  sentB : -9223372036854775808 ≤ s.sent ∧ s.sent ≤ 9223372036854775807
  fS : ∀ x ∈ s.S, FrSmall x.1
  fQ : ∀ x ∈ s.Q, FrSmall x.1
  lS : s.S.length ≤ 1048577
  lQ : s.Q.length ≤ 1048577
theorem zip_fst {α β : Type} : ∀ (a : List α) (b : List β), b.length = a.length → (a.zip b).map (·.1) = a
  | [], _, _ => by simp
  | x :: a, y :: b, h => by simp [zip_fst a b (by simpa using h)]
theorem zip_snd {α β : Type} : ∀ (a : List α) (b : List β), b.length = a.length → (a.zip b).map (·.2) = b
  | [], b, h => by simp at h; simp [h]
  | x :: a, y :: b, h => by simp [zip_snd a b (by simpa using h)]
theorem SideT.side {w : World} {B : Nat} {s : SideV} (h : SideT w B s) : SideAt w s := by
  have hp := h.pend.pend.2
  rw [zip_fst _ _ h.pl, zip_snd _ _ h.pl] at hp
  exact ⟨hp, h.psm, h.plen, h.sentB, h.inS.inK.base (Nat.zero_le _), h.inQ.inK.base (Nat.zero_le _), h.fS, h.fQ, h.lS, h.lQ⟩
theorem SideT.typ {Ts : List TypeId} {w w' : World} {B : Nat} {s : SideV} (h : SideT w B s) (ht : Typ Ts w w') (h1 : 31 ∉ Ts) (h2 : 102 ∉ Ts) (h3 : 47 ∉ Ts) : SideT w' B s :=
  ⟨h.pl, h.pend.typ ht h1 h2, h.inS.typ ht h3 h2, h.inQ.typ ht h3 h2, h.psm, h.plen, h.sentB, h.fS, h.fQ, h.lS, h.lQ⟩
theorem SideT.below {w w' : World} {B : Nat} {s : SideV} (h : SideT w B s) (hb : Below w.heap.size w w') : SideT w' B s := ⟨h.pl, h.pend.below hb, h.inS.below hb, h.inQ.below hb, h.psm, h.plen, h.sentB, h.fS, h.fQ, h.lS, h.lQ⟩
theorem SideT.base {w : World} {B B' : Nat} {s : SideV} (h : SideT w B s) (hB : B' ≤ B) : SideT w B' s := ⟨h.pl, h.pend.base hB, h.inS.base hB, h.inQ.base hB, h.psm, h.plen, h.sentB, h.fS, h.fQ, h.lS, h.lQ⟩

/-- sides in a row of one's own -/
def sidesAll (K : List SideV) : List Value := K.flatMap sideVals
theorem sidesAll_append (a b : List SideV) : sidesAll (a ++ b) = sidesAll a ++ sidesAll b := by simp [sidesAll]
theorem sidesAll_length (K : List SideV) : (sidesAll K).length = K.length * 10 := by
  induction K with
  | nil => rfl
  | cons x K ih => show (sideVals x ++ sidesAll K).length = _; rw [List.length_append, ih]; simp [sideVals]; omega
theorem sidesAll_get : ∀ (K : List SideV) (i j : Nat) (h : i < K.length), j < 10 → (sidesAll K)[i * 10 + j]? = (sideVals K[i])[j]?
  | [], i, _, h, _ => by simp at h
  | x :: K, 0, j, _, hj => by show (sideVals x ++ sidesAll K)[0 * 10 + j]? = _; rw [Nat.zero_mul, Nat.zero_add, List.getElem?_append_left (by simpa [sideVals] using hj)]; rfl
  | x :: K, i + 1, j, h, hj => by
    have := sidesAll_get K i j (by simpa using h) hj
    show (sideVals x ++ sidesAll K)[(i + 1) * 10 + j]? = _
    rw [List.getElem?_append_right (by simp [sideVals]; omega)]
    simp only [show (sideVals x).length = 10 from rfl]
    rw [show (i + 1) * 10 + j - 10 = i * 10 + j by omega, this]
    rfl
theorem sideVals_len (s : SideV) : (sideVals s).length = 10 := rfl
theorem sides_cells {w : World} {B : Nat} {a : Option Addr} {c n : Nat} {K : List SideV} (h : w.ownsRow B 140 10 (.slice a n c) n (sidesAll K)) (hn : n = K.length) : K.length ≤ c ∧ CellsAt w a 10 (K.map sideVals) := by
  subst hn
  rcases h.2 with ⟨e, h0⟩ | ⟨g, cap, cur, e, hb, hg, hn, _⟩
  · simp only [Value.slice.injEq] at e
    exact ⟨by omega, .inl (by rw [List.length_eq_zero_iff.1 h0]; rfl)⟩
  · simp only [Value.slice.injEq, true_and] at e
    obtain ⟨rfl, rfl⟩ := e
    refine ⟨hn, .inr ⟨g, 0, rfl, heap_lt hg, fun i hi j u hj => ?_⟩⟩
    have hi' : i < K.length := by simpa using hi
    have hj' : j < 10 := by
      have := (List.getElem?_eq_some_iff.1 hj).1
      simpa [sideVals] using this
    have := h.cells (g := g) rfl (i * 10 + j) u (by rw [sidesAll_get K i j hi' hj']; simpa using hj)
    rw [WideShapes.add_plain] at this
    rw [Nat.add_assoc]
    exact this
structure SidesT (w : World) (B : Nat) (v : Value) (K : List SideV) : Prop where
  row : w.ownsRow B 140 10 v K.length (sidesAll K)
  each : ∀ s ∈ K, SideT w B s
theorem SidesT.sides {w : World} {B : Nat} {a : Option Addr} {c n : Nat} {K : List SideV} (h : SidesT w B (.slice a n c) K) : n = K.length ∧ SidesAt w a c K := by
  have e : n = K.length := by
    obtain ⟨a', c', e⟩ := own_form h.row
    cases e
    rfl
  subst e
  obtain ⟨h1, h2⟩ := sides_cells h.row rfl
  exact ⟨rfl, h1, h2, fun s hs => (h.each s hs).side⟩
theorem SidesT.typ {Ts : List TypeId} {w w' : World} {B : Nat} {v : Value} {K : List SideV} (h : SidesT w B v K) (ht : Typ Ts w w') (h0 : 140 ∉ Ts) (h1 : 31 ∉ Ts) (h2 : 102 ∉ Ts) (h3 : 47 ∉ Ts) : SidesT w' B v K := ⟨own_typ h.row ht h0, fun s hs => (h.each s hs).typ ht h1 h2 h3⟩
theorem SidesT.below {w w' : World} {B : Nat} {v : Value} {K : List SideV} (h : SidesT w B v K) (hb : Below w.heap.size w w') : SidesT w' B v K := ⟨own_below h.row hb, fun s hs => (h.each s hs).below hb⟩
theorem SidesT.base {w : World} {B B' : Nat} {v : Value} {K : List SideV} (h : SidesT w B v K) (hB : B' ≤ B) : SidesT w B' v K := ⟨own_base h.row hB, fun s hs => (h.each s hs).base hB⟩
theorem sidesT_nil (w : World) (B : Nat) : SidesT w B (.slice none 0 0) [] := ⟨World.ownsRow_nil _ _ _ _, fun _ h => by simp at h⟩

/-- a turn: the node, what it sends, what it writes -/
structure TurnV where
  me : Int
  ep : Int
  up : Int
  ready : Bool
  text : ByteArray
  sides : List SideV
  undo : List OpK
  marks : List MarkV
  posts : List PoK
  recs : List ReK
def marksAll (K : List MarkV) : List Value := K.flatMap markVals
structure TurnAt (w : World) (B : Nat) (V : TurnV) (sv uv mv pv rv : Value) : Prop where
  sides : SidesT w B sv V.sides
  undo : RowM opS w B uv V.undo
  marks : w.ownsRow B 84 2 mv V.marks.length (marksAll V.marks)
  posts : RowM poS w B pv V.posts
  recs : RowM reS w B rv V.recs
theorem TurnAt.below {w w' : World} {B : Nat} {V : TurnV} {sv uv mv pv rv : Value} (h : TurnAt w B V sv uv mv pv rv) (hb : Below w.heap.size w w') : TurnAt w' B V sv uv mv pv rv := ⟨h.sides.below hb, h.undo.below hb, own_below h.marks hb, h.posts.below hb, h.recs.below hb⟩
theorem TurnAt.base {w : World} {B B' : Nat} {V : TurnV} {sv uv mv pv rv : Value} (h : TurnAt w B V sv uv mv pv rv) (hB : B' ≤ B) : TurnAt w B' V sv uv mv pv rv := ⟨h.sides.base hB, h.undo.base hB, own_base h.marks hB, h.posts.base hB, h.recs.base hB⟩
/-- nothing of a turn's own lies in a block of such a type -/
def Far (Ts : List TypeId) : Prop := 140 ∉ Ts ∧ 31 ∉ Ts ∧ 102 ∉ Ts ∧ 47 ∉ Ts ∧ 84 ∉ Ts ∧ 93 ∉ Ts ∧ 181 ∉ Ts
theorem TurnAt.typ {Ts : List TypeId} {w w' : World} {B : Nat} {V : TurnV} {sv uv mv pv rv : Value} (h : TurnAt w B V sv uv mv pv rv) (ht : Typ Ts w w') (hf : Far Ts) : TurnAt w' B V sv uv mv pv rv :=
  ⟨h.sides.typ ht hf.1 hf.2.1 hf.2.2.1 hf.2.2.2.1, h.undo.typ ht hf.2.1 hf.2.2.1, own_typ h.marks ht hf.2.2.2.2.1, h.posts.typ ht hf.2.2.2.2.2.1 hf.2.2.1, h.recs.typ ht hf.2.2.2.2.2.2 hf.2.2.1⟩
/-- a turn that is not over yet: behind a pointer -/
structure WorkAt (w : World) (B p : Nat) (V : TurnV) (sv uv mv pv rv : Value) : Prop where
  blk : w.heap[p]? = some (.cells #[.int .i64 V.me, .int .i64 V.ep, .int .i64 V.up, .bool V.ready, .string V.text, sv, uv, mv, pv, rv] 134 (0, 0))
  hB : B ≤ p
  turn : TurnAt w B V sv uv mv pv rv
theorem WorkAt.below {w w' : World} {B p : Nat} {V : TurnV} {sv uv mv pv rv : Value} (h : WorkAt w B p V sv uv mv pv rv) (hb : Below w.heap.size w w') : WorkAt w' B p V sv uv mv pv rv := ⟨(hb.block p (heap_lt h.blk)).trans h.blk, h.hB, h.turn.below hb⟩

end Go.Proofs.YtpgcjpiabciekaaDoor
