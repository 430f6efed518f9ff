/-
  What comes next in a walk of pieces; steps cut.
-/
import Derived.Test.YtbobeecagcmclaaDoorWalkStruct
import Derived.Test.YtbobeecagcmclaaDoorPenWalk
import Derived.Test.YtbobeecagcmclaaDoorRuneRow
namespace Go.Proofs.YtbobeecagcmclaaDoor
open Go.RowKit Go.Lib

/-- what comes next -/
inductive View : Head → List Step → Prop where
  | fin : View ⟨0, 0, []⟩ []
  | ins (rs : List Nat) (S : List Step) (h1 : 1 ≤ rs.length) (h2 : rs.length ≤ 4000) (hc : ∀ r ∈ rs, CP r) : View ⟨2, rs.length, rs⟩ (insS rs ++ S)
  | cnt (k : Int) (n : Nat) (S : List Step) (h1 : 1 ≤ n) (h2 : n ≤ 4000) (hk : k = 1 ∨ k = 3) : View ⟨k, n, []⟩ (List.replicate n (k, 0) ++ S)
theorem WalkAt.view {w0 w : World} {b : Nat} {h : Head} {L : List Step} (hw : WalkAt w0 w b h L) : View h L := by
  obtain ⟨h1, h2, h3, a, ps, cap, hblk, _, _, _, _, _, hL, hz⟩ := hw
  cases h3 with
  | fin =>
    rw [hz rfl] at hL
    rw [hL]
    exact .fin
  | ins rs h1 h2 hc =>
    rw [hL]
    exact .ins rs _ h1 h2 hc
  | cnt k n h1 h2 hk =>
    have hk2 : k ≠ 2 := by omega
    have e : (⟨k, n, []⟩ : Head).steps = List.replicate n (k, 0) := by simp [Head.steps, hk2]
    rw [hL, e]
    exact .cnt k n _ h1 h2 hk
theorem noIns_cnt {k : Int} {n : Nat} {S : List Step} (h1 : 1 ≤ n) (hk : k ≠ 2) : NoIns (List.replicate n (k, 0) ++ S) := by
  intro x r e
  obtain ⟨m, rfl⟩ : ∃ m, n = m + 1 := ⟨n - 1, by omega⟩
  rw [List.replicate_succ, List.cons_append] at e
  simp only [List.cons.injEq] at e
  rw [← e.1]
  exact hk
theorem noIns_nil : NoIns [] := fun _ _ e => by cases e
theorem olds_ins (rs : List Nat) (S : List Step) : olds (insS rs ++ S) = olds S := by
  rw [olds_append]
  have : olds (insS rs) = 0 := by
    induction rs with
    | nil => rfl
    | cons r rs ih => simpa [insS, olds] using ih
  omega
theorem olds_cnt (n : Nat) (k : Int) (S : List Step) (hk : k ≠ 2) : olds (List.replicate n (k, 0) ++ S) = n + olds S := by
  rw [olds_append]
  congr 1
  induction n with
  | zero => rfl
  | succ n ih => rw [List.replicate_succ]; simp only [olds, if_neg hk, ih]; omega
theorem insS_length (rs : List Nat) : (insS rs).length = rs.length := by simp [insS]
theorem drop_insS (rs : List Nat) (S : List Step) : (insS rs ++ S).drop rs.length = S := by
  have := insS_length rs
  rw [← this, List.drop_left]
theorem take_at (w0 w : World) (b : Nat) (h : Head) (L : List Step) (n : Nat) (hw : WalkAt w0 w b h L) (hn : n ≤ h.n) (hpos : 1 ≤ h.n) (z : Int) (hz : z = (n : Int)) :
    Calls Tryd.prog 71 #[.pointer (some ⟨b, 0, none⟩), .int .i64 z] w fun e w' => e = .returned (.agg #[.int .i64 h.kind, .int .i64 (n : Int), .string (str (h.rs.take n))]) ∧ (∃ h', WalkAt w0 w' b h' (L.drop n)) ∧ Chg (fun k => k = b) w w' := by
  subst hz
  exact take_any w0 w b h L n hw hn hpos
theorem cnt_drop {n m : Nat} {k : Int} {S : List Step} (h : n ≤ m) : List.replicate m (k, (0 : Int)) ++ S = List.replicate n (k, 0) ++ (List.replicate m (k, (0 : Int)) ++ S).drop n := by
  rw [List.drop_append_of_le_length (by simpa using h), List.drop_replicate, ← List.append_assoc, List.replicate_append_replicate]
  congr 2; omega
theorem xf_cut {n m1 m2 : Nat} {k1 k2 : Int} {S1 S2 L1 L2 : List Step} (e1 : L1 = List.replicate m1 (k1, 0) ++ S1) (e2 : L2 = List.replicate m2 (k2, 0) ++ S2) (h1 : n ≤ m1) (h2 : n ≤ m2) (hk1 : k1 ≠ 2) (hk2 : k2 ≠ 2) :
    xf L1 L2 = ((if k2 = 1 then List.replicate n (k1, 0) else []) ++ (xf (L1.drop n) (L2.drop n)).1, (if k1 = 1 then List.replicate n (k2, 0) else []) ++ (xf (L1.drop n) (L2.drop n)).2) := by
  subst e1 e2
  conv => lhs; rw [cnt_drop (k := k1) (S := S1) h1, cnt_drop (k := k2) (S := S2) h2]
  rw [xf_meets _ _ _ _ _ hk1 hk2]
theorem olds_cut {n m : Nat} {k : Int} {S L : List Step} (e : L = List.replicate m (k, 0) ++ S) (h : n ≤ m) (hk : k ≠ 2) : olds L = n + olds (L.drop n) := by
  subst e
  conv => lhs; rw [cnt_drop (k := k) (S := S) h]
  rw [olds_cnt _ _ _ hk]
theorem pens_new {w : World} (A X Y : Obj) (B : Nat) (hB : B = w.heap.size + 2) (nil : Value) (hn : nil = .slice none 0 0) (hX : X = .cells #[nil, nil, .int .i64 0] 130) (hY : Y = .cells #[nil, nil, .int .i64 0] 130) (A' : Obj) : Pens ((((w.alloc A).alloc A').alloc X).alloc Y) B (w.heap.size + 2) (w.heap.size + 3) [] [] := by
  subst hB hn hX hY
  have e2 : ((w.alloc A).alloc A').heap.size = w.heap.size + 2 := by simp
  have e3 : (((w.alloc A).alloc A').alloc (.cells #[.slice none 0 0, .slice none 0 0, .int .i64 0] 130)).heap.size = w.heap.size + 3 := by simp
  have k2 := row_old (heap_alloc_new ((w.alloc A).alloc A') (.cells #[.slice none 0 0, .slice none 0 0, .int .i64 0] 130)) (.cells #[.slice none 0 0, .slice none 0 0, .int .i64 0] 130)
  have k3 := heap_alloc_new (((w.alloc A).alloc A').alloc (.cells #[.slice none 0 0, .slice none 0 0, .int .i64 0] 130)) (.cells #[.slice none 0 0, .slice none 0 0, .int .i64 0] 130)
  rw [e2] at k2
  rw [e3] at k3
  refine ⟨.slice none 0 0, .slice none 0 0, .slice none 0 0, .slice none 0 0, ⟨Nat.le_refl _, k2, World.ownsRow_nil _ _ _ _, World.ownsRow_nil _ _ _ _⟩, ⟨by omega, k3, World.ownsRow_nil _ _ _ _, World.ownsRow_nil _ _ _ _⟩, ?_, by simp⟩
  rintro k (rfl | h | h) (h' | h' | h')
  · omega
  · simp [Value.ownBlock] at h'
  · simp [Value.ownBlock] at h'
  all_goals simp [Value.ownBlock] at h

end Go.Proofs.YtbobeecagcmclaaDoor
