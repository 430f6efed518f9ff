/-
  What the reference reads in a line: pure; walks: wherryref.partsOf, actWords.
-/
import Derived.Test.YtelindfmdakliaaDoorLineI
import Derived.Test.YtelindfmdakliaaDoorReadL
namespace Go.Proofs.YtelindfmdakliaaDoor
open Go.RowKit Go.Lib

/-- the signs ahead of the first word -/
def preW (c : List UInt8) : List (List UInt8) → List (List UInt8)
  | [] => [c]
  | x :: ws => (c ++ x) :: ws
theorem preW_nil (l : List UInt8) : preW [] (wordsL l) = wordsL l := by
  cases h : wordsL l with
  | nil => exact absurd h (wordsL_ne l)
  | cons x ws => rfl
theorem preW_blank (c r : List UInt8) : preW c (wordsL (32 :: r)) = c :: wordsL r := by
  show preW c ([] :: wordsL r) = _
  simp [preW]
theorem preW_step (c : List UInt8) {x : UInt8} (h : x ≠ 32) (r : List UInt8) : preW c (wordsL (x :: r)) = preW (c ++ [x]) (wordsL r) := by
  have e : wordsL (x :: r) = match wordsL r with | [] => [[x]] | w :: ws => (x :: w) :: ws := by
    show (if x = 32 then _ else _) = _
    rw [if_neg h]
    rfl
  rw [e]
  cases hw : wordsL r with
  | nil => exact absurd hw (wordsL_ne r)
  | cons y ws => simp [preW]
theorem preW_end (c : List UInt8) : preW c (wordsL []) = [c] := by simp [preW, wordsL]
def strCells (W : List (List UInt8)) : List Value := W.map fun x => .string (txt x)
theorem strCells_length (W : List (List UInt8)) : (strCells W).length = W.length := List.length_map _
theorem strCells_app (W : List (List UInt8)) (x : List UInt8) : strCells (W ++ [x]) = strCells W ++ [.string (txt x)] := by unfold strCells; rw [List.map_append]; rfl
theorem info_str : (Tryd.prog.info? 9).map (fun i => (i.zero, i.size, i.bytes)) = some (some (.string .empty), 1, 16) := by kernel_rfl
theorem txt_cut (l : List UInt8) (a b : Nat) : (txt l).extract a b = txt ((l.drop a).take (b - a)) := by
  rw [← txt_same ((txt l).extract a b), Lib.extract_data, txt_list]
theorem wordsL_count : ∀ (l : List UInt8), (wordsL l).length ≤ l.length + 1
  | [] => Nat.le_refl _
  | c :: r => by
    have := wordsL_count r
    unfold wordsL
    split
    · simp only [List.length_cons]; omega
    · split
      · simp
      · rename_i w ws he
        rw [he] at this
        simp only [List.length_cons] at this ⊢; omega

set_option maxRecDepth 100000 in
set_option maxHeartbeats 2000000 in
theorem partsOf_any (l : List UInt8) (w : World) (hl : l.length ≤ 1048576) :
    Calls Tryd.prog 46 #[.string (txt l)] w fun e w' => ∃ v, e = .returned v ∧ w'.ownsRow w.heap.size 9 1 v (wordsL l).length (strCells (wordsL l)) ∧ Below w.heap.size w w' := by
  obtain ⟨i0, hi', hz0, hz1, hz2⟩ := info_parts info_str
  have hS : (txt l).size = l.length := rfl
  obtain ⟨R, hR⟩ : ∃ R, R = wordsL l := ⟨_, rfl⟩
  have HR : Hid (R = wordsL l) := hR
  rw [← hR]
  clear hR
  have HX : Hid (∀ a b, (txt l).extract a b = txt ((l.drop a).take (b - a))) := txt_cut l
  have HI0 : ∀ i (h : i < l.length), ∀ wx, (Instr.index 9 (.string (txt l)) (.int .i64 (i : Int))).run Tryd.prog wx = .ok (.int .u8 ((l[i].toNat : Nat) : Int)) wx := fun i h wx => str_index (txt l) i (i : Int) rfl h wx
  have HI : Hid _ := HI0
  clear HI0
  generalize txt l = S at *
  go_enter Tryd.func46, Tryd.ntmps46
  go_wp2_with fail
  go_loopg [3, 4, 5] (l.length + 1) (fun g ov fv iv wr => ∃ (i f : Nat) (W : List (List UInt8)), i + g = l.length + 1 ∧ f ≤ i ∧ iv = .int .i64 (i : Int) ∧ fv = .int .i64 (f : Int) ∧ wr.ownsRow w.heap.size 9 1 ov W.length (strCells W) ∧ Hid (i ≤ l.length → f ≤ l.length ∧ R = W ++ preW ((l.drop f).take (i - f)) (wordsL (l.drop i))) ∧ Hid (i = l.length + 1 → R = W) ∧ W.length ≤ i ∧ Below w.heap.size w wr)
  case atStart => exact ⟨0, 0, [], by omega, Nat.le_refl _, rfl, rfl, World.ownsRow_nil _ _ _ _, (fun _ => ⟨Nat.zero_le _, by rw [HR.out]; simp [preW_nil]⟩), (fun h => by cases h), Nat.le_refl _, Below.refl _ _⟩
  case round =>
    obtain ⟨i, f, W, hi, hfi, rfl, rfl, ho, HA, HE, hWl, HB⟩ := hrel
    have hi0 : (0 : Int) ≤ (i : Int) := by omega
    have hf0 : (0 : Int) ≤ (f : Int) := by omega
    have hfz : (f : Int) ≤ (i : Int) := by omega
    have HG : Hid (i + gk = l.length + 1) := hi
    obtain ⟨oa, oc, rfl⟩ := own_form ho
    have hlen := strCells_length W
    by_cases hle : i ≤ l.length
    · have hiz : (i : Int) ≤ (l.length : Int) := by omega
      obtain ⟨hfl, HA1⟩ := HA.out hle
      by_cases hq : i = l.length ∨ ∃ h : i < l.length, l[i] = 32
      · have hnext : Hid (R = W ++ [(l.drop f).take (i - f)] ++ (if h : i < l.length then wordsL (l.drop (i + 1)) else [])) := by
          show R = _
          rw [HA1]
          rcases hq with h | ⟨h, e⟩
          · have e : l.drop i = [] := List.drop_of_length_le (by omega)
            rw [dif_neg (by omega), e, preW_end]; simp
          · rw [dif_pos h, List.drop_eq_getElem_cons h, e, preW_blank]; simp
        have hcond : (i = l.length) ∨ (∃ h : i < l.length, l[i].toNat = 32) := by
          rcases hq with h | ⟨h, e⟩
          · exact .inl h
          · exact .inr ⟨h, by rw [e]; rfl⟩
        have hown := ho.alloc (.cells #[.string (S.extract f i)] 9)
        have hnw : (wr.alloc (.cells #[.string (S.extract f i)] 9)).heap[wr.heap.size]? = some (.cells #[.string (S.extract f i)] 9 (0, 0)) := heap_alloc_new wr _
        have hSa := HB.alloc HB.size (.cells #[.string (S.extract f i)] 9)
        have hBs := hSa.size
        have HXx : Hid (S.extract f i = txt ((l.drop f).take (i - f))) := HX.out f i
        have hrel' : ∀ (g1 cap1 : Nat) (w7 : World), w7.ownsRow w.heap.size 9 1 (.slice (some ⟨g1, 0, none⟩) (W.length + 1) cap1) (W.length + 1) (strCells W ++ [.string (S.extract f i)]) → Below w.heap.size w w7 → (∃ (i2 f2 : Nat) (W2 : List (List UInt8)), i2 + (gk - 1) = l.length + 1 ∧ f2 ≤ i2 ∧ Value.int .i64 ((i : Int) + 1) = .int .i64 (i2 : Int) ∧ Value.int .i64 ((i : Int) + 1) = .int .i64 (f2 : Int) ∧ w7.ownsRow w.heap.size 9 1 (.slice (some ⟨g1, 0, none⟩) (W.length + 1) cap1) W2.length (strCells W2) ∧ Hid (i2 ≤ l.length → f2 ≤ l.length ∧ R = W2 ++ preW ((l.drop f2).take (i2 - f2)) (wordsL (l.drop i2))) ∧ Hid (i2 = l.length + 1 → R = W2) ∧ W2.length ≤ i2 ∧ Below w.heap.size w w7) := fun g1 cap1 w7 hw hb => by
          refine ⟨i + 1, i + 1, W ++ [(l.drop f).take (i - f)], by have := HG.out; omega, Nat.le_refl _, rfl, rfl, ?_, fun h => ⟨h, ?_⟩, fun h => ?_, by simp; omega, hb⟩
          · rw [strCells_app, List.length_append, ← HXx.out]; exact hw
          · rw [hnext.out, dif_pos (by omega : i < l.length), Nat.sub_self, List.take_zero, preW_nil]
          · rw [hnext.out, dif_neg (by omega : ¬ i < l.length)]; simp
        clear ho HA HE HA1 hq hnext HX HXx
        have hmv : W.length ≤ 1048577 := by omega
        rcases hcond with h | ⟨h, e⟩
        · have hez : ((i : Int) == (l.length : Int)) = true := by rw [h]; simp
          clear hi HI h
          go_wp2_with (at_builtin; refine wpList_append_lies _ rfl _ _ 78 rfl w.heap.size 9 i0 _ 1 16 Tryd.underlying78 hi' hz0 hz1 hz2 rfl (by decide) (.slice oa W.length oc) W.length (strCells W) rfl hown ⟨wr.heap.size, 0, none⟩ 1 1 [.string (S.extract f i)] rfl rfl (World.news_of_block hnw) (by simp [Value.oneCell']) (by omega) (by unfold maxLen; omega) (by omega) hBs _ rfl ?_; intro g1 cap1 w7 hown7 hgr7 hat7 hlt7)
          have hb8 := hSa.grown hgr7 hBs (fun k e => (hown.lt k e).1)
          go_roundg (gk - 1)
          case measure => have := HG.out; omega
          case rel => exact hrel' _ _ _ hown7 hb8
        · have hez : ((i : Int) == (l.length : Int)) = false := by simp; omega
          have hx := fun wx => HI.out i h wx
          have hlt : (i : Int) < (l.length : Int) := by omega
          rw [e] at hx
          clear e h
          clear hi HI
          go_wp2_with (at_builtin; refine wpList_append_lies _ rfl _ _ 78 rfl w.heap.size 9 i0 _ 1 16 Tryd.underlying78 hi' hz0 hz1 hz2 rfl (by decide) (.slice oa W.length oc) W.length (strCells W) rfl hown ⟨wr.heap.size, 0, none⟩ 1 1 [.string (S.extract f i)] rfl rfl (World.news_of_block hnw) (by simp [Value.oneCell']) (by omega) (by unfold maxLen; omega) (by omega) hBs _ rfl ?_; intro g1 cap1 w7 hown7 hgr7 hat7 hlt7)
          have hb8 := hSa.grown hgr7 hBs (fun k e => (hown.lt k e).1)
          go_roundg (gk - 1)
          case measure => have := HG.out; omega
          case rel => exact hrel' _ _ _ hown7 hb8
      · have hil : i < l.length := Nat.lt_of_le_of_ne hle (fun h => hq (.inl h))
        have hn32 : l[i] ≠ 32 := fun h => hq (.inr ⟨hil, h⟩)
        have hx := fun wx => HI.out i hil wx
        have hez : ((i : Int) == (l.length : Int)) = false := by simp; omega
        have hez2 : (((l[i].toNat : Nat) : Int) == 32) = false := by simp; intro h; exact hn32 (UInt8.toNat_inj.1 (by show l[i].toNat = 32; omega))
        have HA2 : Hid (i + 1 ≤ l.length → f ≤ l.length ∧ R = W ++ preW ((l.drop f).take (i + 1 - f)) (wordsL (l.drop (i + 1)))) := fun _ => ⟨hfl, by
          rw [HA1, List.drop_eq_getElem_cons hil, preW_step _ hn32]
          congr 2
          rw [show i + 1 - f = (i - f) + 1 by omega, List.take_succ_eq_append_getElem (by rw [List.length_drop]; omega)]
          congr 2
          rw [List.getElem_drop]
          congr 1
          omega⟩
        have HE2 : Hid (i + 1 = l.length + 1 → R = W) := fun h => by omega
        clear HA HA1 HE hq hn32 HX HI
        generalize l[i].toNat = k at *
        have hlt : (i : Int) < (l.length : Int) := by omega
        clear hi
        go_wp2_with fail
        go_roundg (gk - 1)
        case measure => have := HG.out; omega
        case rel => exact ⟨i + 1, f, W, by have := HG.out; omega, by omega, by go_num, rfl, ho, HA2, HE2, by omega, HB⟩
    · have hiz : ¬ (i : Int) ≤ (l.length : Int) := by omega
      have hfin : Hid (R = W) := HE.out (by omega)
      clear HA HE HX HI hi
      go_wp2_with fail
      go_ret
      refine ⟨_, rfl, ?_, HB⟩
      rw [hfin.out]
      exact ho

def numsAll : List (List UInt8) → Option (List Int)
  | [] => some []
  | x :: ws => (numW x).bind fun v => (numsAll ws).map (v :: ·)
theorem numsAll_cons (x : List UInt8) (ws : List (List UInt8)) : numsAll (x :: ws) = (numW x).bind fun v => (numsAll ws).map (v :: ·) := rfl
/-- what the reference reads, behind the kind -/
def refK (k : Nat) (ws : List (List UInt8)) : Option ActI :=
  if k = 0 then none else if k = 7 then (if ws = [] then some (mkAct 7 [] []) else none) else match ws with
  | [] => none
  | y :: r => (numW y).bind fun v => if k = 1 then (partsR r).map fun ps => mkAct 1 [v] ps else (numsAll r).bind fun vs => if vs.length + 1 = (numsOf (k : Int)).length then some (mkAct k (v :: vs) []) else none
theorem refK_one (y : List UInt8) (r : List (List UInt8)) : refK 1 (y :: r) = (numW y).bind fun v => (partsR r).map fun ps => mkAct 1 [v] ps := rfl
/-- P7.3, as the reference reads a line -/
def refA (l : List UInt8) : Option ActI := match wordsL l with
  | [] => none
  | x :: ws => refK (kindL (txt x)) ws
theorem numW_nil : numW [] = none := empty_none false
theorem numsR_all : ∀ (n : Nat) (ws : List (List UInt8)), ((numsR n ws).bind fun p => if p.2 = [] then some p.1 else none) = (numsAll ws).bind fun vs => if vs.length = n then some vs else none
  | 0, [] => rfl
  | 0, x :: ws => by
    show (none : Option (List Int)) = _
    unfold numsAll
    cases numW x with
    | none => rfl
    | some v => cases numsAll ws with
      | none => rfl
      | some vs => simp
  | n + 1, [] => by
    rw [numsR_drop]
    show (((numW []).bind _).bind _) = _
    rw [numW_nil]
    rfl
  | n + 1, x :: ws => by
    rw [numsR_drop]
    unfold numsAll
    show (((numW x).bind _).bind _) = _
    cases numW x with
    | none => rfl
    | some v =>
      have ih := numsR_all n ws
      show ((numsR n ws).map fun p => (v :: p.1, p.2)).bind _ = ((numsAll ws).map (v :: ·)).bind _
      have e1 : (((numsR n ws).map fun p => (v :: p.1, p.2)).bind fun p => if p.2 = [] then some p.1 else none) = (((numsR n ws).bind fun p => if p.2 = [] then some p.1 else none)).map (v :: ·) := by
        cases numsR n ws with
        | none => rfl
        | some p => by_cases h : p.2 = [] <;> simp [h]
      have e2 : (((numsAll ws).map (v :: ·)).bind fun vs => if vs.length = n + 1 then some vs else none) = ((numsAll ws).bind fun vs => if vs.length = n then some vs else none).map (v :: ·) := by
        cases numsAll ws with
        | none => rfl
        | some p => by_cases h : p.length = n <;> simp [h]
      rw [e1, e2, ih]
def takeOp (a : ActI) : ActI := ⟨a.kd, a.nd, a.tw, a.pk, a.kp, a.op.take 8002, a.an, a.hd⟩
/-- the two ways to read a line say one thing -/
theorem readL_ref (l : List UInt8) : readL l = (refA l).map takeOp := by
  unfold readL refA
  cases hw : wordsL l with
  | nil => rfl
  | cons x ws =>
    show (numsR _ ws).bind _ = (refK _ ws).map _
    have hk := kindL_lt (txt x)
    generalize kindL (txt x) = k at *
    by_cases h0 : k = 0
    · subst h0
      show (some (([] : List Int), ws)).bind _ = none
      show finL 0 [] ws = none
      unfold finL
      simp
    by_cases h1 : k = 1
    · subst h1
      show (numsR 1 ws).bind _ = _
      rw [numsR_drop]
      cases ws with
      | nil =>
        show (((numW []).bind _).bind _) = _
        rw [numW_nil]; rfl
      | cons y r =>
        rw [refK_one]
        show (((numW y).bind _).bind _) = ((numW y).bind _).map _
        cases numW y with
        | none => rfl
        | some v =>
          show finL 1 [v] r = ((partsR r).map fun ps => mkAct 1 [v] ps).map takeOp
          unfold finL
          rw [if_pos rfl]
          cases partsR r <;> rfl
    have hfin : ∀ vs r, finL k vs r = if r = [] then some (mkAct k vs []) else none := fun vs r => by
      unfold finL
      rw [if_neg h1]
      by_cases hr : r = []
      · rw [if_pos ⟨h0, hr⟩, if_pos hr]
      · rw [if_neg (fun h => hr h.2), if_neg hr]
    have hL : ((numsR (numsOf (k : Int)).length ws).bind fun p => finL k p.1 p.2) = ((numsR (numsOf (k : Int)).length ws).bind fun p => if p.2 = [] then some p.1 else none).map (fun vs => mkAct k vs []) := by
      cases numsR (numsOf (k : Int)).length ws with
      | none => rfl
      | some p =>
        show finL k p.1 p.2 = ((if p.2 = [] then some p.1 else none).map _)
        rw [hfin]
        by_cases hr : p.2 = [] <;> simp [hr]
    rw [hL, numsR_all]
    unfold refK
    rw [if_neg h0]
    by_cases h7 : k = 7
    · subst h7
      rw [if_pos rfl]
      cases ws with
      | nil => rfl
      | cons y r =>
        rw [if_neg (List.cons_ne_nil _ _)]
        have e : (numsOf ((7 : Nat) : Int)).length = 0 := rfl
        rw [e, numsAll_cons]
        cases numW y with
        | none => rfl
        | some v => cases numsAll r <;> simp
    · rw [if_neg h7]
      have hpos : 1 ≤ (numsOf (k : Int)).length := by
        obtain rfl | rfl | rfl | rfl | rfl | rfl | rfl : k = 2 ∨ k = 3 ∨ k = 4 ∨ k = 5 ∨ k = 6 ∨ k = 8 ∨ k = 9 := by omega
        all_goals decide
      cases ws with
      | nil =>
        show (Option.map _ (if 0 = (numsOf (k : Int)).length then some [] else none)) = none
        rw [if_neg (by omega)]; rfl
      | cons y r =>
        rw [numsAll_cons]
        show _ = ((numW y).bind _).map takeOp
        cases numW y with
        | none => rfl
        | some v =>
          show _ = ((if k = 1 then _ else _ : Option ActI)).map takeOp
          rw [if_neg h1]
          cases numsAll r with
          | none => rfl
          | some vs =>
            show Option.map _ (if (v :: vs).length = _ then _ else _) = Option.map takeOp (if vs.length + 1 = _ then _ else _)
            rw [List.length_cons]
            by_cases hn : vs.length + 1 = (numsOf (k : Int)).length
            · rw [if_pos hn, if_pos hn]; rfl
            · rw [if_neg hn, if_neg hn]; rfl
/-- an act is judged alike with the parts that may count -/
theorem takeOp_err (n : Int) (a : ActI) : actErr n (takeOp a).v = actErr n a.v ∧ (actErr n a.v = 0 → takeOp a = a) := by
  by_cases h : a.op.length ≤ 8002
  · have e : takeOp a = a := by
      unfold takeOp
      rw [List.take_of_length_le h]
    exact ⟨by rw [e], fun _ => e⟩
  · have h1 : opErr a.op = 1 := by unfold opErr; rw [if_pos (by omega)]
    have h2 : opErr (a.op.take 8002) = 1 := by unfold opErr; rw [if_pos (by rw [List.length_take]; omega)]
    have hv : actErr n a.v = if ¬ (1 ≤ a.kd ∧ a.kd ≤ 9) then 3 else if actNums n a.v = false then 2 else 1 := by
      unfold actErr
      show (if ¬ (1 ≤ a.kd ∧ a.kd ≤ 9) then 3 else if actNums n a.v = false then 2 else if opErr a.op ≠ 0 then opErr a.op else _) = _
      rw [h1, if_pos (by decide : (1 : Int) ≠ 0)]
    have hv2 : actErr n (takeOp a).v = if ¬ (1 ≤ a.kd ∧ a.kd ≤ 9) then 3 else if actNums n a.v = false then 2 else 1 := by
      unfold actErr
      show (if ¬ (1 ≤ a.kd ∧ a.kd ≤ 9) then 3 else if actNums n a.v = false then 2 else if opErr (a.op.take 8002) ≠ 0 then opErr (a.op.take 8002) else _) = _
      rw [h2, if_pos (by decide : (1 : Int) ≠ 0)]
    refine ⟨by rw [hv, hv2], fun h0 => ?_⟩
    rw [hv] at h0
    split at h0
    · cases h0
    · split at h0
      · cases h0
      · cases h0
theorem kind_word (s : ByteArray) (k : Nat) (hk : 1 ≤ k ∧ k ≤ 9) : ((wordS k).toList == s.toList) = decide (kindL s = k) := by
  have hd' : ∀ i j : Fin 10, i ≠ j → (wordS i.1).data.toList ≠ (wordS j.1).data.toList := by decide
  have hd : ∀ i j, i < 10 → j < 10 → i ≠ j → (wordS i).data.toList ≠ (wordS j).data.toList := fun i j hi hj hn => hd' ⟨i, hi⟩ ⟨j, hj⟩ (fun e => hn (Fin.mk.inj e))
  by_cases h : ((wordS k).toList == s.toList) = true
  · rw [h, decide_eq_true]
    refine kindL_at (by omega) (fun j hj => ?_) h
    have e := eq_of_beq h
    rw [← e, Lib.toList_data, Lib.toList_data]
    simpa using hd j k (by omega) (by omega) (by omega)
  · rw [Bool.not_eq_true] at h
    rw [h, decide_eq_false]
    intro e
    unfold kindL at e
    cases hf : (List.range 10).find? fun k => (wordS k).toList == s.toList with
    | none => rw [hf] at e; have e : (0 : Nat) = k := e; omega
    | some j =>
      rw [hf] at e
      have e : j = k := e
      subst e
      have : ((wordS j).toList == s.toList) = true := List.find?_some (p := fun k => (wordS k).toList == s.toList) hf
      rw [this] at h
      cases h
theorem refWords_any (w : World) :
    Calls Tryd.prog 38 #[] w fun r w' => ∃ g, r = .returned (.slice (some ⟨g, 0, none⟩) 10 10) ∧ (∀ k, 1 ≤ k ∧ k ≤ 9 → w'.cell? ⟨g, k, none⟩ = some (.string (wordS k))) ∧ Below w.heap.size w w' := by
  have hb := (Below.refl w.heap.size w).alloc (Nat.le_refl _) (.cells #[.string ⟨#[]⟩, .string ⟨#[116, 121, 112, 101]⟩, .string ⟨#[117, 110, 100, 111]⟩, .string ⟨#[115, 101, 108, 101, 99, 116]⟩, .string ⟨#[100, 101, 108, 105, 118, 101, 114]⟩, .string ⟨#[100, 114, 111, 112]⟩, .string ⟨#[99, 111, 112, 121]⟩, .string ⟨#[116, 105, 99, 107]⟩, .string ⟨#[99, 114, 97, 115, 104]⟩, .string ⟨#[115, 116, 97, 114, 116]⟩] 9)
  have hn := heap_alloc_new w (.cells #[.string ⟨#[]⟩, .string ⟨#[116, 121, 112, 101]⟩, .string ⟨#[117, 110, 100, 111]⟩, .string ⟨#[115, 101, 108, 101, 99, 116]⟩, .string ⟨#[100, 101, 108, 105, 118, 101, 114]⟩, .string ⟨#[100, 114, 111, 112]⟩, .string ⟨#[99, 111, 112, 121]⟩, .string ⟨#[116, 105, 99, 107]⟩, .string ⟨#[99, 114, 97, 115, 104]⟩, .string ⟨#[115, 116, 97, 114, 116]⟩] 9)
  go_enter Tryd.func38, Tryd.ntmps38
  go_wp2_with fail
  go_ret
  refine ⟨_, rfl, fun k hk => ?_, hb⟩
  rw [(blk hn).1 k]
  obtain rfl | rfl | rfl | rfl | rfl | rfl | rfl | rfl | rfl : k = 1 ∨ k = 2 ∨ k = 3 ∨ k = 4 ∨ k = 5 ∨ k = 6 ∨ k = 7 ∨ k = 8 ∨ k = 9 := by omega
  all_goals rfl

end Go.Proofs.YtelindfmdakliaaDoor
