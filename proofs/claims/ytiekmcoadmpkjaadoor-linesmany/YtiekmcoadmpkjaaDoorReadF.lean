/-
  What is read shows as it was written: pure.
-/
import Derived.Test.YtiekmcoadmpkjaaDoorReadL
namespace Go.Proofs.YtiekmcoadmpkjaaDoor
open Go.RowKit Go.Lib

def nats (l : List UInt8) : List Nat := l.map (·.toNat)
theorem nats_append (a b : List UInt8) : nats (a ++ b) = nats a ++ nats b := by simp [nats]
theorem nats_lt (l : List UInt8) : ∀ x ∈ nats l, x < 256 := by
  intro x hx
  obtain ⟨y, _, rfl⟩ := List.mem_map.1 hx
  exact y.toNat_lt
theorem bstr_nats (s : ByteArray) : bstr (nats s.data.toList) = s := bstr_sbytes s
/-- words, each behind a blank -/
def tails (ws : List (List UInt8)) : List UInt8 := ws.flatMap fun w => 32 :: w
theorem wordsL_join : ∀ (l : List UInt8) (x : List UInt8) (ws : List (List UInt8)), wordsL l = x :: ws → l = x ++ tails ws
  | [], x, ws, h => by cases h; rfl
  | c :: r, x, ws, h => by
    unfold wordsL at h
    split at h
    · rename_i hc
      subst hc
      cases h
      cases hr : wordsL r with
      | nil => exact absurd hr (wordsL_ne r)
      | cons y ys =>
        have := wordsL_join r y ys hr
        show (32 : UInt8) :: r = [] ++ tails (y :: ys)
        conv => lhs; rw [this]
        rfl
    · split at h
      · rename_i hr
        exact absurd hr (wordsL_ne r)
      · rename_i y ys hr
        simp only [List.cons.injEq] at h
        obtain ⟨h1, h2⟩ := h
        subst h1 h2
        have := wordsL_join r y ys hr
        conv => lhs; rw [this]
        rfl
theorem kindL_word {x : List UInt8} {k : Nat} (h : kindL (txt x) = k) (hk : k ≠ 0) : sbytes (wordS k) = nats x := by
  unfold kindL at h
  cases hf : (List.range 10).find? (fun k => (wordS k).toList == (txt x).toList) with
  | none => rw [hf] at h; exact absurd h.symm hk
  | some j =>
    rw [hf] at h
    have hj : j = k := h
    subst hj
    have := List.find?_some hf
    have e : (wordS j).toList = (txt x).toList := by simpa using this
    rw [Lib.toList_data, Lib.toList_data, txt_list] at e
    unfold sbytes nats
    rw [e]
theorem numW_nil : numW [] = none := by rfl
theorem numW_dec {w : List UInt8} {v : Int} (h : numW w = some v) : decL v = nats w := by
  unfold numW at h
  split at h
  · rename_i v' hA
    split at h
    · rename_i he
      cases h
      unfold decL nats
      rw [he]
    · cases h
  · cases h
theorem numsR_join : ∀ (m : Nat) (ws : List (List UInt8)) (vs : List Int) (r : List (List UInt8)), numsR m ws = some (vs, r) → nats (tails ws) = (vs.flatMap fun v => 32 :: decL v) ++ nats (tails r)
  | 0, ws, vs, r, h => by cases h; rfl
  | m + 1, ws, vs, r, h => by
    rw [numsR_drop] at h
    obtain ⟨v, hv, h⟩ := Option.bind_eq_some_iff.1 h
    obtain ⟨p, hp, h⟩ := Option.map_eq_some_iff.1 h
    cases h
    cases ws with
    | nil => rw [show hdW [] = [] from rfl, numW_nil] at hv; cases hv
    | cons w ws =>
      have ih := numsR_join m ws p.1 p.2 hp
      have hd := numW_dec (w := w) hv
      show nats ((32 :: w) ++ tails ws) = _
      rw [nats_append, ih, List.flatMap_cons, hd, List.append_assoc]
      rfl
theorem hexV_D {c : UInt8} {v : Nat} (h : hexV c = some v) : hexD v = c.toNat := by
  unfold hexV at h
  unfold hexD
  split at h
  · cases h; rw [if_pos (by omega)]; omega
  · split at h
    · cases h; rw [if_neg (by omega)]; omega
    · cases h
theorem unhexL_back : ∀ (l : List UInt8) (t : List Nat), unhexL l = some t → hexL t = nats l ∧ ∀ x ∈ t, x < 256
  | [], t, h => by cases h; exact ⟨rfl, fun x hx => by simp at hx⟩
  | [_], t, h => by cases h
  | a :: b :: r, t, h => by
    rw [unhexL_two] at h
    split at h
    · rename_i x y l hx hy hl
      cases h
      obtain ⟨h1, h2⟩ := unhexL_back r l hl
      have lx := hexV_lt hx
      have ly := hexV_lt hy
      refine ⟨?_, fun z hz => ?_⟩
      · show hexD ((16 * x + y) / 16) :: hexD ((16 * x + y) % 16) :: hexL l = nats (a :: b :: r)
        rw [show (16 * x + y) / 16 = x by omega, show (16 * x + y) % 16 = y by omega, hexV_D hx, hexV_D hy, h1]
        rfl
      · rcases List.mem_cons.1 hz with rfl | hz
        · omega
        · exact h2 z hz
    · cases h
theorem partOfL_back {x : List UInt8} {p : Part} (h : partOfL x = some p) : partL p = nats x := by
  unfold partOfL at h
  split at h
  · cases h
  · rename_i c r
    split at h
    · rename_i hc
      subst hc
      obtain ⟨v, hv, rfl⟩ := Option.map_eq_some_iff.1 h
      show 107 :: decL v = _
      rw [numW_dec hv]; rfl
    · split at h
      · rename_i hc
        subst hc
        obtain ⟨v, hv, rfl⟩ := Option.map_eq_some_iff.1 h
        show 100 :: decL v = _
        rw [numW_dec hv]; rfl
      · split at h
        · rename_i hc
          subst hc
          obtain ⟨t, ht, rfl⟩ := Option.map_eq_some_iff.1 h
          obtain ⟨h1, h2⟩ := unhexL_back r t ht
          show 105 :: hexL (sbytes (bstr t)) = _
          rw [sbytes_bstr h2, h1]; rfl
        · cases h
theorem partsR_join : ∀ (ws : List (List UInt8)) (ps : List Part), partsR ws = some ps → opTx ps = nats (tails ws)
  | [], ps, h => by cases h; rfl
  | x :: ws, ps, h => by
    unfold partsR at h
    split at h
    · cases h
    · rename_i q hq
      split at h
      · cases h
      · rename_i qs hqs
        cases h
        have ih := partsR_join ws qs hqs
        show (32 :: partL q) ++ opTx qs = nats ((32 :: x) ++ tails ws)
        rw [ih, partOfL_back hq, nats_append]
        rfl
theorem numL_vs {k : Nat} (hk : k < 10) (vs : List Int) (h : vs.length = (numsOf (k : Int)).length) : numL (numAt (vAt k vs 1) (vAt k vs 2) (vAt k vs 3) (vAt k vs 4) (vAt k vs 6) (vAt k vs 7)) (numsOf (k : Int)) = vs.flatMap fun v => 32 :: decL v := by
  obtain rfl | rfl | rfl | rfl | rfl | rfl | rfl | rfl | rfl | rfl : k = 0 ∨ k = 1 ∨ k = 2 ∨ k = 3 ∨ k = 4 ∨ k = 5 ∨ k = 6 ∨ k = 7 ∨ k = 8 ∨ k = 9 := by omega
  all_goals
    match vs, h with
    | [], h => first | rfl | (exact absurd h (by decide))
    | [_], h => first | rfl | (exact absurd h (by simp [numsOf]))
    | [_, _], h => first | rfl | (exact absurd h (by simp [numsOf]))
    | [_, _, _], h => first | rfl | (exact absurd h (by simp [numsOf]))
    | _ :: _ :: _ :: _ :: _, h => exact absurd h (by simp [numsOf])
/-- an act that was read shows as its line -/
theorem readL_line {l : List UInt8} {a : ActI} (h : readL l = some a) (ho : opErr a.op = 0) : a.line = nats l ++ [10] := by
  unfold readL at h
  split at h
  · cases h
  · rename_i x ws he
    have hj := wordsL_join l x ws he
    obtain ⟨⟨vs, r⟩, hn, h⟩ := Option.bind_eq_some_iff.1 h
    obtain ⟨_, _, hlen⟩ := numsR_ok _ _ _ _ hn
    have hnj := numsR_join _ _ _ _ hn
    have hkl := kindL_lt (txt x)
    obtain ⟨k, hk⟩ : ∃ k, kindL (txt x) = k := ⟨_, rfl⟩
    rw [hk] at hn hlen h hkl
    rw [hj, nats_append, hnj]
    unfold finL at h
    split at h
    · rename_i h1
      subst h1
      obtain ⟨ps, hp, rfl⟩ := Option.map_eq_some_iff.1 h
      have h8 := (op_kinds ho).1
      have hl8 : (ps.take 8002).length ≤ 8001 := h8
      rw [List.length_take] at hl8
      have ht : ps.take 8002 = ps := List.take_of_length_le (by omega)
      show sbytes (wordS 1) ++ numL (numAt (vAt 1 vs 1) (vAt 1 vs 2) (vAt 1 vs 3) (vAt 1 vs 4) (vAt 1 vs 6) (vAt 1 vs 7)) (numsOf ((1 : Nat) : Int)) ++ opTx (ps.take 8002) ++ [10] = _
      rw [ht, kindL_word hk (by decide), numL_vs (by decide) vs hlen, partsR_join r ps hp]
      simp
    · split at h
      · rename_i h1 h2
        cases h
        obtain ⟨h2, rfl⟩ := h2
        show sbytes (wordS ((k : Int)).toNat) ++ numL (numAt (vAt k vs 1) (vAt k vs 2) (vAt k vs 3) (vAt k vs 4) (vAt k vs 6) (vAt k vs 7)) (numsOf ((((k : Int)).toNat : Nat) : Int)) ++ [] ++ [10] = _
        rw [Int.toNat_natCast, kindL_word hk h2, numL_vs hkl vs hlen]
        simp [nats, tails]
      · cases h
theorem cut_join {c : UInt8} {s : List UInt8} (h : (cutB c s).2.2 = true) : s = (cutB c s).1 ++ c :: (cutB c s).2.1 := by
  have h3 := List.takeWhile_append_dropWhile (p := (· != c)) (l := s)
  have h1 := cut_less h
  show s = s.takeWhile (· != c) ++ c :: (s.dropWhile (· != c)).drop 1
  cases hd : s.dropWhile (· != c) with
  | nil =>
    exfalso
    have h4 : s.any (· == c) = true := h
    rw [hd, List.append_nil] at h3
    obtain ⟨x, hx, he⟩ := List.any_eq_true.1 h4
    rw [← h3] at hx
    have h5 := List.all_takeWhile (p := (· != c)) (l := s)
    have := List.all_eq_true.1 h5 x hx
    simp [bne, he] at this
  | cons y r =>
    have hy : y = c := by
      have := List.head?_dropWhile_not (p := (· != c)) (l := s)
      rw [hd] at this
      simpa using this
    subst hy
    conv => lhs; rw [← h3, hd]
    rfl
theorem readA_bad {n : Int} : ∀ (g : Nat) (D : List ActI) (s : List UInt8) (L : List ActI) (i : Nat) (e : Int), readA n g D s = (L, i, e) → e ≠ 0 → L = []
  | 0, D, s, L, i, e, h, he => by cases h; rfl
  | g + 1, D, s, L, i, e, h, he => by
    rw [readA_succ] at h
    split at h
    · cases h; exact absurd rfl he
    · split at h
      · cases h; rfl
      · split at h
        · cases h; rfl
        · split at h
          · cases h; rfl
          · split at h
            · cases h; rfl
            · exact readA_bad g _ _ L i e h he
theorem readA_ok {n : Int} : ∀ (g : Nat) (D : List ActI) (s : List UInt8) (L : List ActI) (i : Nat), readA n g D s = (L, i, 0) → s.length < g → (∀ x ∈ D, actErr n x.v = 0) → D.length ≤ 3000 → i = 0 ∧ L.length ≤ 3000 ∧ (∀ x ∈ L, actErr n x.v = 0) ∧ L.flatMap ActI.line = D.flatMap ActI.line ++ nats s
  | 0, D, s, L, i, h, hg, hD, hl => absurd hg (Nat.not_lt_zero _)
  | g + 1, D, s, L, i, h, hg, hD, hl => by
    rw [readA_succ] at h
    split at h
    · rename_i hs
      cases h
      subst hs
      exact ⟨rfl, hl, hD, by simp [nats]⟩
    · split at h
      · cases h
      · rename_i h3
        split at h
        · cases h
        · rename_i a ha
          split at h
          · cases h
          · rename_i hc
            have hc : (cutB 10 s).2.2 = true := by simpa using hc
            split at h
            · rename_i he
              have := congrArg (fun p => p.2.2) h
              exact absurd this he
            · rename_i he
              have he : actErr n a.v = 0 := by
                rcases Classical.em (actErr n a.v = 0) with h | h
                · exact h
                · exact absurd h he
              have hlt := cut_less hc
              obtain ⟨i1, i2, i3, i4⟩ := readA_ok g (D ++ [a]) (cutB 10 s).2.1 L i h (by omega) (fun x hx => by
                rcases List.mem_append.1 hx with hx | hx
                · exact hD x hx
                · rw [List.mem_singleton.1 hx]; exact he) (by rw [List.length_append, List.length_singleton]; omega)
              refine ⟨i1, i2, i3, ?_⟩
              have hln := readL_line ha (act_ok he).2.2.1
              rw [i4, List.flatMap_append, List.flatMap_cons, List.flatMap_nil, List.append_nil, hln]
              conv => rhs; rw [cut_join hc]
              rw [nats_append]
              simp [nats]
theorem showA_all {n : Int} : ∀ (K : List ActI) (i : Nat) (acc : List Nat), (∀ x ∈ K, actErr n x.v = 0) → showA n i acc K = (acc ++ K.flatMap ActI.line, 0, 0)
  | [], i, acc, h => by show (acc, 0, 0) = _; simp
  | x :: K, i, acc, h => by
    show (if actErr n x.v ≠ 0 then _ else _) = _
    rw [if_neg (fun k => k (h x List.mem_cons_self)), showA_all K _ _ fun y hy => h y (List.mem_cons_of_mem _ hy)]
    simp
/-- what is read shows as the text that was read -/
theorem readX_back {T : List Int} {s : List UInt8} {L : List ActI} {i : Nat} (h : readX T s = (L, i, 0)) : i = 0 ∧ showR T L = (nats s, 0, 0) := by
  unfold readX at h
  split at h
  · rename_i ht
    have := congrArg (fun p => p.2.2) h
    exact absurd this ht
  · rename_i ht
    obtain ⟨h1, h2, h3, h4⟩ := readA_ok _ _ _ _ _ h (by omega) (fun x hx => by simp at hx) (Nat.zero_le _)
    refine ⟨h1, ?_⟩
    unfold showR
    rw [if_neg ht, if_neg (by omega), showA_all L 0 [] h3, h4]
    rfl
theorem readX_bad {T : List Int} {s : List UInt8} {L : List ActI} {i : Nat} {e : Int} (h : readX T s = (L, i, e)) (he : e ≠ 0) : L = [] := by
  unfold readX at h
  split at h
  · cases h; rfl
  · exact readA_bad _ _ _ _ _ _ h he
theorem tick_ok' (n : Int) (h : 1 ≤ n) : actErr n (ActI.v ⟨7, 0, 0, 0, 0, [], 0, 0⟩) = 0 := by
  unfold actErr
  rw [if_neg (by show ¬ ¬ ((1 : Int) ≤ 7 ∧ (7 : Int) ≤ 9); decide)]
  have h1 : actNums n (ActI.v ⟨7, 0, 0, 0, 0, [], 0, 0⟩) = true := by
    unfold actNums
    refine decide_eq_true ?_
    show ((0 : Int) ≤ 0 ∧ (0 : Int) ≤ n - 1) ∧ ((0 : Int) ≤ 0 ∧ (0 : Int) ≤ n - 1) ∧ ((0 : Int) ≤ 0 ∧ (0 : Int) ≤ 1048576) ∧ ((0 : Int) ≤ 0 ∧ (0 : Int) ≤ 8388608) ∧ ((0 : Int) ≤ 0 ∧ (0 : Int) ≤ 4000) ∧ ((0 : Int) ≤ 0 ∧ (0 : Int) ≤ 4000)
    omega
  rw [if_neg (by rw [h1]; decide)]
  rfl
def kindD (l : List UInt8) : Nat := ((List.range 10).find? fun k => (wordS k).data.toList == l).getD 0
theorem kindL_D (l : List UInt8) : kindL (txt l) = kindD l := by unfold kindL kindD; simp only [Lib.toList_data, txt_list]
/-- tick, tock -/
theorem readX_tock {T : List Int} (ht : treeErr T = 0) : readX T [116, 105, 99, 107, 10, 116, 111, 99, 107, 10] = ([], 1, 4) := by
  have h1 := (treeErr_zero ht).1.1
  have hr : readL (cutB 10 [116, 105, 99, 107, 10, 116, 111, 99, 107, 10]).1 = some ⟨7, 0, 0, 0, 0, [], 0, 0⟩ := by
    show readL [116, 105, 99, 107] = _
    unfold readL
    rw [show wordsL [116, 105, 99, 107] = [[116, 105, 99, 107]] from rfl]
    simp only
    rw [kindL_D, show kindD [116, 105, 99, 107] = 7 by rfl]
    rfl
  have hr2 : readL (cutB 10 [116, 111, 99, 107, 10]).1 = none := by
    show readL [116, 111, 99, 107] = _
    unfold readL
    rw [show wordsL [116, 111, 99, 107] = [[116, 111, 99, 107]] from rfl]
    simp only
    rw [kindL_D, show kindD [116, 111, 99, 107] = 0 by rfl]
    rfl
  have hc : (cutB 10 [116, 105, 99, 107, 10, 116, 111, 99, 107, 10]).2.2 = true := by rfl
  have hc2 : (cutB 10 [116, 105, 99, 107, 10, 116, 111, 99, 107, 10]).2.1 = [116, 111, 99, 107, 10] := by rfl
  unfold readX
  rw [if_neg (fun k => k ht)]
  show readA T.length (10 + 1) [] _ = _
  rw [readA_succ, if_neg (by decide), if_neg (by decide), hr]
  show (if _ then _ else _) = _
  rw [if_neg (by rw [hc]; decide), if_neg (by rw [tick_ok' _ (by omega)]; decide), hc2]
  show readA T.length (9 + 1) _ _ = _
  rw [readA_succ, if_neg (by decide), if_neg (by decide), hr2]
  rfl
end Go.Proofs.YtiekmcoadmpkjaaDoor
