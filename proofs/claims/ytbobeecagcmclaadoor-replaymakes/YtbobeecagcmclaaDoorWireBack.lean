/-
  Records as bytes, and back.
-/
import Derived.Test.YtbobeecagcmclaaDoorWireNums
namespace Go.Proofs.YtbobeecagcmclaaDoor
open Go.RowKit Go.Lib

theorem numGo_back : ∀ (d i acc : Nat) (l l' : List Nat) (n : Nat), (∀ x ∈ l, x < 256) → numGo d i acc l = .ok (n, l') → ∃ m, l = sev m ++ l' ∧ n = acc + m * 128 ^ i ∧ (0 < i → m ≠ 0)
  | 0, _, _, _, _, _, _, h => by cases h
  | _ + 1, _, _, [], _, _, _, h => by cases h
  | d + 1, i, acc, x :: l, l', n, hb, h => by
    have h' : (if x < 128 then (if x = 0 ∧ 0 < i then Except.error 4 else .ok (acc + x * 128 ^ i, l)) else numGo d (i + 1) (acc + x % 128 * 128 ^ i) l) = (Except.ok (n, l') : Except Int (Nat × List Nat)) := h
    by_cases hx : x < 128
    · rw [if_pos hx] at h'
      by_cases h0 : x = 0 ∧ 0 < i
      · rw [if_pos h0] at h'; cases h'
      · rw [if_neg h0] at h'
        cases h'
        exact ⟨x, by rw [sev_small hx]; rfl, rfl, by omega⟩
    · rw [if_neg hx] at h'
      obtain ⟨m, h1, h2, h3⟩ := numGo_back d (i + 1) _ l l' n (fun y hy => hb y (List.mem_cons_of_mem _ hy)) h'
      have hm := h3 (by omega)
      have hx2 := hb x (List.mem_cons_self ..)
      refine ⟨x % 128 + 128 * m, ?_, ?_, fun _ => by omega⟩
      · rw [sev_big (by omega), show (x % 128 + 128 * m) % 128 + 128 = x by omega, show (x % 128 + 128 * m) / 128 = m by omega, h1]
        rfl
      · rw [h2, Nat.pow_succ, Nat.add_mul, Nat.add_assoc, Nat.mul_comm (128 ^ i) 128, ← Nat.mul_assoc, Nat.mul_comm m 128]
theorem num_back {l l' : List Nat} {n : Nat} (hb : ∀ x ∈ l, x < 256) (h : numP l = .ok (n, l')) : l = sev n ++ l' := by
  obtain ⟨m, h1, h2, _⟩ := numGo_back 4 0 0 l l' n hb h
  rw [h2, h1]; simp

theorem text_sev {s : ByteArray} (h : s.size < 268435456) (l : List Nat) : textP (sev s.size ++ (sbytes s ++ l)) = .ok (s, l) := by
  unfold textP
  rw [num_sev h]
  show (if s.size ≤ (sbytes s ++ l).length then _ else _) = _
  rw [if_pos (by rw [List.length_append, sbytes_length]; omega)]
  rw [← sbytes_length, List.take_left, List.drop_left, bstr_sbytes]
theorem text_back {l l' : List Nat} {s : ByteArray} (hb : ∀ x ∈ l, x < 256) (h : textP l = .ok (s, l')) : l = sev s.size ++ (sbytes s ++ l') := by
  unfold textP at h
  cases hn : numP l with
  | error e => rw [hn] at h; cases h
  | ok x =>
    obtain ⟨n, r⟩ := x
    rw [hn] at h
    have h' : (if n ≤ r.length then Except.ok (bstr (r.take n), r.drop n) else .error 5) = (Except.ok (s, l') : Except Int (ByteArray × List Nat)) := h
    by_cases hnr : n ≤ r.length
    · rw [if_pos hnr] at h'
      cases h'
      have e := num_back hb hn
      have hr : ∀ x ∈ r.take n, x < 256 := fun x hx => hb x (by rw [e]; exact List.mem_append_right _ (List.mem_of_mem_take hx))
      rw [bstr_size, sbytes_bstr hr, List.take_append_drop, List.length_take, Nat.min_eq_left hnr]
      exact e
    · rw [if_neg hnr] at h'; cases h'

/-- a part that has what its kind has -/
def BareP (p : Part) : Prop := (p.kind = 2 → p.n = 0) ∧ (p.kind ≠ 2 → p.text = ByteArray.empty)
theorem part_sev {p : Part} (h : PartW p) (hb : BareP p) (l : List Nat) : partP (partW p ++ l) = .ok (p, l) := by
  obtain ⟨k, n, s⟩ := p
  obtain ⟨⟨k0, k1⟩, ⟨n0, n1⟩, hs⟩ := h
  simp only at k0 k1 n0 n1 hs
  obtain ⟨k, rfl⟩ : ∃ m : Nat, k = (m : Int) := ⟨k.toNat, by omega⟩
  obtain ⟨n, rfl⟩ : ∃ m : Nat, n = (m : Int) := ⟨n.toNat, by omega⟩
  unfold partP partW
  simp only
  rw [show ((k : Int)).toNat = k by omega, show ((n : Int)).toNat = n by omega, List.append_assoc, num_sev (by omega)]
  simp only
  by_cases h2 : k = 2
  · subst h2
    have hn : (n : Int) = 0 := hb.1 rfl
    rw [if_pos rfl, if_pos (by rfl), List.append_assoc, text_sev (by omega), hn]
    rfl
  · have hs : s = ByteArray.empty := hb.2 (by simp only; omega)
    rw [if_neg h2, if_neg (by omega), num_sev (by omega), hs]
    rfl
theorem part_back {l l' : List Nat} {p : Part} (hb : ∀ x ∈ l, x < 256) (h : partP l = .ok (p, l')) : l = partW p ++ l' ∧ BareP p := by
  unfold partP at h
  cases hn : numP l with
  | error e => rw [hn] at h; cases h
  | ok x =>
    obtain ⟨n, r⟩ := x
    rw [hn] at h
    have e := num_back hb hn
    have hr : ∀ x ∈ r, x < 256 := fun x hx => hb x (by rw [e]; exact List.mem_append_right _ hx)
    have h' : (if n = 2 then mapR (textP r) (fun s => (⟨2, 0, s⟩ : Part)) else mapR (numP r) (fun m : Nat => (⟨(n : Int), (m : Int), ByteArray.empty⟩ : Part))) = (Except.ok (p, l') : Except Int (Part × List Nat)) := h
    by_cases h2 : n = 2
    · subst h2
      rw [if_pos rfl] at h'
      cases ht : textP r with
      | error e => rw [ht] at h'; cases h'
      | ok y =>
        obtain ⟨s, r'⟩ := y
        rw [ht] at h'
        have h3 : (Except.ok ((⟨2, 0, s⟩ : Part), r') : Except Int (Part × List Nat)) = Except.ok (p, l') := h'
        cases h3
        refine ⟨?_, fun _ => rfl, fun h => absurd rfl h⟩
        rw [e, text_back hr ht]
        unfold partW
        simp
    · rw [if_neg h2] at h'
      cases ht : numP r with
      | error e => rw [ht] at h'; cases h'
      | ok y =>
        obtain ⟨m, r'⟩ := y
        rw [ht] at h'
        have h3 : (Except.ok ((⟨(n : Int), (m : Int), ByteArray.empty⟩ : Part), r') : Except Int (Part × List Nat)) = Except.ok (p, l') := h'
        cases h3
        refine ⟨?_, fun h => absurd h (by simp only; omega), fun _ => rfl⟩
        rw [e, num_back hr ht]
        unfold partW
        simp only
        rw [if_neg (by omega), show ((n : Int)).toNat = n by omega, show ((m : Int)).toNat = m by omega, List.append_assoc]

theorem parts_sev : ∀ (ps : List Part) (l : List Nat), (∀ p ∈ ps, PartW p ∧ BareP p) → partsP ps.length (ps.flatMap partW ++ l) = .ok (ps, l)
  | [], _, _ => rfl
  | p :: ps, l, h => by
    show (match partP ((p :: ps).flatMap partW ++ l) with | .ok x => mapR (partsP ps.length x.2) (fun D => x.1 :: D) | .error e => .error e) = _
    have hp := h p (List.mem_cons_self ..)
    rw [List.flatMap_cons, List.append_assoc, part_sev hp.1 hp.2]
    show mapR (partsP ps.length (ps.flatMap partW ++ l)) (fun D => p :: D) = _
    rw [parts_sev ps l (fun q hq => h q (List.mem_cons_of_mem _ hq))]
    rfl
theorem parts_back : ∀ (k : Nat) (l l' : List Nat) (ps : List Part), (∀ x ∈ l, x < 256) → partsP k l = .ok (ps, l') → l = ps.flatMap partW ++ l' ∧ ps.length = k ∧ ∀ p ∈ ps, BareP p
  | 0, l, l', ps, _, h => by cases h; exact ⟨rfl, rfl, by simp⟩
  | k + 1, l, l', ps, hb, h => by
    have h' : (match partP l with | .ok x => mapR (partsP k x.2) (fun D => x.1 :: D) | .error e => .error e) = Except.ok (ps, l') := h
    cases hn : partP l with
    | error e => rw [hn] at h'; cases h'
    | ok x =>
      obtain ⟨p, r⟩ := x
      rw [hn] at h'
      obtain ⟨e, hp⟩ := part_back hb hn
      have hr : ∀ x ∈ r, x < 256 := fun x hx => hb x (by rw [e]; exact List.mem_append_right _ hx)
      cases hq : partsP k r with
      | error e =>
        have h2 : mapR (partsP k r) (fun D => p :: D) = Except.ok (ps, l') := h'
        rw [hq] at h2; cases h2
      | ok y =>
        obtain ⟨D, r'⟩ := y
        have h2 : mapR (partsP k r) (fun D => p :: D) = Except.ok (ps, l') := h'
        rw [hq] at h2
        have h3 : (Except.ok (p :: D, r') : Except Int (List Part × List Nat)) = Except.ok (ps, l') := h2
        cases h3
        obtain ⟨e2, e3, e4⟩ := parts_back k r l' D hr hq
        refine ⟨by rw [e, e2, List.flatMap_cons, List.append_assoc], by rw [List.length_cons, e3], fun q hq => ?_⟩
        rcases List.mem_cons.1 hq with rfl | hq
        · exact hp
        · exact e4 q hq
theorem op_sev {ps : List Part} (hl : ps.length < 268435456) (h : ∀ p ∈ ps, PartW p ∧ BareP p) (l : List Nat) : opP (opW ps ++ l) = .ok (ps, l) := by
  unfold opP opW
  rw [List.append_assoc, num_sev hl]
  exact parts_sev ps l h
theorem op_back {l l' : List Nat} {ps : List Part} (hb : ∀ x ∈ l, x < 256) (h : opP l = .ok (ps, l')) : l = opW ps ++ l' ∧ ∀ p ∈ ps, BareP p := by
  unfold opP at h
  cases hn : numP l with
  | error e => rw [hn] at h; cases h
  | ok x =>
    obtain ⟨n, r⟩ := x
    rw [hn] at h
    have e := num_back hb hn
    have hr : ∀ x ∈ r, x < 256 := fun x hx => hb x (by rw [e]; exact List.mem_append_right _ hx)
    obtain ⟨e2, e3, e4⟩ := parts_back n r l' ps hr h
    refine ⟨?_, e4⟩
    unfold opW
    rw [e, e3, List.append_assoc, ← e2]
theorem rec_back {l l' : List Nat} {e : Nat} {ps : List Part} (hb : ∀ x ∈ l, x < 256) (h : recP l = .ok ((e, ps), l')) : l = recW e ps ++ l' := by
  unfold recP at h
  cases hn : numP l with
  | error e => rw [hn] at h; cases h
  | ok x =>
    obtain ⟨n, r⟩ := x
    rw [hn] at h
    have e1 := num_back hb hn
    have hr : ∀ x ∈ r, x < 256 := fun x hx => hb x (by rw [e1]; exact List.mem_append_right _ hx)
    have h' : (if n = 0 then mapR (opP r) (fun ps => (0, ps)) else .ok ((n, []), r)) = (Except.ok ((e, ps), l') : Except Int ((Nat × List Part) × List Nat)) := h
    by_cases h0 : n = 0
    · subst h0
      rw [if_pos rfl] at h'
      cases hq : opP r with
      | error e => rw [hq] at h'; cases h'
      | ok y =>
        obtain ⟨D, r'⟩ := y
        rw [hq] at h'
        have h3 : (Except.ok ((0, D), r') : Except Int ((Nat × List Part) × List Nat)) = Except.ok ((e, ps), l') := h'
        cases h3
        unfold recW
        rw [if_pos rfl, e1, (op_back hr hq).1, List.append_assoc]
    · rw [if_neg h0] at h'
      cases h'
      unfold recW
      rw [if_neg h0, e1, List.append_nil]
theorem opErr_bare {ps : List Part} (h : opErr ps = 0) : ∀ p ∈ ps, BareP p := by
  have ok := opErr_zero h
  intro p hp
  have g := ok.chain.good p hp
  exact ⟨fun h2 => (g.text h2).1, fun h2 => (g.count h2).2.2⟩
theorem rec_sevs {e : Nat} {ps : List Part} (h : recordErr (e : Int) ps = 0) (hs : ∀ p ∈ ps, p.text.size ≤ 1048576) (l : List Nat) : recP (recW e ps ++ l) = .ok ((e, ps), l) := by
  obtain ⟨hr, hn, ho⟩ := recordErr_zero h
  obtain ⟨hl, hw⟩ := opErr_parts ho hs
  have hbr := opErr_bare ho
  unfold recP recW
  rw [List.append_assoc, num_sev (by omega)]
  show (if e = 0 then mapR (opP ((if e = 0 then opW ps else []) ++ l)) (fun ps => (0, ps)) else .ok ((e, []), (if e = 0 then opW ps else []) ++ l)) = _
  by_cases h0 : e = 0
  · subst h0
    rw [if_pos rfl, if_pos rfl, op_sev (by omega) (fun p hp => ⟨hw p hp, hbr p hp⟩)]
    rfl
  · rw [if_neg h0, if_neg h0, hn (by omega)]
    rfl

theorem recW_small (n : Nat) (ps : List Part) : ∀ x ∈ recW n ps, x < 256 := by
  have hp : ∀ p : Part, ∀ x ∈ partW p, x < 256 := by
    intro p x hx
    unfold partW at hx
    rcases List.mem_append.1 hx with h | h
    · exact sev_bytes _ x h
    · split at h
      · rcases List.mem_append.1 h with h | h
        · exact sev_bytes _ x h
        · exact sbytes_small _ x h
      · exact sev_bytes _ x h
  intro x hx
  unfold recW at hx
  rcases List.mem_append.1 hx with h | h
  · exact sev_bytes _ x h
  · split at h
    · unfold opW at h
      rcases List.mem_append.1 h with h | h
      · exact sev_bytes _ x h
      · obtain ⟨p, _, hq⟩ := List.mem_flatMap.1 h
        exact hp p x hq
    · simp at h
theorem part_text_le {p : Part} (hb : BareP p) : p.text.size ≤ (partW p).length := by
  unfold partW
  by_cases h2 : p.kind = 2
  · rw [if_pos h2, List.length_append, List.length_append, sbytes_length]; omega
  · rw [hb.2 h2]; exact Nat.zero_le _
theorem flat_le {p : Part} {ps : List Part} (h : p ∈ ps) : (partW p).length ≤ (ps.flatMap partW).length := by
  induction ps with
  | nil => cases h
  | cons q ps ih =>
    rw [List.flatMap_cons, List.length_append]
    rcases List.mem_cons.1 h with rfl | h
    · omega
    · have := ih h; omega
theorem numGo_err : ∀ (d i acc : Nat) (l : List Nat) (e : Int), numGo d i acc l = .error e → e ≠ 0
  | 0, _, _, _, _, h => by cases h; decide
  | _ + 1, _, _, [], _, h => by cases h; decide
  | d + 1, i, acc, x :: l, e, h => by
    have h' : (if x < 128 then (if x = 0 ∧ 0 < i then Except.error 4 else .ok (acc + x * 128 ^ i, l)) else numGo d (i + 1) (acc + x % 128 * 128 ^ i) l) = (Except.error e : Except Int (Nat × List Nat)) := h
    by_cases hx : x < 128
    · rw [if_pos hx] at h'
      by_cases h0 : x = 0 ∧ 0 < i
      · rw [if_pos h0] at h'; cases h'; decide
      · rw [if_neg h0] at h'; cases h'
    · rw [if_neg hx] at h'
      exact numGo_err d (i + 1) _ l e h'
theorem numP_err {l : List Nat} {e : Int} (h : numP l = .error e) : e ≠ 0 := numGo_err _ _ _ _ _ h
theorem mapR_err {α β : Type} {f : α → β} {x : Except Int (α × List Nat)} {e : Int} (h : mapR x f = .error e) : x = .error e := by
  cases x with
  | error e' => cases h; rfl
  | ok y => cases h
theorem textP_err {l : List Nat} {e : Int} (h : textP l = .error e) : e ≠ 0 := by
  unfold textP at h
  cases hn : numP l with
  | error e' => rw [hn] at h; cases h; exact numP_err hn
  | ok x =>
    rw [hn] at h
    simp only at h
    split at h
    · cases h
    · cases h; decide
theorem partP_err {l : List Nat} {e : Int} (h : partP l = .error e) : e ≠ 0 := by
  unfold partP at h
  cases hn : numP l with
  | error e' => rw [hn] at h; cases h; exact numP_err hn
  | ok x =>
    rw [hn] at h
    simp only at h
    split at h
    · exact textP_err (mapR_err h)
    · exact numP_err (mapR_err h)
theorem partsP_err : ∀ (k : Nat) (l : List Nat) (e : Int), partsP k l = .error e → e ≠ 0
  | 0, _, _, h => by cases h
  | k + 1, l, e, h => by
    have h' : (match partP l with | .ok x => mapR (partsP k x.2) (fun D => x.1 :: D) | .error e => .error e) = Except.error e := h
    cases hn : partP l with
    | error e' => rw [hn] at h'; cases h'; exact partP_err hn
    | ok x => rw [hn] at h'; exact partsP_err k _ e (mapR_err h')
theorem opP_err {l : List Nat} {e : Int} (h : opP l = .error e) : e ≠ 0 := by
  unfold opP at h
  cases hn : numP l with
  | error e' => rw [hn] at h; cases h; exact numP_err hn
  | ok x => rw [hn] at h; exact partsP_err _ _ e h
theorem recP_err {l : List Nat} {e : Int} (h : recP l = .error e) : e ≠ 0 := by
  unfold recP at h
  cases hn : numP l with
  | error e' => rw [hn] at h; cases h; exact numP_err hn
  | ok x =>
    rw [hn] at h
    simp only at h
    split at h
    · exact opP_err (mapR_err h)
    · cases h

end Go.Proofs.YtbobeecagcmclaaDoor
