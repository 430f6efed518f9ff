/-
  Packets as bytes, and back; torn ones.
-/
import Derived.Test.YtekgennapogcgaaDoorWirePkE
import Derived.Test.YtekgennapogcgaaDoorWireBack
namespace Go.Proofs.YtekgennapogcgaaDoor
open Go.RowKit Go.Lib

/-- these bytes are read so; torn they end too early -/
structure Reads {α : Type} (P : List Nat → Except Int (α × List Nat)) (L : List Nat) (a : α) : Prop where
  full : ∀ r, P (L ++ r) = .ok (a, r)
  torn : ∀ k, k < L.length → P (L.take k) = .error 5
theorem reads_pure {α : Type} (a : α) : Reads (pureP a) [] a := ⟨fun _ => rfl, fun k h => by simp at h⟩
theorem reads_seq {α β : Type} {P : List Nat → Except Int (α × List Nat)} {Q : α → List Nat → Except Int (β × List Nat)} {L M : List Nat} {a : α} {b : β} (h : Reads P L a) (g : Reads (Q a) M b) : Reads (seqP P Q) (L ++ M) b := by
  refine ⟨fun r => ?_, fun k hk => ?_⟩
  · unfold seqP
    rw [List.append_assoc, h.full]
    exact g.full r
  · unfold seqP
    by_cases hl : k < L.length
    · rw [List.take_append_of_le_length (by omega), h.torn k hl]
    · rw [List.take_append, List.take_of_length_le (by omega), h.full]
      exact g.torn (k - L.length) (by rw [List.length_append] at hk; omega)
theorem reads_last {α β : Type} {P : List Nat → Except Int (α × List Nat)} {Q : α → List Nat → Except Int (β × List Nat)} {L : List Nat} {a : α} {b : β} (h : Reads P L a) (hq : Q a = pureP b) : Reads (seqP P Q) L b := by
  have := reads_seq (Q := Q) (M := []) (b := b) h (by rw [hq]; exact reads_pure b)
  rwa [List.append_nil] at this
theorem sev_pos (n : Nat) : 0 < (sev n).length := by
  obtain ⟨L, z, h, _⟩ := sev_last n
  rw [h, List.length_append]; simp
theorem numGo_torn : ∀ (d i acc n k : Nat), (sev n).length ≤ d → k < (sev n).length → numGo d i acc ((sev n).take k) = .error 5
  | 0, _, _, n, _, h, _ => by have := sev_pos n; omega
  | d + 1, i, acc, n, k, h, hk => by
    cases k with
    | zero => rw [List.take_zero]; rfl
    | succ k =>
      by_cases hn : n < 128
      · rw [sev_small hn] at hk; simp at hk
      · rw [sev_big hn] at h hk ⊢
        rw [List.length_cons] at h hk
        rw [List.take_succ_cons]
        show (if n % 128 + 128 < 128 then _ else numGo d (i + 1) (acc + (n % 128 + 128) % 128 * 128 ^ i) ((sev (n / 128)).take k)) = _
        rw [if_neg (by omega)]
        exact numGo_torn d (i + 1) _ (n / 128) k (by omega) (by omega)
theorem reads_num {n : Nat} (h : n < 268435456) : Reads numP (sev n) n := ⟨fun r => num_sev h r, fun k hk => numGo_torn 4 0 0 n k (sev_le h) hk⟩
theorem reads_text {s : ByteArray} (h : s.size < 268435456) : Reads textP (sev s.size ++ sbytes s) s := by
  refine ⟨fun r => by rw [List.append_assoc]; exact text_sev h r, fun k hk => ?_⟩
  unfold textP
  by_cases hl : k < (sev s.size).length
  · rw [List.take_append_of_le_length (by omega), (reads_num h).torn k hl]
  · rw [List.take_append, List.take_of_length_le (by omega), num_sev h]
    show (if s.size ≤ _ then _ else Except.error 5) = _
    rw [List.length_append, sbytes_length] at hk
    rw [if_neg]
    rw [List.length_take, sbytes_length]
    omega
theorem partP_seq : partP = seqP numP fun n => if n = 2 then seqP textP fun s => pureP ⟨2, 0, s⟩ else seqP numP fun m => pureP ⟨(n : Int), (m : Int), ByteArray.empty⟩ := by
  funext l
  unfold partP seqP
  cases numP l with
  | error e => rfl
  | ok x =>
    simp only
    by_cases h : x.1 = 2
    · rw [if_pos h, if_pos h]; cases textP x.2 <;> rfl
    · rw [if_neg h, if_neg h]; cases numP x.2 <;> rfl
theorem partsP_seq (m : Nat) : partsP (m + 1) = seqP partP fun p => seqP (partsP m) fun D => pureP (p :: D) := by
  funext l
  show (match partP l with | .ok x => mapR (partsP m x.2) (fun D => x.1 :: D) | .error e => .error e) = _
  unfold seqP
  cases partP l with
  | error e => rfl
  | ok x => simp only; cases partsP m x.2 <;> rfl
theorem opP_seq : opP = seqP numP fun n => partsP n := by
  funext l
  unfold opP seqP
  cases numP l <;> rfl
theorem reads_part {p : Part} (h : PartW p) (hb : BareP p) : Reads partP (partW p) p := by
  rw [partP_seq]
  obtain ⟨k, n, s⟩ := p
  obtain ⟨⟨k0, k1⟩, ⟨n0, n1⟩, hs⟩ := h
  simp only at k0 k1 n0 n1 hs
  obtain ⟨k, rfl⟩ : ∃ m : Nat, k = (m : Int) := ⟨k.toNat, by omega⟩
  obtain ⟨n, rfl⟩ : ∃ m : Nat, n = (m : Int) := ⟨n.toNat, by omega⟩
  unfold partW
  simp only
  rw [show ((k : Int)).toNat = k by omega, show ((n : Int)).toNat = n by omega]
  refine reads_seq (reads_num (by omega)) ?_
  by_cases h2 : k = 2
  · subst h2
    have hn : (n : Int) = 0 := hb.1 rfl
    rw [if_pos rfl, if_pos (by rfl), hn]
    exact reads_last (reads_text (s := s) (by omega)) rfl
  · have hs : s = ByteArray.empty := hb.2 (by simp only; omega)
    subst hs
    rw [if_neg h2, if_neg (by omega)]
    exact reads_last (reads_num (n := n) (by omega)) rfl
theorem reads_parts : ∀ (ps : List Part), (∀ p ∈ ps, PartW p ∧ BareP p) → Reads (partsP ps.length) (ps.flatMap partW) ps
  | [], _ => ⟨fun _ => rfl, fun k h => by simp at h⟩
  | p :: ps, h => by
    rw [List.length_cons, partsP_seq, List.flatMap_cons]
    have hp := h p (List.mem_cons_self ..)
    refine reads_seq (reads_part hp.1 hp.2) ?_
    exact reads_last (reads_parts ps (fun q hq => h q (List.mem_cons_of_mem _ hq))) rfl
theorem reads_op {ps : List Part} (hl : ps.length < 268435456) (h : ∀ p ∈ ps, PartW p ∧ BareP p) : Reads opP (opW ps) ps := by
  rw [opP_seq]
  exact reads_seq (reads_num hl) (reads_parts ps h)

/-- a frame that has what its kind has -/
structure FrameB (f : FrameV) : Prop where
  w : FrameW f
  parts : ∀ p ∈ f.op, BareP p
  one : f.kind = 1 → f.epoch = 0 ∧ f.text = ByteArray.empty
  two : f.kind = 2 → f.op = [] ∧ f.text = ByteArray.empty
  three : f.kind = 3 → f.op = [] ∧ f.heard = 0
theorem reads_frame {f : FrameV} (h : FrameB f) : Reads frameP (frameW f) f := by
  obtain ⟨hw, hb, h1, h2, h3⟩ := h
  obtain ⟨hk, hh, he, hm, hp, hx⟩ := hw
  obtain ⟨k, fh, fe, ps, tx⟩ := f
  simp only at hk hh he hm hp hx hb h1 h2 h3
  unfold frameP frameW
  simp only
  rcases hk with rfl | rfl | rfl
  · obtain ⟨rfl, rfl⟩ := h1 rfl
    refine reads_seq (reads_num (by decide)) ?_
    rw [if_pos rfl, if_pos rfl]
    refine reads_seq (reads_num hh) ?_
    exact reads_last (reads_op (ps := ps) (by omega) (fun p hq => ⟨hp p hq, hb p hq⟩)) rfl
  · obtain ⟨rfl, rfl⟩ := h2 rfl
    refine reads_seq (reads_num (by decide)) ?_
    rw [if_neg (by decide), if_neg (by decide), if_neg (by decide), if_pos rfl]
    refine reads_seq (reads_num he) ?_
    exact reads_last (reads_num hh) rfl
  · obtain ⟨rfl, rfl⟩ := h3 rfl
    refine reads_seq (reads_num (by decide)) ?_
    rw [if_neg (by decide), if_pos rfl, if_neg (by decide), if_neg (by decide), if_pos rfl]
    refine reads_seq (reads_num he) ?_
    exact reads_last (reads_text (s := tx) (by omega)) rfl
structure PacketB (p : PacketV) : Prop where
  w : PacketW p
  yes : p.bare = true → p.number = 0 ∧ p.frame = frame0
  no : p.bare = false → p.number ≠ 0 ∧ FrameB p.frame
theorem reads_packet {p : PacketV} (h : PacketB p) : Reads packetP (packetW p) p := by
  obtain ⟨⟨h1, h2, h3, _⟩, hy, hn⟩ := h
  obtain ⟨ep, num, bare, ack, f⟩ := p
  simp only at h1 h2 h3 hy hn
  unfold packetP packetW
  simp only
  refine reads_seq (reads_num h1) (reads_seq (reads_num h3) (reads_seq (reads_num h2) ?_))
  cases bare with
  | true =>
    obtain ⟨rfl, rfl⟩ := hy rfl
    rw [if_pos rfl, if_pos rfl]
    exact reads_pure _
  | false =>
    obtain ⟨h0, hf⟩ := hn rfl
    rw [if_neg h0, if_neg (by decide)]
    exact reads_last (reads_frame hf) rfl

/- back -/
theorem seq_inv {α β : Type} {P : List Nat → Except Int (α × List Nat)} {Q : α → List Nat → Except Int (β × List Nat)} {l l' : List Nat} {b : β} (h : seqP P Q l = .ok (b, l')) : ∃ a r, P l = .ok (a, r) ∧ Q a r = .ok (b, l') := by
  unfold seqP at h
  cases hp : P l with
  | error e => rw [hp] at h; cases h
  | ok x => rw [hp] at h; exact ⟨x.1, x.2, rfl, h⟩
theorem pure_inv {α : Type} {a b : α} {l l' : List Nat} (h : pureP a l = .ok (b, l')) : b = a ∧ l' = l := by cases h; exact ⟨rfl, rfl⟩
theorem small_rest {l a r : List Nat} (h : ∀ x ∈ l, x < 256) (e : l = a ++ r) : ∀ x ∈ r, x < 256 := fun x hx => h x (by rw [e]; exact List.mem_append_right _ hx)
theorem frame_back {l l' : List Nat} {f : FrameV} (h256 : ∀ x ∈ l, x < 256) (h : frameP l = .ok (f, l')) (hk : f.kind = 1 ∨ f.kind = 2 ∨ f.kind = 3) : l = frameW f ++ l' := by
  obtain ⟨k, r, e1, h⟩ := seq_inv h
  have b1 := num_back h256 e1
  have s1 := small_rest h256 b1
  by_cases h1 : k = 1
  · rw [if_pos h1] at h
    obtain ⟨x, r2, e2, h⟩ := seq_inv h
    have b2 := num_back s1 e2
    have s2 := small_rest s1 b2
    obtain ⟨ps, r3, e3, h⟩ := seq_inv h
    obtain ⟨rfl, rfl⟩ := pure_inv h
    have b3 := (op_back s2 e3).1
    rw [b1, b2, b3, h1]
    simp [frameW]
  · rw [if_neg h1] at h
    by_cases h3 : k = 3
    · rw [if_pos h3] at h
      obtain ⟨x, r2, e2, h⟩ := seq_inv h
      have b2 := num_back s1 e2
      have s2 := small_rest s1 b2
      obtain ⟨s, r3, e3, h⟩ := seq_inv h
      obtain ⟨rfl, rfl⟩ := pure_inv h
      have b3 := text_back s2 e3
      rw [b1, b2, b3, h3]
      simp [frameW]
    · rw [if_neg h3] at h
      obtain ⟨x, r2, e2, h⟩ := seq_inv h
      have b2 := num_back s1 e2
      have s2 := small_rest s1 b2
      obtain ⟨y, r3, e3, h⟩ := seq_inv h
      obtain ⟨rfl, rfl⟩ := pure_inv h
      have b3 := num_back s2 e3
      simp only at hk
      obtain rfl : k = 2 := by omega
      rw [b1, b2, b3]
      simp [frameW]
theorem packet_back {l l' : List Nat} {p : PacketV} (h256 : ∀ x ∈ l, x < 256) (h : packetP l = .ok (p, l')) (hk : p.bare = false → p.frame.kind = 1 ∨ p.frame.kind = 2 ∨ p.frame.kind = 3) : l = packetW p ++ l' := by
  obtain ⟨ep, r1, e1, h⟩ := seq_inv h
  have b1 := num_back h256 e1
  have s1 := small_rest h256 b1
  obtain ⟨ack, r2, e2, h⟩ := seq_inv h
  have b2 := num_back s1 e2
  have s2 := small_rest s1 b2
  obtain ⟨num, r3, e3, h⟩ := seq_inv h
  have b3 := num_back s2 e3
  have s3 := small_rest s2 b3
  by_cases h0 : num = 0
  · rw [if_pos h0] at h
    obtain ⟨rfl, rfl⟩ := pure_inv h
    rw [b1, b2, b3, h0]
    simp [packetW]
  · rw [if_neg h0] at h
    obtain ⟨f, r4, e4, h⟩ := seq_inv h
    obtain ⟨rfl, rfl⟩ := pure_inv h
    have b4 := frame_back s3 e4 (hk rfl)
    rw [b1, b2, b3, b4]
    simp [packetW]

theorem frameErr_bare {f : FrameV} (h : frameErr f.kind f.heard f.epoch f.op f.text = 0) (hs : ∀ q ∈ f.op, q.text.size ≤ 1048576) (hx : f.text.size ≤ 1048576) : FrameB f := by
  unfold frameErr at h
  split at h
  · cases h
  rename_i hk
  split at h
  · cases h
  rename_i hh
  split at h
  · cases h
  rename_i he
  split at h
  · rename_i h1; exact absurd h h1
  rename_i ho
  split at h
  · rename_i h1; exact absurd h h1
  split at h
  · rename_i hown
    have jh : 0 ≤ (f.heard : Int) ∧ (f.heard : Int) ≤ 1048576 := of_decide_eq_true (show inN _ = true by simpa using hh)
    have je : 0 ≤ (f.epoch : Int) ∧ (f.epoch : Int) ≤ 1048576 := of_decide_eq_true (show inN _ = true by simpa using he)
    have ho' : opErr f.op = 0 := by simpa using ho
    obtain ⟨hm, hp⟩ := opErr_parts ho' hs
    unfold ownB at hown
    refine ⟨⟨by omega, by omega, by omega, hm, hp, hx⟩, opErr_bare ho', fun h1 => ?_, fun h2 => ?_, fun h3 => ?_⟩
    · rw [if_pos (by omega)] at hown
      simp at hown
      exact ⟨by omega, hown.2⟩
    · rw [if_neg (by omega), if_pos (by omega)] at hown
      simp at hown
      exact ⟨hown.1.2, hown.2⟩
    · rw [if_neg (by omega), if_neg (by omega)] at hown
      simp at hown
      exact ⟨hown.1.2, by omega⟩
  · cases h
theorem pkErr_bare {p : PacketV} (h : pkErr p = 0) (hs : ∀ q ∈ p.frame.op, q.text.size ≤ 1048576) (hx : p.frame.text.size ≤ 1048576) : PacketB p := by
  refine ⟨pkErr_zero h hs hx, fun hb => ?_, fun hb => ?_⟩
  all_goals
    unfold pkErr packetErr at h
    rw [hb] at h
    split at h
    · cases h
    split at h
    · cases h
    split at h
    · cases h
  · rw [if_pos rfl] at h
    split at h
    · rename_i hc
      obtain ⟨hn, he⟩ := hc
      unfold emptyB at he
      simp at he
      obtain ⟨⟨⟨⟨h1, h2⟩, h3⟩, h4⟩, h5⟩ := he
      refine ⟨by omega, ?_⟩
      generalize p.frame = f at *
      obtain ⟨k, fh, fe, ps, tx⟩ := f
      simp only at h1 h2 h3 h4 h5
      subst h1 h2 h3 h4 h5
      rfl
    · cases h
  · rw [if_neg (by decide)] at h
    split at h
    · cases h
    rename_i h0
    split at h
    · cases h
    exact ⟨by omega, frameErr_bare h hs hx⟩

/-- a packet that may be, and is not too long -/
structure PkOk (p : PacketV) : Prop where
  err : pkErr p = 0
  parts : ∀ q ∈ p.frame.op, q.text.size ≤ 1048576
  text : p.frame.text.size ≤ 1048576
  many : (packetW p).length ≤ 40000
theorem pkFault_back {p : PacketV} (h : PkOk p) : pkFault (packetW p) = 0 ∧ pkOf (packetW p) = p := by
  have hp : packetP (packetW p) = .ok (p, []) := by
    have := (reads_packet (pkErr_bare h.err h.parts h.text)).full []
    rwa [List.append_nil] at this
  have hf : pkFault (packetW p) = 0 := by
    unfold pkFault
    rw [if_neg (by have := h.many; omega), hp]
    show (if (0 : Int) ≠ 0 then _ else pkErr p) = 0
    rw [if_neg (by simp), h.err]
  refine ⟨hf, ?_⟩
  unfold pkOf
  rw [hf, hp, if_neg (by simp)]
theorem pkFault_more {p : PacketV} (h : PkOk p) (x y : Nat) : pkFault (packetW p ++ [x, y]) = 4 ∧ pkOf (packetW p ++ [x, y]) = packet0 := by
  have hf : pkFault (packetW p ++ [x, y]) = 4 := by
    unfold pkFault
    rw [if_neg (by have := h.many; rw [List.length_append]; simp; omega), (reads_packet (pkErr_bare h.err h.parts h.text)).full]
    rfl
  exact ⟨hf, by unfold pkOf; rw [hf, if_pos (by decide)]⟩
theorem pkFault_torn {p : PacketV} (h : PkOk p) {k : Nat} (hk : k < (packetW p).length) : pkFault ((packetW p).take k) = 5 ∧ pkOf ((packetW p).take k) = packet0 := by
  have hf : pkFault ((packetW p).take k) = 5 := by
    unfold pkFault
    rw [if_neg (by have := h.many; rw [List.length_take]; omega), (reads_packet (pkErr_bare h.err h.parts h.text)).torn k hk]
    rfl
  exact ⟨hf, by unfold pkOf; rw [hf, if_pos (by decide)]⟩

end Go.Proofs.YtekgennapogcgaaDoor
