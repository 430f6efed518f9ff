/-
  Walk: wherrykeep.PacketFixed.
-/
import Derived.Test.YtmdehfomogfmlaaDoorWirePkB
import Derived.Test.YtmdehfomogfmlaaDoorBytesOpen
namespace Go.Proofs.YtmdehfomogfmlaaDoor
open Go.RowKit Go.Lib

theorem seq_err {α β : Type} {P : List Nat → Except Int (α × List Nat)} {Q : α → List Nat → Except Int (β × List Nat)} (hp : ∀ l e, P l = .error e → e ≠ 0) (hq : ∀ a l e, Q a l = .error e → e ≠ 0) : ∀ l e, seqP P Q l = .error e → e ≠ 0 := by
  intro l e h
  unfold seqP at h
  cases hl : P l with
  | error e' => rw [hl] at h; cases h; exact hp l _ hl
  | ok x => rw [hl] at h; exact hq _ _ e h
theorem pure_err {α : Type} (a : α) : ∀ l e, pureP a l = .error e → e ≠ 0 := fun l e h => by cases h
theorem frameP_err : ∀ l e, frameP l = .error e → e ≠ 0 := seq_err (fun _ _ => numP_err) (fun k l e h => by
  by_cases h1 : k = 1
  · rw [if_pos h1] at h
    exact seq_err (fun _ _ => numP_err) (fun _ => seq_err (fun _ _ => opP_err) (fun _ => pure_err _)) l e h
  · rw [if_neg h1] at h
    by_cases h3 : k = 3
    · rw [if_pos h3] at h
      exact seq_err (fun _ _ => numP_err) (fun _ => seq_err (fun _ _ => textP_err) (fun _ => pure_err _)) l e h
    · rw [if_neg h3] at h
      exact seq_err (fun _ _ => numP_err) (fun _ => seq_err (fun _ _ => numP_err) (fun _ => pure_err _)) l e h)
theorem packetP_err : ∀ l e, packetP l = .error e → e ≠ 0 := seq_err (fun _ _ => numP_err) (fun _ => seq_err (fun _ _ => numP_err) (fun _ => seq_err (fun _ _ => numP_err) (fun n l e h => by
  by_cases h0 : n = 0
  · rw [if_pos h0] at h; exact pure_err _ l e h
  · rw [if_neg h0] at h; exact seq_err frameP_err (fun _ => pure_err _) l e h)))

structure FitsIn (f : FrameV) (m : Nat) : Prop where
  parts : ∀ q ∈ f.op, q.text.size ≤ m
  text : f.text.size ≤ m
  many : f.op.length ≤ m
theorem flat_many : ∀ ps : List Part, ps.length ≤ (ps.flatMap partW).length
  | [] => by simp
  | p :: ps => by
    rw [List.flatMap_cons, List.length_append, List.length_cons]
    have h1 := flat_many ps
    have h2 : 0 < (partW p).length := by
      unfold partW
      rw [List.length_append]
      have := sev_pos p.kind.toNat
      omega
    omega
theorem frame_fits {l l' : List Nat} {f : FrameV} (h256 : ∀ x ∈ l, x < 256) (h : frameP l = .ok (f, l')) : FitsIn f l.length := by
  obtain ⟨k, r, e1, h⟩ := seq_inv h
  have b1 := num_back h256 e1
  have s1 := small_rest h256 b1
  have n1 : r.length ≤ l.length := by rw [b1, List.length_append]; omega
  by_cases h1 : k = 1
  · rw [if_pos h1] at h
    obtain ⟨x, r2, e2, h⟩ := seq_inv h
    have b2 := num_back s1 e2
    have s2 := small_rest s1 b2
    have n2 : r2.length ≤ l.length := by rw [b2, List.length_append] at n1; omega
    obtain ⟨ps, r3, e3, h⟩ := seq_inv h
    obtain ⟨rfl, rfl⟩ := pure_inv h
    obtain ⟨b3, hb⟩ := op_back s2 e3
    have n3 : (ps.flatMap partW).length ≤ l.length := by
      rw [b3] at n2; unfold opW at n2; rw [List.length_append, List.length_append] at n2; omega
    refine ⟨fun q hq => ?_, by simp, ?_⟩
    · have h1 := part_text_le (hb q hq)
      have h2 := flat_le hq
      simp only at h2
      omega
    · have := flat_many ps
      simp only
      omega
  · rw [if_neg h1] at h
    by_cases h3 : k = 3
    · rw [if_pos h3] at h
      obtain ⟨x, r2, e2, h⟩ := seq_inv h
      have b2 := num_back s1 e2
      have s2 := small_rest s1 b2
      have n2 : r2.length ≤ l.length := by rw [b2, List.length_append] at n1; omega
      obtain ⟨s, r3, e3, h⟩ := seq_inv h
      obtain ⟨rfl, rfl⟩ := pure_inv h
      have b3 := text_back s2 e3
      refine ⟨by simp, ?_, by simp⟩
      rw [b3, List.length_append, List.length_append, sbytes_length] at n2
      simp only
      omega
    · rw [if_neg h3] at h
      obtain ⟨x, r2, e2, h⟩ := seq_inv h
      obtain ⟨y, r3, e3, h⟩ := seq_inv h
      obtain ⟨rfl, rfl⟩ := pure_inv h
      exact ⟨by simp, by simp, by simp⟩
theorem packet_fits {l l' : List Nat} {p : PacketV} (h256 : ∀ x ∈ l, x < 256) (h : packetP l = .ok (p, l')) : FitsIn p.frame l.length := by
  obtain ⟨ep, r1, e1, h⟩ := seq_inv h
  have b1 := num_back h256 e1
  have s1 := small_rest h256 b1
  obtain ⟨ack, r2, e2, h⟩ := seq_inv h
  have b2 := num_back s1 e2
  have s2 := small_rest s1 b2
  obtain ⟨num, r3, e3, h⟩ := seq_inv h
  have b3 := num_back s2 e3
  have s3 := small_rest s2 b3
  have n3 : r3.length ≤ l.length := by rw [b1, b2, b3, List.length_append, List.length_append, List.length_append]; omega
  by_cases h0 : num = 0
  · rw [if_pos h0] at h
    obtain ⟨rfl, rfl⟩ := pure_inv h
    exact ⟨by simp [frame0], by simp [frame0], by simp [frame0]⟩
  · rw [if_neg h0] at h
    obtain ⟨f, r4, e4, h⟩ := seq_inv h
    obtain ⟨rfl, rfl⟩ := pure_inv h
    obtain ⟨g1, g2, g3⟩ := frame_fits s3 e4
    exact ⟨fun q hq => Nat.le_trans (g1 q hq) n3, Nat.le_trans g2 n3, Nat.le_trans g3 n3⟩
/-- what is read is written so again -/
theorem pkOf_write {l : List Nat} (h256 : ∀ x ∈ l, x < 256) (h : pkFault l = 0) : packetW (pkOf l) = l ∧ pkErr (pkOf l) = 0 ∧ FitsIn (pkOf l).frame 50000 := by
  have h0 := h
  unfold pkFault at h
  by_cases h5 : 50000 < l.length
  · rw [if_pos h5] at h; exact absurd h (by decide)
  · rw [if_neg h5] at h
    by_cases h6 : endE (rest (packetP l)) ≠ 0
    · rw [if_pos h6] at h; exact absurd h h6
    · rw [if_neg h6] at h
      cases hp : packetP l with
      | error e =>
        rw [hp] at h
        have h7 : e = 0 := h
        exact absurd h7 (packetP_err l e hp)
      | ok x =>
        obtain ⟨p, r⟩ := x
        have hr : r = [] := by
          rw [hp] at h6
          cases r with
          | nil => rfl
          | cons z r => exact absurd (show (4 : Int) ≠ 0 by decide) h6
        subst hr
        have ho : pkOf l = p := by unfold pkOf; rw [h0, if_neg (by simp), hp]
        rw [hp] at h
        have hE : pkErr p = 0 := h
        have hfit := packet_fits h256 hp
        have hfit2 : FitsIn p.frame 50000 := ⟨fun q hq => Nat.le_trans (hfit.parts q hq) (by omega), Nat.le_trans hfit.text (by omega), Nat.le_trans hfit.many (by omega)⟩
        have hB := pkErr_bare hE (fun q hq => Nat.le_trans (hfit2.parts q hq) (by decide)) (Nat.le_trans hfit2.text (by decide))
        have hw := packet_back h256 hp (fun hb => (hB.no hb).2.w.kind)
        rw [List.append_nil] at hw
        rw [ho]
        exact ⟨hw.symm, hE, hfit2⟩
theorem pkFault_nil : pkFault [] = 5 ∧ pkOf [] = packet0 := by
  have h : pkFault [] = 5 := by decide +kernel
  exact ⟨h, by unfold pkOf; rw [h, if_pos (by decide)]⟩

set_option maxRecDepth 100000 in
set_option maxHeartbeats 2000000 in
theorem packetFixed_walk (l : List Nat) (la : Option Addr) (lc : Nat) (w : World) (hb : Bytes w la l) (hs : SrcB w la lc l) (h256 : ∀ x ∈ l, x < 256) (_ : l.length ≤ lc) (hl : l.length ≤ 140737488351232) (hT : Tabs w) :
    Calls Tryd.prog 15 #[.slice la l.length lc] w fun e w' => e = .returned (.bool true) ∧ Below w.heap.size w w' := by
  go_enter Tryd.func15, Tryd.ntmps15
  go_wp2_with (at_builtin; refine wpList_append_bytes rfl _ _ rfl w.heap.size (Nat.le_refl _) (.slice none 0 0) 0 [] rfl (World.ownsRow_nil _ _ _ _) la lc l rfl hs (by omega) ?_; intro v1 w1 hown1 hgr1 hmv1)
  rw [Nat.zero_add, List.nil_append] at hown1
  obtain ⟨a1, c1, rfl, _, hby1, hc1⟩ := srcB_own hown1
  have HB1 : Below w.heap.size w w1 := (Below.refl _ w).grown hgr1 (Nat.le_refl _) (fun k e => by cases e)
  have cD := decodePacket_any l a1 c1 w1 hby1 h256 hc1 (hT.below HB1)
  clear hgr1 hmv1 hown1 hby1 hc1 hs
  refine cD.mono ?_
  by_cases hf : pkFault l = 0
  · obtain ⟨g1, g2, g3⟩ := pkOf_write h256 hf
    rw [hf]
    have cE := fun (w3 : World) (a : Option Addr) (c : Nat) (hop : OpAt w3 a (pkOf l).frame.op) (hB : Below w.heap.size w w3) => encodePacket_ok (pkOf l) a c w3 hop (fun q hq => Nat.le_trans (g3.parts q hq) (by decide)) (Nat.le_trans g3.many (by decide)) (Nat.le_trans g3.text (by decide)) (hT.below hB) g2
    rw [g1] at cE
    unfold pkVal at cE ⊢
    generalize pkOf l = O at *
    obtain ⟨ep, num, bare, ack, ⟨fk, fh, fe, ps, tx⟩⟩ := O
    simp only at cE ⊢
    rintro e w2 ⟨v2, rfl, hown2, hb2⟩
    obtain ⟨z1, z2, rfl⟩ := own_form hown2
    have HB2 := below_two HB1 hb2 (Nat.le_refl _)
    have hbz := (Below.refl w2.heap.size w2).alloc (Nat.le_refl _) (.cells #[.int .i64 (ep : Int), .int .i64 (num : Int), .bool bare, .int .i64 (ack : Int), .int .i64 (fk : Int), .int .i64 (fh : Int), .int .i64 (fe : Int), .slice z1 ps.length z2, .string tx] 79)
    have hz := heap_alloc_new w2 (.cells #[.int .i64 (ep : Int), .int .i64 (num : Int), .bool bare, .int .i64 (ack : Int), .int .i64 (fk : Int), .int .i64 (fh : Int), .int .i64 (fe : Int), .slice z1 ps.length z2, .string tx] 79)
    have HB3 := below_two HB2 hbz (Nat.le_refl _)
    have hown3 := own_below hown2 hbz
    obtain ⟨_, _, e3, hoz⟩ := own_opAt hown3
    simp only [Value.slice.injEq, true_and] at e3
    obtain ⟨rfl, rfl⟩ := e3
    obtain ⟨zz, zl, zf⟩ := blk hz
    have cE1 := cE _ z1 z2 hoz HB3
    clear cE hown2 hown3 hb2 hbz hz HB1 HB2 cD hoz g1 g2 g3
    go_wp2_with fail
    refine cE1.mono ?_
    generalize (w2.alloc (.cells #[.int .i64 (ep : Int), .int .i64 (num : Int), .bool bare, .int .i64 (ack : Int), .int .i64 (fk : Int), .int .i64 (fh : Int), .int .i64 (fe : Int), .slice z1 ps.length z2, .string tx] 79)) = w3 at *
    rintro e w4 ⟨v4, rfl, hown4, hb4⟩
    have HB4 := below_two HB3 hb4 (Nat.le_refl _)
    obtain ⟨d1, d2, rfl, _, hby4, _⟩ := srcB_own hown4
    have hcv := conv_bytes hby4 d2
    have hcw := conv_bytes (hb.below HB4) lc
    clear cE1 hown4 hb4 hby4 zz zl zf
    go_wp2_with fail
    go_ret
    exact ⟨by simp, HB4⟩
  · have hg : (pkFault l != 0) = true := by simpa using hf
    have ho : pkOf l = packet0 := by unfold pkOf; rw [if_pos hf]
    rw [ho]
    unfold pkVal packet0 frame0
    simp only
    generalize pkFault l = F at *
    rintro e w2 ⟨v2, rfl, hown2, hb2⟩
    obtain ⟨z1, z2, rfl⟩ := own_form hown2
    have HB2 := below_two HB1 hb2 (Nat.le_refl _)
    have hbz := (Below.refl w2.heap.size w2).alloc (Nat.le_refl _) (.cells #[.int .i64 0, .int .i64 0, .bool false, .int .i64 0, .int .i64 0, .int .i64 0, .int .i64 0, .slice z1 0 z2, .string ByteArray.empty] 79)
    have hz := heap_alloc_new w2 (.cells #[.int .i64 0, .int .i64 0, .bool false, .int .i64 0, .int .i64 0, .int .i64 0, .int .i64 0, .slice z1 0 z2, .string ByteArray.empty] 79)
    have HB3 := below_two HB2 hbz (Nat.le_refl _)
    have cN := decodePacket_any [] none 0 (w2.alloc (.cells #[.int .i64 0, .int .i64 0, .bool false, .int .i64 0, .int .i64 0, .int .i64 0, .int .i64 0, .slice z1 0 z2, .string ByteArray.empty] 79)) (.inl rfl) (by simp) (by simp) (hT.below HB3)
    rw [pkFault_nil.1, pkFault_nil.2] at cN
    unfold pkVal packet0 frame0 at cN
    simp only at cN
    clear hown2 hb2 hbz HB1 HB2 cD
    go_wp2_with fail
    refine cN.mono ?_
    generalize (w2.alloc (.cells #[.int .i64 0, .int .i64 0, .bool false, .int .i64 0, .int .i64 0, .int .i64 0, .int .i64 0, .slice z1 0 z2, .string ByteArray.empty] 79)) = w3 at *
    rintro e w4 ⟨v4, rfl, hown4, hb4⟩
    obtain ⟨y1, y2, rfl⟩ := own_form hown4
    have hz4 := row_old ((hb4.block _ (Array.getElem?_eq_some_iff.1 hz).1).trans hz) (.cells #[.int .i64 0, .int .i64 0, .bool false, .int .i64 0, .int .i64 0, .int .i64 0, .int .i64 0, .slice y1 0 y2, .string ByteArray.empty] 79)
    have HB4 := below_two HB3 hb4 (Nat.le_refl _)
    have HB5 := HB4.alloc HB4.size (.cells #[.int .i64 0, .int .i64 0, .bool false, .int .i64 0, .int .i64 0, .int .i64 0, .int .i64 0, .slice y1 0 y2, .string ByteArray.empty] 79)
    obtain ⟨zz, zl, zf⟩ := blk hz4
    clear cN hz hb4 hown4 HB3 hz4
    go_wp2_with fail
    go_ret
    exact ⟨by simp, HB5⟩

end Go.Proofs.YtmdehfomogfmlaaDoor
