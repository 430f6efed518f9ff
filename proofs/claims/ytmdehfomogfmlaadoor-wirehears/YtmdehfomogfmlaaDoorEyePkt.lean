/-
  Walk: wherryref.PacketOf.
-/
import Derived.Test.YtmdehfomogfmlaaDoorEyeOps
import Derived.Test.YtmdehfomogfmlaaDoorWirePkD
import Derived.Test.YtmdehfomogfmlaaDoorWirePacketF
import Derived.Deep.RegionHeld3
namespace Go.Proofs.YtmdehfomogfmlaaDoor
open Go.RowKit Go.Lib

theorem zp_keep {er : Int} {w w' : World} (h : (fun w' => w'.cell? ⟨w.heap.size + 1, 2, none⟩ = some (.int .i64 er) ∧ (∀ j, w'.cell? ⟨w.heap.size, j, none⟩ = #[.int .i64 0, .int .i64 0, .bool false, .int .i64 0, .int .i64 0, .int .i64 0, .int .i64 0, .slice none 0 0, .string ⟨#[]⟩][j]?) ∧ (∀ j, w'.frozen? ⟨w.heap.size, j, none⟩ = false) ∧ w'.heap[w.heap.size]? = some (.cells #[.int .i64 0, .int .i64 0, .bool false, .int .i64 0, .int .i64 0, .int .i64 0, .int .i64 0, .slice none 0 0, .string ⟨#[]⟩] 79 (0, 0)) ∧ w.heap.size + 1 < w'.heap.size ∧ Below w.heap.size w w') w') : (fun w' => w'.cell? ⟨w.heap.size + 1, 2, none⟩ = some (.int .i64 er) ∧ (∀ j, w'.cell? ⟨w.heap.size, j, none⟩ = #[.int .i64 0, .int .i64 0, .bool false, .int .i64 0, .int .i64 0, .int .i64 0, .int .i64 0, .slice none 0 0, .string ⟨#[]⟩][j]?) ∧ (∀ j, w'.frozen? ⟨w.heap.size, j, none⟩ = false) ∧ w'.heap[w.heap.size]? = some (.cells #[.int .i64 0, .int .i64 0, .bool false, .int .i64 0, .int .i64 0, .int .i64 0, .int .i64 0, .slice none 0 0, .string ⟨#[]⟩] 79 (0, 0)) ∧ w.heap.size + 1 < w'.heap.size ∧ Below w.heap.size w w') (((((((((w'.setCell ⟨w.heap.size, 0, none⟩ (.int .i64 0)).setCell ⟨w.heap.size, 1, none⟩ (.int .i64 0)).setCell ⟨w.heap.size, 2, none⟩ (.bool false)).setCell ⟨w.heap.size, 3, none⟩ (.int .i64 0)).setCell ⟨w.heap.size, 4, none⟩ (.int .i64 0)).setCell ⟨w.heap.size, 5, none⟩ (.int .i64 0)).setCell ⟨w.heap.size, 6, none⟩ (.int .i64 0)).setCell ⟨w.heap.size, 7, none⟩ (.slice none 0 0)).setCell ⟨w.heap.size, 8, none⟩ (.string ⟨#[]⟩)) := by
  obtain ⟨h1, _, _, h4, h5, h6⟩ := h
  obtain ⟨hb, hc⟩ := puts_all h4 [.int .i64 0, .int .i64 0, .bool false, .int .i64 0, .int .i64 0, .int .i64 0, .int .i64 0, .slice none 0 0, .string ⟨#[]⟩] rfl
  simp only [puts, Nat.zero_add, Nat.reduceAdd] at hb hc
  obtain ⟨t0, _, t2⟩ := blk hb
  have hz := hc.size
  exact ⟨(World.cell?_of_block (a := ⟨w.heap.size + 1, 2, none⟩) (hc.block (w.heap.size + 1) h5 (by omega))).trans h1, t0, t2, hb, by omega, h6.trans (hc.below (fun k e => by omega) h6.size)⟩
theorem zp_drew {er : Int} {w w' : World} (h : (fun w' => w'.cell? ⟨w.heap.size + 1, 2, none⟩ = some (.int .i64 er) ∧ (∀ j, w'.cell? ⟨w.heap.size, j, none⟩ = #[.int .i64 0, .int .i64 0, .bool false, .int .i64 0, .int .i64 0, .int .i64 0, .int .i64 0, .slice none 0 0, .string ⟨#[]⟩][j]?) ∧ (∀ j, w'.frozen? ⟨w.heap.size, j, none⟩ = false) ∧ w'.heap[w.heap.size]? = some (.cells #[.int .i64 0, .int .i64 0, .bool false, .int .i64 0, .int .i64 0, .int .i64 0, .int .i64 0, .slice none 0 0, .string ⟨#[]⟩] 79 (0, 0)) ∧ w.heap.size + 1 < w'.heap.size ∧ Below w.heap.size w w') w') : (fun w' => w'.cell? ⟨w.heap.size + 1, 2, none⟩ = some (.int .i64 er) ∧ (∀ j, w'.cell? ⟨w.heap.size, j, none⟩ = #[.int .i64 0, .int .i64 0, .bool false, .int .i64 0, .int .i64 0, .int .i64 0, .int .i64 0, .slice none 0 0, .string ⟨#[]⟩][j]?) ∧ (∀ j, w'.frozen? ⟨w.heap.size, j, none⟩ = false) ∧ w'.heap[w.heap.size]? = some (.cells #[.int .i64 0, .int .i64 0, .bool false, .int .i64 0, .int .i64 0, .int .i64 0, .int .i64 0, .slice none 0 0, .string ⟨#[]⟩] 79 (0, 0)) ∧ w.heap.size + 1 < w'.heap.size ∧ Below w.heap.size w w') w'.drew := ⟨h.1, h.2.1, h.2.2.1, h.2.2.2.1, h.2.2.2.2.1, h.2.2.2.2.2.trans ⟨rfl, rfl, rfl, Nat.le_refl _, fun _ _ => rfl⟩⟩
theorem zp_make {er : Int} {w w' : World} (h1 : w'.cell? ⟨w.heap.size + 1, 2, none⟩ = some (.int .i64 er)) (h2 : w'.heap[w.heap.size]? = some (.cells #[.int .i64 0, .int .i64 0, .bool false, .int .i64 0, .int .i64 0, .int .i64 0, .int .i64 0, .slice none 0 0, .string ⟨#[]⟩] 79 (0, 0))) (h3 : w.heap.size + 1 < w'.heap.size) (h4 : Below w.heap.size w w') : (fun w' => w'.cell? ⟨w.heap.size + 1, 2, none⟩ = some (.int .i64 er) ∧ (∀ j, w'.cell? ⟨w.heap.size, j, none⟩ = #[.int .i64 0, .int .i64 0, .bool false, .int .i64 0, .int .i64 0, .int .i64 0, .int .i64 0, .slice none 0 0, .string ⟨#[]⟩][j]?) ∧ (∀ j, w'.frozen? ⟨w.heap.size, j, none⟩ = false) ∧ w'.heap[w.heap.size]? = some (.cells #[.int .i64 0, .int .i64 0, .bool false, .int .i64 0, .int .i64 0, .int .i64 0, .int .i64 0, .slice none 0 0, .string ⟨#[]⟩] 79 (0, 0)) ∧ w.heap.size + 1 < w'.heap.size ∧ Below w.heap.size w w') w' := by
  obtain ⟨t0, _, t2⟩ := blk h2
  exact ⟨h1, t0, t2, h2, h3, h4⟩

theorem seq_assoc {α β γ : Type} (p : List Nat → Except Int (α × List Nat)) (q : α → List Nat → Except Int (β × List Nat)) (r : β → List Nat → Except Int (γ × List Nat)) : seqP (seqP p q) r = seqP p fun a => seqP (q a) r := by
  funext l
  unfold seqP
  cases p l <;> rfl
theorem seq_pure {α β : Type} (a : α) (r : α → List Nat → Except Int (β × List Nat)) : seqP (pureP a) r = r a := by funext l; rfl
theorem seq_ite {α β : Type} {c : Prop} [Decidable c] (p q : List Nat → Except Int (α × List Nat)) (r : α → List Nat → Except Int (β × List Nat)) : seqP (if c then p else q) r = if c then seqP p r else seqP q r := by split <;> rfl
theorem frame_in (ep num ack : Nat) : (seqP frameP fun f => pureP (⟨ep, num, false, ack, f⟩ : PacketV)) = seqP numP fun k => if k = 1 then seqP numP fun h => seqP opP fun ps => pureP ⟨ep, num, false, ack, ⟨1, h, 0, ps, ByteArray.empty⟩⟩ else if k = 3 then seqP numP fun e => seqP textP fun s => pureP ⟨ep, num, false, ack, ⟨3, 0, e, [], s⟩⟩ else seqP numP fun e => seqP numP fun h => pureP ⟨ep, num, false, ack, ⟨k, h, e, [], ByteArray.empty⟩⟩ := by
  unfold frameP
  rw [seq_assoc]
  congr 1
  funext k
  rw [seq_ite, seq_ite, seq_assoc, seq_assoc, seq_assoc]
  congr 1
  · congr 1; funext h; rw [seq_assoc]; congr 1
  · congr 1
    · congr 1; funext e; rw [seq_assoc]; congr 1
    · congr 1; funext e; rw [seq_assoc]; congr 1

set_option maxRecDepth 100000 in
set_option maxHeartbeats 16000000 in
theorem packetOf_any (l : List Nat) (a : Option Addr) (c : Nat) (w : World) (hb : Bytes w a l) (hl : ∀ x ∈ l, x < 256) (hc : l.length ≤ c) (hT : Tabs w) :
    Calls Tryd.prog 45 #[.slice a l.length c] w fun r w' => ∃ (v : Value), r = .returned (.tuple #[pkVal (pkOf l) v, .int .i64 (pkFault l)]) ∧ w'.ownsRow w.heap.size 68 3 v (pkOf l).frame.op.length (partCells (pkOf l).frame.op) ∧ Below w.heap.size w w' := by
  obtain ⟨E, hE⟩ : ∃ E, E = pkFault l := ⟨_, rfl⟩
  obtain ⟨O, hO⟩ : ∃ O, O = pkOf l := ⟨_, rfl⟩
  rw [← hE, ← hO]
  have HE0 : Hid (E = pkFault l) := hE
  have HO0 : Hid (O = pkOf l) := hO
  clear hE hO
  by_cases h5 : 50000 < l.length
  · have h5z : (50000 : Int) < (l.length : Int) := by omega
    have HE : Hid (E = 1) := by show _ = _; rw [HE0.out]; unfold pkFault; rw [if_pos h5]
    have HO : Hid (O = packet0) := by show _ = _; rw [HO0.out]; unfold pkOf; rw [← HE0.out, HE.out, if_pos (by decide)]
    have HB := (Below.refl w.heap.size w).alloc (Nat.le_refl _) (.cells #[.int .i64 0, .int .i64 0, .bool false, .int .i64 0, .int .i64 0, .int .i64 0, .int .i64 0, .slice none 0 0, .string ⟨#[]⟩] 79)
    have hres := heap_alloc_new w (.cells #[.int .i64 0, .int .i64 0, .bool false, .int .i64 0, .int .i64 0, .int .i64 0, .int .i64 0, .slice none 0 0, .string ⟨#[]⟩] 79)
    clear HE0 HO0 hb
    generalize l.length = ll at *
    obtain ⟨t9, _, _⟩ := blk hres
    go_enter Tryd.func45, Tryd.ntmps45
    go_wp2_with fail
    generalize (w.alloc (.cells #[.int .i64 0, .int .i64 0, .bool false, .int .i64 0, .int .i64 0, .int .i64 0, .int .i64 0, .slice none 0 0, .string ⟨#[]⟩] 79)) = w9 at *
    refine bodyPost_ret (v := .tuple #[.agg #[.int .i64 0, .int .i64 0, .bool false, .int .i64 0, .int .i64 0, .int .i64 0, .int .i64 0, .slice none 0 0, .string ⟨#[]⟩], .int .i64 1]) (by simp [results, Tryd.results45, go_sem, t9]) rfl ⟨.slice none 0 0, ?_, ?_, HB⟩
    · rw [HE.out, HO.out]; rfl
    · rw [HO.out]; exact World.ownsRow_nil _ _ _ _
  · have h5z : ¬ (50000 : Int) < (l.length : Int) := by omega
    have HE1 : Hid (E = if endE (rest (packetP l)) ≠ 0 then endE (rest (packetP l)) else match packetP l with | .ok x => pkErr x.1 | .error e => e) := by show _ = _; rw [HE0.out]; unfold pkFault; rw [if_neg h5]; rfl
    have HO1 : Hid (O = if E ≠ 0 then packet0 else match packetP l with | .ok x => x.1 | .error _ => packet0) := by show _ = _; rw [HO0.out, HE0.out]; rfl
    have hb0 := (Below.refl w.heap.size w).alloc (Nat.le_refl _) (.cells #[.int .i64 0, .int .i64 0, .bool false, .int .i64 0, .int .i64 0, .int .i64 0, .int .i64 0, .slice none 0 0, .string ⟨#[]⟩] 79)
    have hb1 := hb0.alloc hb0.size (.cells #[.slice a l.length c, .int .i64 0, .int .i64 0] 140)
    have HB := hb1.alloc hb1.size (.cells #[.int .i64 0, .int .i64 0, .bool false, .int .i64 0, .int .i64 0, .int .i64 0, .int .i64 0, .slice none 0 0, .string ⟨#[]⟩] 79)
    have hres := row_old (row_old (heap_alloc_new w (.cells #[.int .i64 0, .int .i64 0, .bool false, .int .i64 0, .int .i64 0, .int .i64 0, .int .i64 0, .slice none 0 0, .string ⟨#[]⟩] 79)) (.cells #[.slice a l.length c, .int .i64 0, .int .i64 0] 140)) (.cells #[.int .i64 0, .int .i64 0, .bool false, .int .i64 0, .int .i64 0, .int .i64 0, .int .i64 0, .slice none 0 0, .string ⟨#[]⟩] 79)
    have hey := row_old (heap_alloc_new (w.alloc (.cells #[.int .i64 0, .int .i64 0, .bool false, .int .i64 0, .int .i64 0, .int .i64 0, .int .i64 0, .slice none 0 0, .string ⟨#[]⟩] 79)) (.cells #[.slice a l.length c, .int .i64 0, .int .i64 0] 140)) (.cells #[.int .i64 0, .int .i64 0, .bool false, .int .i64 0, .int .i64 0, .int .i64 0, .int .i64 0, .slice none 0 0, .string ⟨#[]⟩] 79)
    have hp := heap_alloc_new ((w.alloc (.cells #[.int .i64 0, .int .i64 0, .bool false, .int .i64 0, .int .i64 0, .int .i64 0, .int .i64 0, .slice none 0 0, .string ⟨#[]⟩] 79)).alloc (.cells #[.slice a l.length c, .int .i64 0, .int .i64 0] 140)) (.cells #[.int .i64 0, .int .i64 0, .bool false, .int .i64 0, .int .i64 0, .int .i64 0, .int .i64 0, .slice none 0 0, .string ⟨#[]⟩] 79)
    rw [show (w.alloc (.cells #[.int .i64 0, .int .i64 0, .bool false, .int .i64 0, .int .i64 0, .int .i64 0, .int .i64 0, .slice none 0 0, .string ⟨#[]⟩] 79)).heap.size = w.heap.size + 1 by simp] at hey
    rw [show ((w.alloc (.cells #[.int .i64 0, .int .i64 0, .bool false, .int .i64 0, .int .i64 0, .int .i64 0, .int .i64 0, .slice none 0 0, .string ⟨#[]⟩] 79)).alloc (.cells #[.slice a l.length c, .int .i64 0, .int .i64 0] 140)).heap.size = w.heap.size + 1 + 1 by simp] at hp
    have hsz : (((w.alloc (.cells #[.int .i64 0, .int .i64 0, .bool false, .int .i64 0, .int .i64 0, .int .i64 0, .int .i64 0, .slice none 0 0, .string ⟨#[]⟩] 79)).alloc (.cells #[.slice a l.length c, .int .i64 0, .int .i64 0] 140)).alloc (.cells #[.int .i64 0, .int .i64 0, .bool false, .int .i64 0, .int .i64 0, .int .i64 0, .int .i64 0, .slice none 0 0, .string ⟨#[]⟩] 79)).heap.size = w.heap.size + 3 := by simp
    have hst : EySt (((w.alloc (.cells #[.int .i64 0, .int .i64 0, .bool false, .int .i64 0, .int .i64 0, .int .i64 0, .int .i64 0, .slice none 0 0, .string ⟨#[]⟩] 79)).alloc (.cells #[.slice a l.length c, .int .i64 0, .int .i64 0] 140)).alloc (.cells #[.int .i64 0, .int .i64 0, .bool false, .int .i64 0, .int .i64 0, .int .i64 0, .int .i64 0, .slice none 0 0, .string ⟨#[]⟩] 79)) (w.heap.size + 1 + 1) (w.heap.size + 1) l (.ok l) := .ok (i := 0) ⟨⟨a, c, hey, hc, by
      rcases hb with rfl | ⟨g, off, rfl, hg, hx⟩
      · exact .inl rfl
      · refine .inr ⟨g, off, rfl, by omega, by omega, fun i hi => ?_⟩
        rw [HB.cell (p := ⟨g, off + i, none⟩) hg]
        exact hx i hi⟩, ⟨by omega, by omega⟩, hl, by omega, by omega⟩
    obtain ⟨P, hP⟩ : ∃ P, P = packetP l := ⟨_, rfl⟩
    rw [← hP] at HE1 HO1
    have HK : Hid (P = andR (.ok l) packetP) := hP
    clear hP
    have cN := enum_any _ _ _ _ _ hst
    clear HE0 HO0 hb hb0 hb1 hst hey
    have hz : w.heap.size + 3 ≤ (((w.alloc (.cells #[.int .i64 0, .int .i64 0, .bool false, .int .i64 0, .int .i64 0, .int .i64 0, .int .i64 0, .slice none 0 0, .string ⟨#[]⟩] 79)).alloc (.cells #[.slice a l.length c, .int .i64 0, .int .i64 0] 140)).alloc (.cells #[.int .i64 0, .int .i64 0, .bool false, .int .i64 0, .int .i64 0, .int .i64 0, .int .i64 0, .slice none 0 0, .string ⟨#[]⟩] 79)).heap.size := by omega
    clear hsz
    have HLL : Hid (l.length = l.length) := rfl
    generalize hll : l.length = ll at *
    go_enter Tryd.func45, Tryd.ntmps45
    go_wp2_with fail
    generalize (((w.alloc (.cells #[.int .i64 0, .int .i64 0, .bool false, .int .i64 0, .int .i64 0, .int .i64 0, .int .i64 0, .slice none 0 0, .string ⟨#[]⟩] 79)).alloc (.cells #[.slice a ll c, .int .i64 0, .int .i64 0] 140)).alloc (.cells #[.int .i64 0, .int .i64 0, .bool false, .int .i64 0, .int .i64 0, .int .i64 0, .int .i64 0, .slice none 0 0, .string ⟨#[]⟩] 79)) = w0 at *
    refine cN.mono ?_
    rintro r w1 ⟨ep, rfl, n1, hst, hx, _, hc1⟩
    replace HK : Hid (P = andR (rest (andR (.ok l) numP)) (seqP numP fun ack => seqP numP fun num => if num = 0 then pureP ⟨ep, 0, true, ack, frame0⟩ else seqP frameP fun f => pureP ⟨ep, num, false, ack, f⟩)) := HK.out.trans (seq_at hx)
    generalize rest (andR (.ok l) numP) = st1 at *
    replace hres := hc1.row hres (by omega)
    replace hp := hc1.row hp (by omega)
    replace HB := HB.trans (hc1.below (B := w.heap.size) (fun k e => by omega) (by omega))
    replace hz := Nat.le_trans hz hc1.size
    clear hx hc1
    clear cN
    obtain ⟨p1, pl1, pf1⟩ := blk hp
    have hs := (blk_put hp 0 (.int .i64 (ep : Int))).2
    replace hp : (w1.setCell ⟨w.heap.size + 1 + 1, 0, none⟩ (.int .i64 (ep : Int))).heap[w.heap.size + 1 + 1]? = some (.cells #[.int .i64 (ep : Int), .int .i64 0, .bool false, .int .i64 0, .int .i64 0, .int .i64 0, .int .i64 0, .slice none 0 0, .string ⟨#[]⟩] 79 (0, 0)) := (blk_put hp 0 (.int .i64 (ep : Int))).1
    replace hres := hs.row hres (by omega)
    replace hst := hst.chg hs (fun k hk => by omega)
    replace HB := HB.trans (hs.below (B := w.heap.size) (fun k e => by omega) (by omega))
    replace hz := Nat.le_trans hz hs.size
    clear hs
    have cN := enum_any _ _ _ _ _ hst
    clear hst
    go_wp2_with fail
    refine cN.mono ?_
    clear cN p1 pl1 pf1
    generalize (w1.setCell ⟨w.heap.size + 1 + 1, 0, none⟩ (.int .i64 (ep : Int))) = v2 at *
    rintro r w2 ⟨ack, rfl, n2, hst, hx, _, hc1⟩
    replace HK : Hid (P = andR (rest (andR st1 numP)) (seqP numP fun num => if num = 0 then pureP ⟨ep, 0, true, ack, frame0⟩ else seqP frameP fun f => pureP ⟨ep, num, false, ack, f⟩)) := HK.out.trans (seq_at hx)
    generalize rest (andR st1 numP) = st2 at *
    replace hres := hc1.row hres (by omega)
    replace hp := hc1.row hp (by omega)
    replace HB := HB.trans (hc1.below (B := w.heap.size) (fun k e => by omega) (by omega))
    replace hz := Nat.le_trans hz hc1.size
    clear hx hc1
    obtain ⟨p3, pl3, pf3⟩ := blk hp
    have hs := (blk_put hp 3 (.int .i64 (ack : Int))).2
    replace hp : (w2.setCell ⟨w.heap.size + 1 + 1, 3, none⟩ (.int .i64 (ack : Int))).heap[w.heap.size + 1 + 1]? = some (.cells #[.int .i64 (ep : Int), .int .i64 0, .bool false, .int .i64 (ack : Int), .int .i64 0, .int .i64 0, .int .i64 0, .slice none 0 0, .string ⟨#[]⟩] 79 (0, 0)) := (blk_put hp 3 (.int .i64 (ack : Int))).1
    replace hres := hs.row hres (by omega)
    replace hst := hst.chg hs (fun k hk => by omega)
    replace HB := HB.trans (hs.below (B := w.heap.size) (fun k e => by omega) (by omega))
    replace hz := Nat.le_trans hz hs.size
    clear hs
    have cN := enum_any _ _ _ _ _ hst
    clear hst
    go_wp2_with fail
    refine cN.mono ?_
    clear cN p3 pl3 pf3
    generalize (w2.setCell ⟨w.heap.size + 1 + 1, 3, none⟩ (.int .i64 (ack : Int))) = v4 at *
    rintro r w3 ⟨num, rfl, n3, hst, hx, _, hc1⟩
    replace HK : Hid (P = andR (rest (andR st2 numP)) (if num = 0 then pureP ⟨ep, 0, true, ack, frame0⟩ else seqP frameP fun f => pureP ⟨ep, num, false, ack, f⟩)) := HK.out.trans (seq_at hx)
    generalize rest (andR st2 numP) = st3 at *
    replace hres := hc1.row hres (by omega)
    replace hp := hc1.row hp (by omega)
    replace HB := HB.trans (hc1.below (B := w.heap.size) (fun k e => by omega) (by omega))
    replace hz := Nat.le_trans hz hc1.size
    clear hx hc1
    by_cases h0 : num = 0
    · subst h0
      rw [if_pos rfl] at HK
      obtain ⟨p5, pl5, pf5⟩ := blk hp
      have hs := (blk_put hp 1 (.int .i64 0)).2
      replace hp : (w3.setCell ⟨w.heap.size + 1 + 1, 1, none⟩ (.int .i64 0)).heap[w.heap.size + 1 + 1]? = some (.cells #[.int .i64 (ep : Int), .int .i64 0, .bool false, .int .i64 (ack : Int), .int .i64 0, .int .i64 0, .int .i64 0, .slice none 0 0, .string ⟨#[]⟩] 79 (0, 0)) := (blk_put hp 1 (.int .i64 0)).1
      replace hres := hs.row hres (by omega)
      replace hst := hst.chg hs (fun k hk => by omega)
      replace HB := HB.trans (hs.below (B := w.heap.size) (fun k e => by omega) (by omega))
      replace hz := Nat.le_trans hz hs.size
      clear hs
      obtain ⟨p6, pl6, pf6⟩ := blk hp
      have hs := (blk_put hp 2 (.bool true)).2
      replace hp : ((w3.setCell ⟨w.heap.size + 1 + 1, 1, none⟩ (.int .i64 0)).setCell ⟨w.heap.size + 1 + 1, 2, none⟩ (.bool true)).heap[w.heap.size + 1 + 1]? = some (.cells #[.int .i64 (ep : Int), .int .i64 0, .bool true, .int .i64 (ack : Int), .int .i64 0, .int .i64 0, .int .i64 0, .slice none 0 0, .string ⟨#[]⟩] 79 (0, 0)) := (blk_put hp 2 (.bool true)).1
      replace hres := hs.row hres (by omega)
      replace hst := hst.chg hs (fun k hk => by omega)
      replace HB := HB.trans (hs.below (B := w.heap.size) (fun k e => by omega) (by omega))
      replace hz := Nat.le_trans hz hs.size
      clear hs
      have hx3 : ∀ x, P = .ok x → x.1 = ⟨ep, 0, true, ack, frame0⟩ := by rw [HK.out]; exact pure_val _ _
      have hrP : rest P = st3 := by rw [HK.out]; exact pure_rest _ _
      rw [← hrP] at hst
      clear hrP HK
      have hey : ∃ i er, EyAt ((w3.setCell ⟨w.heap.size + 1 + 1, 1, none⟩ (.int .i64 0)).setCell ⟨w.heap.size + 1 + 1, 2, none⟩ (.bool true)) (w.heap.size + 1 + 1) (w.heap.size + 1) l i er ∧ (er = 0 ∧ rest P = .ok (l.drop i) ∨ er ≠ 0 ∧ rest P = .error er) := by
        generalize rest P = st at *
        cases hst with
        | ok h => exact ⟨_, 0, h, .inl ⟨rfl, rfl⟩⟩
        | bad he h => exact ⟨_, _, h, .inr ⟨he, rfl⟩⟩
      obtain ⟨i, er, hey, hcase⟩ := hey
      have hile := hey.le
      obtain ⟨a9, c9, hblk, hlc, ho⟩ := hey.form
      rw [hll] at hblk hile
      obtain ⟨⟨k0, k1, k2⟩, hbl, f1, f2⟩ := ey_cells hblk
      obtain ⟨y1, yl, yf⟩ := blk hp
      clear ho hlc hblk hst
      rcases hcase with ⟨rfl, hP⟩ | ⟨her, hP⟩
      · by_cases hil : i < ll
        · have hiz : (i : Int) < (ll : Int) := by omega
          have HE : Hid (E = 4) := by
            show _ = _
            have : endE (rest P) = 4 := by rw [hP, List.drop_eq_getElem_cons (by omega)]; rfl
            rw [HE1.out, this, if_pos (by decide)]
          have HO : Hid (O = packet0) := by show _ = _; rw [HO1.out, if_pos (by rw [HE.out]; decide)]
          obtain ⟨hey4, hch4⟩ := hey.wrong 4
          obtain ⟨a9, c9, hblk, _, _⟩ := hey4.form
          obtain ⟨⟨k0', k1', k2'⟩, hbl', f1', f2'⟩ := ey_cells hblk
          have hres4 := hch4.row hres (by omega)
          have HB4 := HB.trans (hch4.below (B := w.heap.size) (fun k e => by omega) HB.size)
          clear HE1 HO1 hP hblk hey hey4 hx3 hch4 HB
          have hS0 := zp_make k2' hres4 hbl' HB4
          go_wp2_with fail
          go_region_held3 (fun w' => w'.cell? ⟨w.heap.size + 1, 2, none⟩ = some (.int .i64 4) ∧ (∀ j, w'.cell? ⟨w.heap.size, j, none⟩ = #[.int .i64 0, .int .i64 0, .bool false, .int .i64 0, .int .i64 0, .int .i64 0, .int .i64 0, .slice none 0 0, .string ⟨#[]⟩][j]?) ∧ (∀ j, w'.frozen? ⟨w.heap.size, j, none⟩ = false) ∧ w'.heap[w.heap.size]? = some (.cells #[.int .i64 0, .int .i64 0, .bool false, .int .i64 0, .int .i64 0, .int .i64 0, .int .i64 0, .slice none 0 0, .string ⟨#[]⟩] 79 (0, 0)) ∧ w.heap.size + 1 < w'.heap.size ∧ Below w.heap.size w w') (with_reducible first | exact zp_drew hS0 | exact zp_drew (zp_keep hS0) | assumption | exact zp_keep (by assumption)) (fail)
          have hSf := zp_drew (zp_keep hS0)
          clear hS0
          generalize ((((((((((((w3.setCell ⟨w.heap.size + 1 + 1, 1, none⟩ (.int .i64 0)).setCell ⟨w.heap.size + 1 + 1, 2, none⟩ (.bool true)).setCell ⟨w.heap.size + 1, 2, none⟩ (.int .i64 4)).setCell ⟨w.heap.size, 0, none⟩ (.int .i64 0)).setCell ⟨w.heap.size, 1, none⟩ (.int .i64 0)).setCell ⟨w.heap.size, 2, none⟩ (.bool false)).setCell ⟨w.heap.size, 3, none⟩ (.int .i64 0)).setCell ⟨w.heap.size, 4, none⟩ (.int .i64 0)).setCell ⟨w.heap.size, 5, none⟩ (.int .i64 0)).setCell ⟨w.heap.size, 6, none⟩ (.int .i64 0)).setCell ⟨w.heap.size, 7, none⟩ (.slice none 0 0)).setCell ⟨w.heap.size, 8, none⟩ (.string ⟨#[]⟩)).drew = w9 at *
          go_wp2_with fail
          obtain ⟨_, t9, _, _, _, HB9⟩ := hSf
          refine bodyPost_ret (v := .tuple #[.agg #[.int .i64 0, .int .i64 0, .bool false, .int .i64 0, .int .i64 0, .int .i64 0, .int .i64 0, .slice none 0 0, .string ⟨#[]⟩], .int .i64 4]) (by simp [results, Tryd.results45, go_sem, t9]) rfl ⟨.slice none 0 0, ?_, ?_, HB9⟩
          · rw [HE.out, HO.out]; rfl
          · rw [HO.out]; exact World.ownsRow_nil _ _ _ _
        · obtain rfl : i = ll := by omega
          have hiz : ¬ (i : Int) < (i : Int) := by omega
          have hP2 : ∃ x, P = .ok (x, []) := by
            cases P with
            | error e => cases hP
            | ok y =>
              obtain ⟨x, r⟩ := y
              have h6 : Except.ok r = (Except.ok (l.drop i) : Except Int (List Nat)) := hP
              cases h6
              exact ⟨x, by rw [List.drop_eq_nil_of_le (by omega)]⟩
          obtain ⟨x, hP2⟩ := hP2
          have hxe : x = ⟨ep, 0, true, ack, frame0⟩ := hx3 (x, []) hP2
          have HE : Hid (E = packetErr ((ep : Nat) : Int) (0 : Nat) true ((ack : Nat) : Int) (0 : Nat) (0 : Nat) (0 : Nat) [] ByteArray.empty) := by
            show _ = _
            rw [HE1.out, hP2, hxe]
            show (if (0 : Int) ≠ 0 then _ else _) = _
            rw [if_neg (by simp)]
            rfl
          have HOx : Hid (O = if E ≠ 0 then packet0 else ⟨ep, 0, true, ack, frame0⟩) := by show _ = _; rw [HO1.out, hP2, hxe]
          have hopA : OpAt ((w3.setCell ⟨w.heap.size + 1 + 1, 1, none⟩ (.int .i64 0)).setCell ⟨w.heap.size + 1 + 1, 2, none⟩ (.bool true)) none [] := .inl rfl
          have cC := packetFault_any ((ep : Nat) : Int) (0 : Nat) true ((ack : Nat) : Int) (0 : Nat) (0 : Nat) (0 : Nat) [] none 0 ByteArray.empty _ hopA (by simp) (by simp) (by first | omega | simp) (hT.below HB)
          rw [show ([] : List Part).length = 0 from rfl] at cC
          clear HE1 HO1 hP hx3 hP2 hxe hopA
          generalize packetErr ((ep : Nat) : Int) (0 : Nat) true ((ack : Nat) : Int) (0 : Nat) (0 : Nat) (0 : Nat) [] ByteArray.empty = er at *
          go_wp2_with fail
          refine cC.mono ?_
          clear y1 yl yf k0 k1 k2 f1 f2 hbl
          generalize ((w3.setCell ⟨w.heap.size + 1 + 1, 1, none⟩ (.int .i64 0)).setCell ⟨w.heap.size + 1 + 1, 2, none⟩ (.bool true)) = u3 at *
          rintro r w7 ⟨rfl, hb7⟩
          have hb7z := hb7.size
          have hey7 := hey.chg (F := fun k => u3.heap.size ≤ k) ⟨hb7.os, hb7.tape, hb7.output, hb7.size, fun k hk h => hb7.block k (by omega)⟩ (fun k hk => by omega)
          have hp7 := (hb7.block _ (Array.getElem?_eq_some_iff.1 hp).1).trans hp
          have hres7 := (hb7.block _ (Array.getElem?_eq_some_iff.1 hres).1).trans hres
          have HB7 := below_two HB hb7 (Nat.le_refl _)
          clear hp hres HB hey cC hb7
          obtain ⟨a9, c9, hblk, _, _⟩ := hey7.form
          obtain ⟨⟨k0, k1, k2⟩, hbl, f1, f2⟩ := ey_cells hblk
          have hblk7 := hblk
          clear hblk
          obtain ⟨hey8, hch8⟩ := hey7.wrong er
          obtain ⟨a8, c8, hblk, _, _⟩ := hey8.form
          obtain ⟨⟨j0, j1, j2⟩, jl, jf1, jf2⟩ := ey_cells hblk
          have hp8 := hch8.row hp7 (by omega)
          have hres8 := hch8.row hres7 (by omega)
          have HB8 := HB7.trans (hch8.below (B := w.heap.size) (fun k e => by omega) HB7.size)
          obtain ⟨y8, yl8, yf8⟩ := blk hp8
          obtain ⟨r8, rl8, rf8⟩ := blk hres8
          clear hblk hblk7 hey8 hey7 hp7 hres7 HB7 hch8
          by_cases h7 : er = 0
          · subst h7
            have HO : Hid (O = ⟨ep, 0, true, ack, frame0⟩) := by show _ = _; rw [HOx.out, HE.out, if_neg (by simp)]
            obtain ⟨hfin, hch9⟩ := puts_all hres8 [.int .i64 (ep : Int), .int .i64 0, .bool true, .int .i64 (ack : Int), .int .i64 0, .int .i64 0, .int .i64 0, .slice none 0 0, .string ⟨#[]⟩] rfl
            simp only [puts, Nat.zero_add, Nat.reduceAdd] at hfin hch9
            have HB9 := HB8.trans (hch9.below (fun k e => by omega) HB8.size)
            clear HOx hch9 HB8 hp8 hres8
            go_wp2_with fail
            generalize ((((((((((w7.setCell ⟨w.heap.size + 1, 2, none⟩ (.int .i64 0)).setCell ⟨w.heap.size, 0, none⟩ (.int .i64 (ep : Int))).setCell ⟨w.heap.size, 1, none⟩ (.int .i64 0)).setCell ⟨w.heap.size, 2, none⟩ (.bool true)).setCell ⟨w.heap.size, 3, none⟩ (.int .i64 (ack : Int))).setCell ⟨w.heap.size, 4, none⟩ (.int .i64 0)).setCell ⟨w.heap.size, 5, none⟩ (.int .i64 0)).setCell ⟨w.heap.size, 6, none⟩ (.int .i64 0)).setCell ⟨w.heap.size, 7, none⟩ (.slice none 0 0)).setCell ⟨w.heap.size, 8, none⟩ (.string ⟨#[]⟩)) = w9 at *
            obtain ⟨t9, _, _⟩ := blk hfin
            refine bodyPost_ret (v := .tuple #[.agg #[.int .i64 (ep : Int), .int .i64 0, .bool true, .int .i64 (ack : Int), .int .i64 0, .int .i64 0, .int .i64 0, .slice none 0 0, .string ⟨#[]⟩], .int .i64 0]) (by simp [results, Tryd.results45, go_sem, t9]) rfl ⟨.slice none 0 0, ?_, ?_, HB9⟩
            · rw [HE.out, HO.out]; rfl
            · rw [HO.out]; exact World.ownsRow_nil _ _ _ _
          · have g7 : (er == 0) = false := by simpa using h7
            have HO : Hid (O = packet0) := by show _ = _; rw [HOx.out, HE.out, if_pos h7]
            clear HOx hp8
            have hS0 := zp_make j2 hres8 jl HB8
            go_wp2_with fail
            go_region_held3 (fun w' => w'.cell? ⟨w.heap.size + 1, 2, none⟩ = some (.int .i64 er) ∧ (∀ j, w'.cell? ⟨w.heap.size, j, none⟩ = #[.int .i64 0, .int .i64 0, .bool false, .int .i64 0, .int .i64 0, .int .i64 0, .int .i64 0, .slice none 0 0, .string ⟨#[]⟩][j]?) ∧ (∀ j, w'.frozen? ⟨w.heap.size, j, none⟩ = false) ∧ w'.heap[w.heap.size]? = some (.cells #[.int .i64 0, .int .i64 0, .bool false, .int .i64 0, .int .i64 0, .int .i64 0, .int .i64 0, .slice none 0 0, .string ⟨#[]⟩] 79 (0, 0)) ∧ w.heap.size + 1 < w'.heap.size ∧ Below w.heap.size w w') (with_reducible first | exact zp_drew hS0 | exact zp_drew (zp_keep hS0) | assumption | exact zp_keep (by assumption)) (fail)
            have hSf := zp_drew (zp_keep hS0)
            clear hS0
            generalize ((((((((((w7.setCell ⟨w.heap.size + 1, 2, none⟩ (.int .i64 er)).setCell ⟨w.heap.size, 0, none⟩ (.int .i64 0)).setCell ⟨w.heap.size, 1, none⟩ (.int .i64 0)).setCell ⟨w.heap.size, 2, none⟩ (.bool false)).setCell ⟨w.heap.size, 3, none⟩ (.int .i64 0)).setCell ⟨w.heap.size, 4, none⟩ (.int .i64 0)).setCell ⟨w.heap.size, 5, none⟩ (.int .i64 0)).setCell ⟨w.heap.size, 6, none⟩ (.int .i64 0)).setCell ⟨w.heap.size, 7, none⟩ (.slice none 0 0)).setCell ⟨w.heap.size, 8, none⟩ (.string ⟨#[]⟩)).drew = w9 at *
            go_wp2_with fail
            obtain ⟨_, t9, _, _, _, HB9⟩ := hSf
            refine bodyPost_ret (v := .tuple #[.agg #[.int .i64 0, .int .i64 0, .bool false, .int .i64 0, .int .i64 0, .int .i64 0, .int .i64 0, .slice none 0 0, .string ⟨#[]⟩], .int .i64 er]) (by simp [results, Tryd.results45, go_sem, t9]) rfl ⟨.slice none 0 0, ?_, ?_, HB9⟩
            · rw [HE.out, HO.out]; rfl
            · rw [HO.out]; exact World.ownsRow_nil _ _ _ _
      · have g : (er == 0) = false := by simpa using her
        have HE : Hid (E = er) := by
          show _ = _
          have : endE (rest P) = er := by rw [hP]; rfl
          rw [HE1.out, this, if_pos her]
        have HO : Hid (O = packet0) := by show _ = _; rw [HO1.out, if_pos (by rw [HE.out]; exact her)]
        clear HE1 HO1 hP hey hx3
        have hS0 := zp_make k2 hres hbl HB
        go_wp2_with fail
        go_region_held3 (fun w' => w'.cell? ⟨w.heap.size + 1, 2, none⟩ = some (.int .i64 er) ∧ (∀ j, w'.cell? ⟨w.heap.size, j, none⟩ = #[.int .i64 0, .int .i64 0, .bool false, .int .i64 0, .int .i64 0, .int .i64 0, .int .i64 0, .slice none 0 0, .string ⟨#[]⟩][j]?) ∧ (∀ j, w'.frozen? ⟨w.heap.size, j, none⟩ = false) ∧ w'.heap[w.heap.size]? = some (.cells #[.int .i64 0, .int .i64 0, .bool false, .int .i64 0, .int .i64 0, .int .i64 0, .int .i64 0, .slice none 0 0, .string ⟨#[]⟩] 79 (0, 0)) ∧ w.heap.size + 1 < w'.heap.size ∧ Below w.heap.size w w') (with_reducible first | exact zp_drew hS0 | exact zp_drew (zp_keep hS0) | assumption | exact zp_keep (by assumption)) (fail)
        have hSf := zp_drew (zp_keep hS0)
        clear hS0
        generalize (((((((((((w3.setCell ⟨w.heap.size + 1 + 1, 1, none⟩ (.int .i64 0)).setCell ⟨w.heap.size + 1 + 1, 2, none⟩ (.bool true)).setCell ⟨w.heap.size, 0, none⟩ (.int .i64 0)).setCell ⟨w.heap.size, 1, none⟩ (.int .i64 0)).setCell ⟨w.heap.size, 2, none⟩ (.bool false)).setCell ⟨w.heap.size, 3, none⟩ (.int .i64 0)).setCell ⟨w.heap.size, 4, none⟩ (.int .i64 0)).setCell ⟨w.heap.size, 5, none⟩ (.int .i64 0)).setCell ⟨w.heap.size, 6, none⟩ (.int .i64 0)).setCell ⟨w.heap.size, 7, none⟩ (.slice none 0 0)).setCell ⟨w.heap.size, 8, none⟩ (.string ⟨#[]⟩)).drew = w9 at *
        go_wp2_with fail
        obtain ⟨_, t9, _, _, _, HB9⟩ := hSf
        refine bodyPost_ret (v := .tuple #[.agg #[.int .i64 0, .int .i64 0, .bool false, .int .i64 0, .int .i64 0, .int .i64 0, .int .i64 0, .slice none 0 0, .string ⟨#[]⟩], .int .i64 er]) (by simp [results, Tryd.results45, go_sem, t9]) rfl ⟨.slice none 0 0, ?_, ?_, HB9⟩
        · rw [HE.out, HO.out]; rfl
        · rw [HO.out]; exact World.ownsRow_nil _ _ _ _
    · rw [if_neg h0] at HK
      have g0 : ((num : Int) == 0) = false := by simp; omega
      rw [show (seqP frameP fun f => pureP (⟨ep, num, false, ack, f⟩ : PacketV)) = seqP numP fun k => if k = 1 then seqP numP fun h => seqP opP fun ps => pureP ⟨ep, num, false, ack, ⟨1, h, 0, ps, ByteArray.empty⟩⟩ else if k = 3 then seqP numP fun e => seqP textP fun s => pureP ⟨ep, num, false, ack, ⟨3, 0, e, [], s⟩⟩ else seqP numP fun e => seqP numP fun h => pureP ⟨ep, num, false, ack, ⟨k, h, e, [], ByteArray.empty⟩⟩ from frame_in ep num ack] at HK
      obtain ⟨p7, pl7, pf7⟩ := blk hp
      have hs := (blk_put hp 1 (.int .i64 (num : Int))).2
      replace hp : (w3.setCell ⟨w.heap.size + 1 + 1, 1, none⟩ (.int .i64 (num : Int))).heap[w.heap.size + 1 + 1]? = some (.cells #[.int .i64 (ep : Int), .int .i64 (num : Int), .bool false, .int .i64 (ack : Int), .int .i64 0, .int .i64 0, .int .i64 0, .slice none 0 0, .string ⟨#[]⟩] 79 (0, 0)) := (blk_put hp 1 (.int .i64 (num : Int))).1
      replace hres := hs.row hres (by omega)
      replace hst := hst.chg hs (fun k hk => by omega)
      replace HB := HB.trans (hs.below (B := w.heap.size) (fun k e => by omega) (by omega))
      replace hz := Nat.le_trans hz hs.size
      clear hs
      obtain ⟨p8, pl8, pf8⟩ := blk hp
      have hs := (blk_put hp 2 (.bool false)).2
      replace hp : ((w3.setCell ⟨w.heap.size + 1 + 1, 1, none⟩ (.int .i64 (num : Int))).setCell ⟨w.heap.size + 1 + 1, 2, none⟩ (.bool false)).heap[w.heap.size + 1 + 1]? = some (.cells #[.int .i64 (ep : Int), .int .i64 (num : Int), .bool false, .int .i64 (ack : Int), .int .i64 0, .int .i64 0, .int .i64 0, .slice none 0 0, .string ⟨#[]⟩] 79 (0, 0)) := (blk_put hp 2 (.bool false)).1
      replace hres := hs.row hres (by omega)
      replace hst := hst.chg hs (fun k hk => by omega)
      replace HB := HB.trans (hs.below (B := w.heap.size) (fun k e => by omega) (by omega))
      replace hz := Nat.le_trans hz hs.size
      clear hs
      have cN := enum_any _ _ _ _ _ hst
      clear hst
      go_wp2_with fail
      refine cN.mono ?_
      clear cN p7 pl7 pf7 p8 pl8 pf8
      generalize ((w3.setCell ⟨w.heap.size + 1 + 1, 1, none⟩ (.int .i64 (num : Int))).setCell ⟨w.heap.size + 1 + 1, 2, none⟩ (.bool false)) = v3 at *
      rintro r w4 ⟨k, rfl, n4, hst, hx, _, hc1⟩
      replace HK : Hid (P = andR (rest (andR st3 numP)) (if k = 1 then seqP numP fun h => seqP opP fun ps => pureP ⟨ep, num, false, ack, ⟨1, h, 0, ps, ByteArray.empty⟩⟩ else if k = 3 then seqP numP fun e => seqP textP fun s => pureP ⟨ep, num, false, ack, ⟨3, 0, e, [], s⟩⟩ else seqP numP fun e => seqP numP fun h => pureP ⟨ep, num, false, ack, ⟨k, h, e, [], ByteArray.empty⟩⟩)) := HK.out.trans (seq_at hx)
      generalize rest (andR st3 numP) = st4 at *
      replace hres := hc1.row hres (by omega)
      replace hp := hc1.row hp (by omega)
      replace HB := HB.trans (hc1.below (B := w.heap.size) (fun k e => by omega) (by omega))
      replace hz := Nat.le_trans hz hc1.size
      clear hx hc1
      by_cases h1 : k = 1
      · subst h1
        rw [if_pos rfl] at HK
        obtain ⟨p9, pl9, pf9⟩ := blk hp
        have hs := (blk_put hp 4 (.int .i64 1)).2
        replace hp : (w4.setCell ⟨w.heap.size + 1 + 1, 4, none⟩ (.int .i64 1)).heap[w.heap.size + 1 + 1]? = some (.cells #[.int .i64 (ep : Int), .int .i64 (num : Int), .bool false, .int .i64 (ack : Int), .int .i64 1, .int .i64 0, .int .i64 0, .slice none 0 0, .string ⟨#[]⟩] 79 (0, 0)) := (blk_put hp 4 (.int .i64 1)).1
        replace hres := hs.row hres (by omega)
        replace hst := hst.chg hs (fun k hk => by omega)
        replace HB := HB.trans (hs.below (B := w.heap.size) (fun k e => by omega) (by omega))
        replace hz := Nat.le_trans hz hs.size
        clear hs
        have cN := enum_any _ _ _ _ _ hst
        clear hst
        go_wp2_with fail
        refine cN.mono ?_
        clear cN p9 pl9 pf9
        generalize (w4.setCell ⟨w.heap.size + 1 + 1, 4, none⟩ (.int .i64 1)) = v10 at *
        rintro r w5 ⟨fh, rfl, n5, hst, hx, _, hc1⟩
        replace HK : Hid (P = andR (rest (andR st4 numP)) (seqP opP fun ps => pureP ⟨ep, num, false, ack, ⟨1, fh, 0, ps, ByteArray.empty⟩⟩)) := HK.out.trans (seq_at hx)
        generalize rest (andR st4 numP) = st5 at *
        replace hres := hc1.row hres (by omega)
        replace hp := hc1.row hp (by omega)
        replace HB := HB.trans (hc1.below (B := w.heap.size) (fun k e => by omega) (by omega))
        replace hz := Nat.le_trans hz hc1.size
        clear hx hc1
        obtain ⟨p11, pl11, pf11⟩ := blk hp
        have hs := (blk_put hp 5 (.int .i64 (fh : Int))).2
        replace hp : (w5.setCell ⟨w.heap.size + 1 + 1, 5, none⟩ (.int .i64 (fh : Int))).heap[w.heap.size + 1 + 1]? = some (.cells #[.int .i64 (ep : Int), .int .i64 (num : Int), .bool false, .int .i64 (ack : Int), .int .i64 1, .int .i64 (fh : Int), .int .i64 0, .slice none 0 0, .string ⟨#[]⟩] 79 (0, 0)) := (blk_put hp 5 (.int .i64 (fh : Int))).1
        replace hres := hs.row hres (by omega)
        replace hst := hst.chg hs (fun k hk => by omega)
        replace HB := HB.trans (hs.below (B := w.heap.size) (fun k e => by omega) (by omega))
        replace hz := Nat.le_trans hz hs.size
        clear hs
        have cN := eops_any _ _ _ _ _ hst
        clear hst
        go_wp2_with fail
        refine cN.mono ?_
        clear cN p11 pl11 pf11
        generalize (w5.setCell ⟨w.heap.size + 1 + 1, 5, none⟩ (.int .i64 (fh : Int))) = v12 at *
        rintro r w6 ⟨v, ps, rfl, hown, hst, hx, hpl, hpk, hc1⟩
        obtain ⟨va, vc, rfl⟩ := own_form hown
        have hzo := hz
        replace HK : Hid (P = andR (rest (andR st5 opP)) (pureP ⟨ep, num, false, ack, ⟨1, fh, 0, ps, ByteArray.empty⟩⟩)) := HK.out.trans (seq_at hx)
        generalize rest (andR st5 opP) = st6 at *
        generalize hpn : ps.length = pn at *
        have HPN : Hid (ps.length = pn) := hpn
        clear hpn
        replace hres := hc1.row hres (by omega)
        replace hp := hc1.row hp (by omega)
        replace HB := HB.trans (hc1.below (B := w.heap.size) (fun k e => by omega) (by omega))
        replace hz := Nat.le_trans hz hc1.size
        clear hx hc1
        obtain ⟨p13, pl13, pf13⟩ := blk hp
        have hs := (blk_put hp 7 (.slice va pn vc)).2
        replace hown := own_chg hown hs (fun k hk e => row_ne hown hp (by decide) (by rw [← e]; exact hk.symm))
        replace hp : (w6.setCell ⟨w.heap.size + 1 + 1, 7, none⟩ (.slice va pn vc)).heap[w.heap.size + 1 + 1]? = some (.cells #[.int .i64 (ep : Int), .int .i64 (num : Int), .bool false, .int .i64 (ack : Int), .int .i64 1, .int .i64 (fh : Int), .int .i64 0, .slice va pn vc, .string ⟨#[]⟩] 79 (0, 0)) := (blk_put hp 7 (.slice va pn vc)).1
        replace hres := hs.row hres (by omega)
        replace hst := hst.chg hs (fun k hk => by omega)
        replace HB := HB.trans (hs.below (B := w.heap.size) (fun k e => by omega) (by omega))
        replace hz := Nat.le_trans hz hs.size
        clear hs
        have hx3 : ∀ x, P = .ok x → x.1 = ⟨ep, num, false, ack, ⟨1, fh, 0, ps, ByteArray.empty⟩⟩ := by rw [HK.out]; exact pure_val _ _
        have hrP : rest P = st6 := by rw [HK.out]; exact pure_rest _ _
        rw [← hrP] at hst
        clear hrP HK
        have hey : ∃ i er, EyAt (w6.setCell ⟨w.heap.size + 1 + 1, 7, none⟩ (.slice va pn vc)) (w.heap.size + 1 + 1) (w.heap.size + 1) l i er ∧ (er = 0 ∧ rest P = .ok (l.drop i) ∨ er ≠ 0 ∧ rest P = .error er) := by
          generalize rest P = st at *
          cases hst with
          | ok h => exact ⟨_, 0, h, .inl ⟨rfl, rfl⟩⟩
          | bad he h => exact ⟨_, _, h, .inr ⟨he, rfl⟩⟩
        obtain ⟨i, er, hey, hcase⟩ := hey
        have hile := hey.le
        obtain ⟨a9, c9, hblk, hlc, ho⟩ := hey.form
        rw [hll] at hblk hile
        obtain ⟨⟨k0, k1, k2⟩, hbl, f1, f2⟩ := ey_cells hblk
        obtain ⟨y1, yl, yf⟩ := blk hp
        clear ho hlc hblk hst
        rcases hcase with ⟨rfl, hP⟩ | ⟨her, hP⟩
        · by_cases hil : i < ll
          · have hiz : (i : Int) < (ll : Int) := by omega
            have HE : Hid (E = 4) := by
              show _ = _
              have : endE (rest P) = 4 := by rw [hP, List.drop_eq_getElem_cons (by omega)]; rfl
              rw [HE1.out, this, if_pos (by decide)]
            have HO : Hid (O = packet0) := by show _ = _; rw [HO1.out, if_pos (by rw [HE.out]; decide)]
            obtain ⟨hey4, hch4⟩ := hey.wrong 4
            obtain ⟨a9, c9, hblk, _, _⟩ := hey4.form
            obtain ⟨⟨k0', k1', k2'⟩, hbl', f1', f2'⟩ := ey_cells hblk
            have hres4 := hch4.row hres (by omega)
            have HB4 := HB.trans (hch4.below (B := w.heap.size) (fun k e => by omega) HB.size)
            clear HE1 HO1 hP hblk hey hey4 hx3 hch4 HB
            have hS0 := zp_make k2' hres4 hbl' HB4
            go_wp2_with fail
            go_region_held3 (fun w' => w'.cell? ⟨w.heap.size + 1, 2, none⟩ = some (.int .i64 4) ∧ (∀ j, w'.cell? ⟨w.heap.size, j, none⟩ = #[.int .i64 0, .int .i64 0, .bool false, .int .i64 0, .int .i64 0, .int .i64 0, .int .i64 0, .slice none 0 0, .string ⟨#[]⟩][j]?) ∧ (∀ j, w'.frozen? ⟨w.heap.size, j, none⟩ = false) ∧ w'.heap[w.heap.size]? = some (.cells #[.int .i64 0, .int .i64 0, .bool false, .int .i64 0, .int .i64 0, .int .i64 0, .int .i64 0, .slice none 0 0, .string ⟨#[]⟩] 79 (0, 0)) ∧ w.heap.size + 1 < w'.heap.size ∧ Below w.heap.size w w') (with_reducible first | exact zp_drew hS0 | exact zp_drew (zp_keep hS0) | assumption | exact zp_keep (by assumption)) (fail)
            have hSf := zp_drew (zp_keep hS0)
            clear hS0
            generalize (((((((((((w6.setCell ⟨w.heap.size + 1 + 1, 7, none⟩ (.slice va pn vc)).setCell ⟨w.heap.size + 1, 2, none⟩ (.int .i64 4)).setCell ⟨w.heap.size, 0, none⟩ (.int .i64 0)).setCell ⟨w.heap.size, 1, none⟩ (.int .i64 0)).setCell ⟨w.heap.size, 2, none⟩ (.bool false)).setCell ⟨w.heap.size, 3, none⟩ (.int .i64 0)).setCell ⟨w.heap.size, 4, none⟩ (.int .i64 0)).setCell ⟨w.heap.size, 5, none⟩ (.int .i64 0)).setCell ⟨w.heap.size, 6, none⟩ (.int .i64 0)).setCell ⟨w.heap.size, 7, none⟩ (.slice none 0 0)).setCell ⟨w.heap.size, 8, none⟩ (.string ⟨#[]⟩)).drew = w9 at *
            go_wp2_with fail
            obtain ⟨_, t9, _, _, _, HB9⟩ := hSf
            refine bodyPost_ret (v := .tuple #[.agg #[.int .i64 0, .int .i64 0, .bool false, .int .i64 0, .int .i64 0, .int .i64 0, .int .i64 0, .slice none 0 0, .string ⟨#[]⟩], .int .i64 4]) (by simp [results, Tryd.results45, go_sem, t9]) rfl ⟨.slice none 0 0, ?_, ?_, HB9⟩
            · rw [HE.out, HO.out]; rfl
            · rw [HO.out]; exact World.ownsRow_nil _ _ _ _
          · obtain rfl : i = ll := by omega
            have hiz : ¬ (i : Int) < (i : Int) := by omega
            have hP2 : ∃ x, P = .ok (x, []) := by
              cases P with
              | error e => cases hP
              | ok y =>
                obtain ⟨x, r⟩ := y
                have h6 : Except.ok r = (Except.ok (l.drop i) : Except Int (List Nat)) := hP
                cases h6
                exact ⟨x, by rw [List.drop_eq_nil_of_le (by omega)]⟩
            obtain ⟨x, hP2⟩ := hP2
            have hxe : x = ⟨ep, num, false, ack, ⟨1, fh, 0, ps, ByteArray.empty⟩⟩ := hx3 (x, []) hP2
            have HE : Hid (E = packetErr ((ep : Nat) : Int) ((num : Nat) : Int) false ((ack : Nat) : Int) ((1 : Nat) : Int) ((fh : Nat) : Int) ((0 : Nat) : Int) ps ByteArray.empty) := by
              show _ = _
              rw [HE1.out, hP2, hxe]
              show (if (0 : Int) ≠ 0 then _ else _) = _
              rw [if_neg (by simp)]
              rfl
            have HOx : Hid (O = if E ≠ 0 then packet0 else ⟨ep, num, false, ack, ⟨1, fh, 0, ps, ByteArray.empty⟩⟩) := by show _ = _; rw [HO1.out, hP2, hxe]
            have hopA : OpAt (w6.setCell ⟨w.heap.size + 1 + 1, 7, none⟩ (.slice va pn vc)) va ps := by
              have h' := hown
              rw [← HPN.out] at h' ⊢
              obtain ⟨a', c', e', ho, _⟩ := own_opAt' h'
              simp only [Value.slice.injEq, true_and] at e'
              obtain ⟨rfl, rfl⟩ := e'
              exact ho
            have cC := packetFault_any ((ep : Nat) : Int) ((num : Nat) : Int) false ((ack : Nat) : Int) ((1 : Nat) : Int) ((fh : Nat) : Int) ((0 : Nat) : Int) ps va vc ByteArray.empty _ hopA (by rw [HPN.out]; omega) (fun p hp => by have := (hpk p hp).2.2; omega) (by simp) (hT.below HB)
            rw [HPN.out] at cC
            clear HE1 HO1 hP hx3 hP2 hxe hopA
            generalize packetErr ((ep : Nat) : Int) ((num : Nat) : Int) false ((ack : Nat) : Int) ((1 : Nat) : Int) ((fh : Nat) : Int) ((0 : Nat) : Int) ps ByteArray.empty = er at *
            go_wp2_with fail
            refine cC.mono ?_
            clear y1 yl yf k0 k1 k2 f1 f2 hbl
            generalize (w6.setCell ⟨w.heap.size + 1 + 1, 7, none⟩ (.slice va pn vc)) = u3 at *
            rintro r w7 ⟨rfl, hb7⟩
            have hb7z := hb7.size
            have hey7 := hey.chg (F := fun k => u3.heap.size ≤ k) ⟨hb7.os, hb7.tape, hb7.output, hb7.size, fun k hk h => hb7.block k (by omega)⟩ (fun k hk => by omega)
            have hp7 := (hb7.block _ (Array.getElem?_eq_some_iff.1 hp).1).trans hp
            have hres7 := (hb7.block _ (Array.getElem?_eq_some_iff.1 hres).1).trans hres
            have hown7 := own_below hown hb7
            have HB7 := below_two HB hb7 (Nat.le_refl _)
            clear hp hres HB hey cC hb7 hown
            obtain ⟨a9, c9, hblk, _, _⟩ := hey7.form
            obtain ⟨⟨k0, k1, k2⟩, hbl, f1, f2⟩ := ey_cells hblk
            have hblk7 := hblk
            clear hblk
            obtain ⟨hey8, hch8⟩ := hey7.wrong er
            obtain ⟨a8, c8, hblk, _, _⟩ := hey8.form
            obtain ⟨⟨j0, j1, j2⟩, jl, jf1, jf2⟩ := ey_cells hblk
            have hp8 := hch8.row hp7 (by omega)
            have hres8 := hch8.row hres7 (by omega)
            have HB8 := HB7.trans (hch8.below (B := w.heap.size) (fun k e => by omega) HB7.size)
            have hown8 := own_chg hown7 hch8 (fun k hk e => row_ne hown7 (show w7.heap[w.heap.size + 1]? = _ from hblk7) (by decide) (by rw [← e]; exact hk.symm))
            obtain ⟨y8, yl8, yf8⟩ := blk hp8
            obtain ⟨r8, rl8, rf8⟩ := blk hres8
            clear hblk hblk7 hey8 hey7 hp7 hres7 HB7 hch8 hown7
            by_cases h7 : er = 0
            · subst h7
              have HO : Hid (O = ⟨ep, num, false, ack, ⟨1, fh, 0, ps, ByteArray.empty⟩⟩) := by show _ = _; rw [HOx.out, HE.out, if_neg (by simp)]
              obtain ⟨hfin, hch9⟩ := puts_all hres8 [.int .i64 (ep : Int), .int .i64 (num : Int), .bool false, .int .i64 (ack : Int), .int .i64 1, .int .i64 (fh : Int), .int .i64 0, .slice va pn vc, .string ⟨#[]⟩] rfl
              simp only [puts, Nat.zero_add, Nat.reduceAdd] at hfin hch9
              have hown9 := own_base (own_chg hown8 hch9 (fun k hk e => row_ne hown8 hres8 (by decide) (by rw [← e]; exact hk.symm))) (show w.heap.size ≤ v12.heap.size by omega)
              have HB9 := HB8.trans (hch9.below (fun k e => by omega) HB8.size)
              clear HOx hch9 HB8 hp8 hres8
              go_wp2_with fail
              generalize ((((((((((w7.setCell ⟨w.heap.size + 1, 2, none⟩ (.int .i64 0)).setCell ⟨w.heap.size, 0, none⟩ (.int .i64 (ep : Int))).setCell ⟨w.heap.size, 1, none⟩ (.int .i64 (num : Int))).setCell ⟨w.heap.size, 2, none⟩ (.bool false)).setCell ⟨w.heap.size, 3, none⟩ (.int .i64 (ack : Int))).setCell ⟨w.heap.size, 4, none⟩ (.int .i64 1)).setCell ⟨w.heap.size, 5, none⟩ (.int .i64 (fh : Int))).setCell ⟨w.heap.size, 6, none⟩ (.int .i64 0)).setCell ⟨w.heap.size, 7, none⟩ (.slice va pn vc)).setCell ⟨w.heap.size, 8, none⟩ (.string ⟨#[]⟩)) = w9 at *
              obtain ⟨t9, _, _⟩ := blk hfin
              refine bodyPost_ret (v := .tuple #[.agg #[.int .i64 (ep : Int), .int .i64 (num : Int), .bool false, .int .i64 (ack : Int), .int .i64 1, .int .i64 (fh : Int), .int .i64 0, .slice va pn vc, .string ⟨#[]⟩], .int .i64 0]) (by simp [results, Tryd.results45, go_sem, t9]) rfl ⟨.slice va pn vc, ?_, ?_, HB9⟩
              · rw [HE.out, HO.out]; rfl
              · rw [HO.out]; simp only; rw [HPN.out]; exact hown9
            · have g7 : (er == 0) = false := by simpa using h7
              have HO : Hid (O = packet0) := by show _ = _; rw [HOx.out, HE.out, if_pos h7]
              clear HOx hp8 hown8
              have hS0 := zp_make j2 hres8 jl HB8
              go_wp2_with fail
              go_region_held3 (fun w' => w'.cell? ⟨w.heap.size + 1, 2, none⟩ = some (.int .i64 er) ∧ (∀ j, w'.cell? ⟨w.heap.size, j, none⟩ = #[.int .i64 0, .int .i64 0, .bool false, .int .i64 0, .int .i64 0, .int .i64 0, .int .i64 0, .slice none 0 0, .string ⟨#[]⟩][j]?) ∧ (∀ j, w'.frozen? ⟨w.heap.size, j, none⟩ = false) ∧ w'.heap[w.heap.size]? = some (.cells #[.int .i64 0, .int .i64 0, .bool false, .int .i64 0, .int .i64 0, .int .i64 0, .int .i64 0, .slice none 0 0, .string ⟨#[]⟩] 79 (0, 0)) ∧ w.heap.size + 1 < w'.heap.size ∧ Below w.heap.size w w') (with_reducible first | exact zp_drew hS0 | exact zp_drew (zp_keep hS0) | assumption | exact zp_keep (by assumption)) (fail)
              have hSf := zp_drew (zp_keep hS0)
              clear hS0
              generalize ((((((((((w7.setCell ⟨w.heap.size + 1, 2, none⟩ (.int .i64 er)).setCell ⟨w.heap.size, 0, none⟩ (.int .i64 0)).setCell ⟨w.heap.size, 1, none⟩ (.int .i64 0)).setCell ⟨w.heap.size, 2, none⟩ (.bool false)).setCell ⟨w.heap.size, 3, none⟩ (.int .i64 0)).setCell ⟨w.heap.size, 4, none⟩ (.int .i64 0)).setCell ⟨w.heap.size, 5, none⟩ (.int .i64 0)).setCell ⟨w.heap.size, 6, none⟩ (.int .i64 0)).setCell ⟨w.heap.size, 7, none⟩ (.slice none 0 0)).setCell ⟨w.heap.size, 8, none⟩ (.string ⟨#[]⟩)).drew = w9 at *
              go_wp2_with fail
              obtain ⟨_, t9, _, _, _, HB9⟩ := hSf
              refine bodyPost_ret (v := .tuple #[.agg #[.int .i64 0, .int .i64 0, .bool false, .int .i64 0, .int .i64 0, .int .i64 0, .int .i64 0, .slice none 0 0, .string ⟨#[]⟩], .int .i64 er]) (by simp [results, Tryd.results45, go_sem, t9]) rfl ⟨.slice none 0 0, ?_, ?_, HB9⟩
              · rw [HE.out, HO.out]; rfl
              · rw [HO.out]; exact World.ownsRow_nil _ _ _ _
        · have g : (er == 0) = false := by simpa using her
          have HE : Hid (E = er) := by
            show _ = _
            have : endE (rest P) = er := by rw [hP]; rfl
            rw [HE1.out, this, if_pos her]
          have HO : Hid (O = packet0) := by show _ = _; rw [HO1.out, if_pos (by rw [HE.out]; exact her)]
          clear HE1 HO1 hP hey hx3
          have hS0 := zp_make k2 hres hbl HB
          go_wp2_with fail
          go_region_held3 (fun w' => w'.cell? ⟨w.heap.size + 1, 2, none⟩ = some (.int .i64 er) ∧ (∀ j, w'.cell? ⟨w.heap.size, j, none⟩ = #[.int .i64 0, .int .i64 0, .bool false, .int .i64 0, .int .i64 0, .int .i64 0, .int .i64 0, .slice none 0 0, .string ⟨#[]⟩][j]?) ∧ (∀ j, w'.frozen? ⟨w.heap.size, j, none⟩ = false) ∧ w'.heap[w.heap.size]? = some (.cells #[.int .i64 0, .int .i64 0, .bool false, .int .i64 0, .int .i64 0, .int .i64 0, .int .i64 0, .slice none 0 0, .string ⟨#[]⟩] 79 (0, 0)) ∧ w.heap.size + 1 < w'.heap.size ∧ Below w.heap.size w w') (with_reducible first | exact zp_drew hS0 | exact zp_drew (zp_keep hS0) | assumption | exact zp_keep (by assumption)) (fail)
          have hSf := zp_drew (zp_keep hS0)
          clear hS0
          generalize ((((((((((w6.setCell ⟨w.heap.size + 1 + 1, 7, none⟩ (.slice va pn vc)).setCell ⟨w.heap.size, 0, none⟩ (.int .i64 0)).setCell ⟨w.heap.size, 1, none⟩ (.int .i64 0)).setCell ⟨w.heap.size, 2, none⟩ (.bool false)).setCell ⟨w.heap.size, 3, none⟩ (.int .i64 0)).setCell ⟨w.heap.size, 4, none⟩ (.int .i64 0)).setCell ⟨w.heap.size, 5, none⟩ (.int .i64 0)).setCell ⟨w.heap.size, 6, none⟩ (.int .i64 0)).setCell ⟨w.heap.size, 7, none⟩ (.slice none 0 0)).setCell ⟨w.heap.size, 8, none⟩ (.string ⟨#[]⟩)).drew = w9 at *
          go_wp2_with fail
          obtain ⟨_, t9, _, _, _, HB9⟩ := hSf
          refine bodyPost_ret (v := .tuple #[.agg #[.int .i64 0, .int .i64 0, .bool false, .int .i64 0, .int .i64 0, .int .i64 0, .int .i64 0, .slice none 0 0, .string ⟨#[]⟩], .int .i64 er]) (by simp [results, Tryd.results45, go_sem, t9]) rfl ⟨.slice none 0 0, ?_, ?_, HB9⟩
          · rw [HE.out, HO.out]; rfl
          · rw [HO.out]; exact World.ownsRow_nil _ _ _ _
      · by_cases h3 : k = 3
        · subst h3
          rw [if_neg (by decide), if_pos rfl] at HK
          obtain ⟨p14, pl14, pf14⟩ := blk hp
          have hs := (blk_put hp 4 (.int .i64 3)).2
          replace hp : (w4.setCell ⟨w.heap.size + 1 + 1, 4, none⟩ (.int .i64 3)).heap[w.heap.size + 1 + 1]? = some (.cells #[.int .i64 (ep : Int), .int .i64 (num : Int), .bool false, .int .i64 (ack : Int), .int .i64 3, .int .i64 0, .int .i64 0, .slice none 0 0, .string ⟨#[]⟩] 79 (0, 0)) := (blk_put hp 4 (.int .i64 3)).1
          replace hres := hs.row hres (by omega)
          replace hst := hst.chg hs (fun k hk => by omega)
          replace HB := HB.trans (hs.below (B := w.heap.size) (fun k e => by omega) (by omega))
          replace hz := Nat.le_trans hz hs.size
          clear hs
          have cN := enum_any _ _ _ _ _ hst
          clear hst
          go_wp2_with fail
          refine cN.mono ?_
          clear cN p14 pl14 pf14
          generalize (w4.setCell ⟨w.heap.size + 1 + 1, 4, none⟩ (.int .i64 3)) = v15 at *
          rintro r w5 ⟨fe, rfl, n5, hst, hx, _, hc1⟩
          replace HK : Hid (P = andR (rest (andR st4 numP)) (seqP textP fun s => pureP ⟨ep, num, false, ack, ⟨3, 0, fe, [], s⟩⟩)) := HK.out.trans (seq_at hx)
          generalize rest (andR st4 numP) = st5 at *
          replace hres := hc1.row hres (by omega)
          replace hp := hc1.row hp (by omega)
          replace HB := HB.trans (hc1.below (B := w.heap.size) (fun k e => by omega) (by omega))
          replace hz := Nat.le_trans hz hc1.size
          clear hx hc1
          obtain ⟨p16, pl16, pf16⟩ := blk hp
          have hs := (blk_put hp 6 (.int .i64 (fe : Int))).2
          replace hp : (w5.setCell ⟨w.heap.size + 1 + 1, 6, none⟩ (.int .i64 (fe : Int))).heap[w.heap.size + 1 + 1]? = some (.cells #[.int .i64 (ep : Int), .int .i64 (num : Int), .bool false, .int .i64 (ack : Int), .int .i64 3, .int .i64 0, .int .i64 (fe : Int), .slice none 0 0, .string ⟨#[]⟩] 79 (0, 0)) := (blk_put hp 6 (.int .i64 (fe : Int))).1
          replace hres := hs.row hres (by omega)
          replace hst := hst.chg hs (fun k hk => by omega)
          replace HB := HB.trans (hs.below (B := w.heap.size) (fun k e => by omega) (by omega))
          replace hz := Nat.le_trans hz hs.size
          clear hs
          have cN := estr_any _ _ _ _ _ hst
          clear hst
          go_wp2_with fail
          refine cN.mono ?_
          clear cN p16 pl16 pf16
          generalize (w5.setCell ⟨w.heap.size + 1 + 1, 6, none⟩ (.int .i64 (fe : Int))) = v17 at *
          rintro r w6 ⟨tx, rfl, hst, hx, n6, hc1⟩
          replace HK : Hid (P = andR (rest (andR st5 textP)) (pureP ⟨ep, num, false, ack, ⟨3, 0, fe, [], tx⟩⟩)) := HK.out.trans (seq_at hx)
          generalize rest (andR st5 textP) = st6 at *
          replace hres := hc1.row hres (by omega)
          replace hp := hc1.row hp (by omega)
          replace HB := HB.trans (hc1.below (B := w.heap.size) (fun k e => by omega) (by omega))
          replace hz := Nat.le_trans hz hc1.size
          clear hx hc1
          obtain ⟨p18, pl18, pf18⟩ := blk hp
          have hs := (blk_put hp 8 (.string tx)).2
          replace hp : (w6.setCell ⟨w.heap.size + 1 + 1, 8, none⟩ (.string tx)).heap[w.heap.size + 1 + 1]? = some (.cells #[.int .i64 (ep : Int), .int .i64 (num : Int), .bool false, .int .i64 (ack : Int), .int .i64 3, .int .i64 0, .int .i64 (fe : Int), .slice none 0 0, .string tx] 79 (0, 0)) := (blk_put hp 8 (.string tx)).1
          replace hres := hs.row hres (by omega)
          replace hst := hst.chg hs (fun k hk => by omega)
          replace HB := HB.trans (hs.below (B := w.heap.size) (fun k e => by omega) (by omega))
          replace hz := Nat.le_trans hz hs.size
          clear hs
          have hx3 : ∀ x, P = .ok x → x.1 = ⟨ep, num, false, ack, ⟨3, 0, fe, [], tx⟩⟩ := by rw [HK.out]; exact pure_val _ _
          have hrP : rest P = st6 := by rw [HK.out]; exact pure_rest _ _
          rw [← hrP] at hst
          clear hrP HK
          have hey : ∃ i er, EyAt (w6.setCell ⟨w.heap.size + 1 + 1, 8, none⟩ (.string tx)) (w.heap.size + 1 + 1) (w.heap.size + 1) l i er ∧ (er = 0 ∧ rest P = .ok (l.drop i) ∨ er ≠ 0 ∧ rest P = .error er) := by
            generalize rest P = st at *
            cases hst with
            | ok h => exact ⟨_, 0, h, .inl ⟨rfl, rfl⟩⟩
            | bad he h => exact ⟨_, _, h, .inr ⟨he, rfl⟩⟩
          obtain ⟨i, er, hey, hcase⟩ := hey
          have hile := hey.le
          obtain ⟨a9, c9, hblk, hlc, ho⟩ := hey.form
          rw [hll] at hblk hile
          obtain ⟨⟨k0, k1, k2⟩, hbl, f1, f2⟩ := ey_cells hblk
          obtain ⟨y1, yl, yf⟩ := blk hp
          clear ho hlc hblk hst
          rcases hcase with ⟨rfl, hP⟩ | ⟨her, hP⟩
          · by_cases hil : i < ll
            · have hiz : (i : Int) < (ll : Int) := by omega
              have HE : Hid (E = 4) := by
                show _ = _
                have : endE (rest P) = 4 := by rw [hP, List.drop_eq_getElem_cons (by omega)]; rfl
                rw [HE1.out, this, if_pos (by decide)]
              have HO : Hid (O = packet0) := by show _ = _; rw [HO1.out, if_pos (by rw [HE.out]; decide)]
              obtain ⟨hey4, hch4⟩ := hey.wrong 4
              obtain ⟨a9, c9, hblk, _, _⟩ := hey4.form
              obtain ⟨⟨k0', k1', k2'⟩, hbl', f1', f2'⟩ := ey_cells hblk
              have hres4 := hch4.row hres (by omega)
              have HB4 := HB.trans (hch4.below (B := w.heap.size) (fun k e => by omega) HB.size)
              clear HE1 HO1 hP hblk hey hey4 hx3 hch4 HB
              have hS0 := zp_make k2' hres4 hbl' HB4
              go_wp2_with fail
              go_region_held3 (fun w' => w'.cell? ⟨w.heap.size + 1, 2, none⟩ = some (.int .i64 4) ∧ (∀ j, w'.cell? ⟨w.heap.size, j, none⟩ = #[.int .i64 0, .int .i64 0, .bool false, .int .i64 0, .int .i64 0, .int .i64 0, .int .i64 0, .slice none 0 0, .string ⟨#[]⟩][j]?) ∧ (∀ j, w'.frozen? ⟨w.heap.size, j, none⟩ = false) ∧ w'.heap[w.heap.size]? = some (.cells #[.int .i64 0, .int .i64 0, .bool false, .int .i64 0, .int .i64 0, .int .i64 0, .int .i64 0, .slice none 0 0, .string ⟨#[]⟩] 79 (0, 0)) ∧ w.heap.size + 1 < w'.heap.size ∧ Below w.heap.size w w') (with_reducible first | exact zp_drew hS0 | exact zp_drew (zp_keep hS0) | assumption | exact zp_keep (by assumption)) (fail)
              have hSf := zp_drew (zp_keep hS0)
              clear hS0
              generalize (((((((((((w6.setCell ⟨w.heap.size + 1 + 1, 8, none⟩ (.string tx)).setCell ⟨w.heap.size + 1, 2, none⟩ (.int .i64 4)).setCell ⟨w.heap.size, 0, none⟩ (.int .i64 0)).setCell ⟨w.heap.size, 1, none⟩ (.int .i64 0)).setCell ⟨w.heap.size, 2, none⟩ (.bool false)).setCell ⟨w.heap.size, 3, none⟩ (.int .i64 0)).setCell ⟨w.heap.size, 4, none⟩ (.int .i64 0)).setCell ⟨w.heap.size, 5, none⟩ (.int .i64 0)).setCell ⟨w.heap.size, 6, none⟩ (.int .i64 0)).setCell ⟨w.heap.size, 7, none⟩ (.slice none 0 0)).setCell ⟨w.heap.size, 8, none⟩ (.string ⟨#[]⟩)).drew = w9 at *
              go_wp2_with fail
              obtain ⟨_, t9, _, _, _, HB9⟩ := hSf
              refine bodyPost_ret (v := .tuple #[.agg #[.int .i64 0, .int .i64 0, .bool false, .int .i64 0, .int .i64 0, .int .i64 0, .int .i64 0, .slice none 0 0, .string ⟨#[]⟩], .int .i64 4]) (by simp [results, Tryd.results45, go_sem, t9]) rfl ⟨.slice none 0 0, ?_, ?_, HB9⟩
              · rw [HE.out, HO.out]; rfl
              · rw [HO.out]; exact World.ownsRow_nil _ _ _ _
            · obtain rfl : i = ll := by omega
              have hiz : ¬ (i : Int) < (i : Int) := by omega
              have hP2 : ∃ x, P = .ok (x, []) := by
                cases P with
                | error e => cases hP
                | ok y =>
                  obtain ⟨x, r⟩ := y
                  have h6 : Except.ok r = (Except.ok (l.drop i) : Except Int (List Nat)) := hP
                  cases h6
                  exact ⟨x, by rw [List.drop_eq_nil_of_le (by omega)]⟩
              obtain ⟨x, hP2⟩ := hP2
              have hxe : x = ⟨ep, num, false, ack, ⟨3, 0, fe, [], tx⟩⟩ := hx3 (x, []) hP2
              have HE : Hid (E = packetErr ((ep : Nat) : Int) ((num : Nat) : Int) false ((ack : Nat) : Int) ((3 : Nat) : Int) ((0 : Nat) : Int) ((fe : Nat) : Int) [] tx) := by
                show _ = _
                rw [HE1.out, hP2, hxe]
                show (if (0 : Int) ≠ 0 then _ else _) = _
                rw [if_neg (by simp)]
                rfl
              have HOx : Hid (O = if E ≠ 0 then packet0 else ⟨ep, num, false, ack, ⟨3, 0, fe, [], tx⟩⟩) := by show _ = _; rw [HO1.out, hP2, hxe]
              have hopA : OpAt (w6.setCell ⟨w.heap.size + 1 + 1, 8, none⟩ (.string tx)) none [] := .inl rfl
              have cC := packetFault_any ((ep : Nat) : Int) ((num : Nat) : Int) false ((ack : Nat) : Int) ((3 : Nat) : Int) ((0 : Nat) : Int) ((fe : Nat) : Int) [] none 0 tx _ hopA (by simp) (by simp) (by first | omega | simp) (hT.below HB)
              rw [show ([] : List Part).length = 0 from rfl] at cC
              clear HE1 HO1 hP hx3 hP2 hxe hopA
              generalize packetErr ((ep : Nat) : Int) ((num : Nat) : Int) false ((ack : Nat) : Int) ((3 : Nat) : Int) ((0 : Nat) : Int) ((fe : Nat) : Int) [] tx = er at *
              go_wp2_with fail
              refine cC.mono ?_
              clear y1 yl yf k0 k1 k2 f1 f2 hbl
              generalize (w6.setCell ⟨w.heap.size + 1 + 1, 8, none⟩ (.string tx)) = u3 at *
              rintro r w7 ⟨rfl, hb7⟩
              have hb7z := hb7.size
              have hey7 := hey.chg (F := fun k => u3.heap.size ≤ k) ⟨hb7.os, hb7.tape, hb7.output, hb7.size, fun k hk h => hb7.block k (by omega)⟩ (fun k hk => by omega)
              have hp7 := (hb7.block _ (Array.getElem?_eq_some_iff.1 hp).1).trans hp
              have hres7 := (hb7.block _ (Array.getElem?_eq_some_iff.1 hres).1).trans hres
              have HB7 := below_two HB hb7 (Nat.le_refl _)
              clear hp hres HB hey cC hb7
              obtain ⟨a9, c9, hblk, _, _⟩ := hey7.form
              obtain ⟨⟨k0, k1, k2⟩, hbl, f1, f2⟩ := ey_cells hblk
              have hblk7 := hblk
              clear hblk
              obtain ⟨hey8, hch8⟩ := hey7.wrong er
              obtain ⟨a8, c8, hblk, _, _⟩ := hey8.form
              obtain ⟨⟨j0, j1, j2⟩, jl, jf1, jf2⟩ := ey_cells hblk
              have hp8 := hch8.row hp7 (by omega)
              have hres8 := hch8.row hres7 (by omega)
              have HB8 := HB7.trans (hch8.below (B := w.heap.size) (fun k e => by omega) HB7.size)
              obtain ⟨y8, yl8, yf8⟩ := blk hp8
              obtain ⟨r8, rl8, rf8⟩ := blk hres8
              clear hblk hblk7 hey8 hey7 hp7 hres7 HB7 hch8
              by_cases h7 : er = 0
              · subst h7
                have HO : Hid (O = ⟨ep, num, false, ack, ⟨3, 0, fe, [], tx⟩⟩) := by show _ = _; rw [HOx.out, HE.out, if_neg (by simp)]
                obtain ⟨hfin, hch9⟩ := puts_all hres8 [.int .i64 (ep : Int), .int .i64 (num : Int), .bool false, .int .i64 (ack : Int), .int .i64 3, .int .i64 0, .int .i64 (fe : Int), .slice none 0 0, .string tx] rfl
                simp only [puts, Nat.zero_add, Nat.reduceAdd] at hfin hch9
                have HB9 := HB8.trans (hch9.below (fun k e => by omega) HB8.size)
                clear HOx hch9 HB8 hp8 hres8
                go_wp2_with fail
                generalize ((((((((((w7.setCell ⟨w.heap.size + 1, 2, none⟩ (.int .i64 0)).setCell ⟨w.heap.size, 0, none⟩ (.int .i64 (ep : Int))).setCell ⟨w.heap.size, 1, none⟩ (.int .i64 (num : Int))).setCell ⟨w.heap.size, 2, none⟩ (.bool false)).setCell ⟨w.heap.size, 3, none⟩ (.int .i64 (ack : Int))).setCell ⟨w.heap.size, 4, none⟩ (.int .i64 3)).setCell ⟨w.heap.size, 5, none⟩ (.int .i64 0)).setCell ⟨w.heap.size, 6, none⟩ (.int .i64 (fe : Int))).setCell ⟨w.heap.size, 7, none⟩ (.slice none 0 0)).setCell ⟨w.heap.size, 8, none⟩ (.string tx)) = w9 at *
                obtain ⟨t9, _, _⟩ := blk hfin
                refine bodyPost_ret (v := .tuple #[.agg #[.int .i64 (ep : Int), .int .i64 (num : Int), .bool false, .int .i64 (ack : Int), .int .i64 3, .int .i64 0, .int .i64 (fe : Int), .slice none 0 0, .string tx], .int .i64 0]) (by simp [results, Tryd.results45, go_sem, t9]) rfl ⟨.slice none 0 0, ?_, ?_, HB9⟩
                · rw [HE.out, HO.out]; rfl
                · rw [HO.out]; exact World.ownsRow_nil _ _ _ _
              · have g7 : (er == 0) = false := by simpa using h7
                have HO : Hid (O = packet0) := by show _ = _; rw [HOx.out, HE.out, if_pos h7]
                clear HOx hp8
                have hS0 := zp_make j2 hres8 jl HB8
                go_wp2_with fail
                go_region_held3 (fun w' => w'.cell? ⟨w.heap.size + 1, 2, none⟩ = some (.int .i64 er) ∧ (∀ j, w'.cell? ⟨w.heap.size, j, none⟩ = #[.int .i64 0, .int .i64 0, .bool false, .int .i64 0, .int .i64 0, .int .i64 0, .int .i64 0, .slice none 0 0, .string ⟨#[]⟩][j]?) ∧ (∀ j, w'.frozen? ⟨w.heap.size, j, none⟩ = false) ∧ w'.heap[w.heap.size]? = some (.cells #[.int .i64 0, .int .i64 0, .bool false, .int .i64 0, .int .i64 0, .int .i64 0, .int .i64 0, .slice none 0 0, .string ⟨#[]⟩] 79 (0, 0)) ∧ w.heap.size + 1 < w'.heap.size ∧ Below w.heap.size w w') (with_reducible first | exact zp_drew hS0 | exact zp_drew (zp_keep hS0) | assumption | exact zp_keep (by assumption)) (fail)
                have hSf := zp_drew (zp_keep hS0)
                clear hS0
                generalize ((((((((((w7.setCell ⟨w.heap.size + 1, 2, none⟩ (.int .i64 er)).setCell ⟨w.heap.size, 0, none⟩ (.int .i64 0)).setCell ⟨w.heap.size, 1, none⟩ (.int .i64 0)).setCell ⟨w.heap.size, 2, none⟩ (.bool false)).setCell ⟨w.heap.size, 3, none⟩ (.int .i64 0)).setCell ⟨w.heap.size, 4, none⟩ (.int .i64 0)).setCell ⟨w.heap.size, 5, none⟩ (.int .i64 0)).setCell ⟨w.heap.size, 6, none⟩ (.int .i64 0)).setCell ⟨w.heap.size, 7, none⟩ (.slice none 0 0)).setCell ⟨w.heap.size, 8, none⟩ (.string ⟨#[]⟩)).drew = w9 at *
                go_wp2_with fail
                obtain ⟨_, t9, _, _, _, HB9⟩ := hSf
                refine bodyPost_ret (v := .tuple #[.agg #[.int .i64 0, .int .i64 0, .bool false, .int .i64 0, .int .i64 0, .int .i64 0, .int .i64 0, .slice none 0 0, .string ⟨#[]⟩], .int .i64 er]) (by simp [results, Tryd.results45, go_sem, t9]) rfl ⟨.slice none 0 0, ?_, ?_, HB9⟩
                · rw [HE.out, HO.out]; rfl
                · rw [HO.out]; exact World.ownsRow_nil _ _ _ _
          · have g : (er == 0) = false := by simpa using her
            have HE : Hid (E = er) := by
              show _ = _
              have : endE (rest P) = er := by rw [hP]; rfl
              rw [HE1.out, this, if_pos her]
            have HO : Hid (O = packet0) := by show _ = _; rw [HO1.out, if_pos (by rw [HE.out]; exact her)]
            clear HE1 HO1 hP hey hx3
            have hS0 := zp_make k2 hres hbl HB
            go_wp2_with fail
            go_region_held3 (fun w' => w'.cell? ⟨w.heap.size + 1, 2, none⟩ = some (.int .i64 er) ∧ (∀ j, w'.cell? ⟨w.heap.size, j, none⟩ = #[.int .i64 0, .int .i64 0, .bool false, .int .i64 0, .int .i64 0, .int .i64 0, .int .i64 0, .slice none 0 0, .string ⟨#[]⟩][j]?) ∧ (∀ j, w'.frozen? ⟨w.heap.size, j, none⟩ = false) ∧ w'.heap[w.heap.size]? = some (.cells #[.int .i64 0, .int .i64 0, .bool false, .int .i64 0, .int .i64 0, .int .i64 0, .int .i64 0, .slice none 0 0, .string ⟨#[]⟩] 79 (0, 0)) ∧ w.heap.size + 1 < w'.heap.size ∧ Below w.heap.size w w') (with_reducible first | exact zp_drew hS0 | exact zp_drew (zp_keep hS0) | assumption | exact zp_keep (by assumption)) (fail)
            have hSf := zp_drew (zp_keep hS0)
            clear hS0
            generalize ((((((((((w6.setCell ⟨w.heap.size + 1 + 1, 8, none⟩ (.string tx)).setCell ⟨w.heap.size, 0, none⟩ (.int .i64 0)).setCell ⟨w.heap.size, 1, none⟩ (.int .i64 0)).setCell ⟨w.heap.size, 2, none⟩ (.bool false)).setCell ⟨w.heap.size, 3, none⟩ (.int .i64 0)).setCell ⟨w.heap.size, 4, none⟩ (.int .i64 0)).setCell ⟨w.heap.size, 5, none⟩ (.int .i64 0)).setCell ⟨w.heap.size, 6, none⟩ (.int .i64 0)).setCell ⟨w.heap.size, 7, none⟩ (.slice none 0 0)).setCell ⟨w.heap.size, 8, none⟩ (.string ⟨#[]⟩)).drew = w9 at *
            go_wp2_with fail
            obtain ⟨_, t9, _, _, _, HB9⟩ := hSf
            refine bodyPost_ret (v := .tuple #[.agg #[.int .i64 0, .int .i64 0, .bool false, .int .i64 0, .int .i64 0, .int .i64 0, .int .i64 0, .slice none 0 0, .string ⟨#[]⟩], .int .i64 er]) (by simp [results, Tryd.results45, go_sem, t9]) rfl ⟨.slice none 0 0, ?_, ?_, HB9⟩
            · rw [HE.out, HO.out]; rfl
            · rw [HO.out]; exact World.ownsRow_nil _ _ _ _
        · rw [if_neg h1, if_neg h3] at HK
          have g1 : ((k : Int) == 1) = false := by simp; omega
          have g1' : ((k : Int) != 1) = true := by simp; omega
          have g3 : ((k : Int) == 3) = false := by simp; omega
          obtain ⟨p19, pl19, pf19⟩ := blk hp
          have hs := (blk_put hp 4 (.int .i64 (k : Int))).2
          replace hp : (w4.setCell ⟨w.heap.size + 1 + 1, 4, none⟩ (.int .i64 (k : Int))).heap[w.heap.size + 1 + 1]? = some (.cells #[.int .i64 (ep : Int), .int .i64 (num : Int), .bool false, .int .i64 (ack : Int), .int .i64 (k : Int), .int .i64 0, .int .i64 0, .slice none 0 0, .string ⟨#[]⟩] 79 (0, 0)) := (blk_put hp 4 (.int .i64 (k : Int))).1
          replace hres := hs.row hres (by omega)
          replace hst := hst.chg hs (fun k hk => by omega)
          replace HB := HB.trans (hs.below (B := w.heap.size) (fun k e => by omega) (by omega))
          replace hz := Nat.le_trans hz hs.size
          clear hs
          have cN := enum_any _ _ _ _ _ hst
          clear hst
          go_wp2_with fail
          refine cN.mono ?_
          clear cN p19 pl19 pf19
          generalize (w4.setCell ⟨w.heap.size + 1 + 1, 4, none⟩ (.int .i64 (k : Int))) = v20 at *
          rintro r w5 ⟨fe, rfl, n5, hst, hx, _, hc1⟩
          replace HK : Hid (P = andR (rest (andR st4 numP)) (seqP numP fun h => pureP ⟨ep, num, false, ack, ⟨k, h, fe, [], ByteArray.empty⟩⟩)) := HK.out.trans (seq_at hx)
          generalize rest (andR st4 numP) = st5 at *
          replace hres := hc1.row hres (by omega)
          replace hp := hc1.row hp (by omega)
          replace HB := HB.trans (hc1.below (B := w.heap.size) (fun k e => by omega) (by omega))
          replace hz := Nat.le_trans hz hc1.size
          clear hx hc1
          obtain ⟨p21, pl21, pf21⟩ := blk hp
          have hs := (blk_put hp 6 (.int .i64 (fe : Int))).2
          replace hp : (w5.setCell ⟨w.heap.size + 1 + 1, 6, none⟩ (.int .i64 (fe : Int))).heap[w.heap.size + 1 + 1]? = some (.cells #[.int .i64 (ep : Int), .int .i64 (num : Int), .bool false, .int .i64 (ack : Int), .int .i64 (k : Int), .int .i64 0, .int .i64 (fe : Int), .slice none 0 0, .string ⟨#[]⟩] 79 (0, 0)) := (blk_put hp 6 (.int .i64 (fe : Int))).1
          replace hres := hs.row hres (by omega)
          replace hst := hst.chg hs (fun k hk => by omega)
          replace HB := HB.trans (hs.below (B := w.heap.size) (fun k e => by omega) (by omega))
          replace hz := Nat.le_trans hz hs.size
          clear hs
          have cN := enum_any _ _ _ _ _ hst
          clear hst
          go_wp2_with fail
          refine cN.mono ?_
          clear cN p21 pl21 pf21
          generalize (w5.setCell ⟨w.heap.size + 1 + 1, 6, none⟩ (.int .i64 (fe : Int))) = v22 at *
          rintro r w6 ⟨fh, rfl, n6, hst, hx, _, hc1⟩
          replace HK : Hid (P = andR (rest (andR st5 numP)) (pureP ⟨ep, num, false, ack, ⟨k, fh, fe, [], ByteArray.empty⟩⟩)) := HK.out.trans (seq_at hx)
          generalize rest (andR st5 numP) = st6 at *
          replace hres := hc1.row hres (by omega)
          replace hp := hc1.row hp (by omega)
          replace HB := HB.trans (hc1.below (B := w.heap.size) (fun k e => by omega) (by omega))
          replace hz := Nat.le_trans hz hc1.size
          clear hx hc1
          obtain ⟨p23, pl23, pf23⟩ := blk hp
          have hs := (blk_put hp 5 (.int .i64 (fh : Int))).2
          replace hp : (w6.setCell ⟨w.heap.size + 1 + 1, 5, none⟩ (.int .i64 (fh : Int))).heap[w.heap.size + 1 + 1]? = some (.cells #[.int .i64 (ep : Int), .int .i64 (num : Int), .bool false, .int .i64 (ack : Int), .int .i64 (k : Int), .int .i64 (fh : Int), .int .i64 (fe : Int), .slice none 0 0, .string ⟨#[]⟩] 79 (0, 0)) := (blk_put hp 5 (.int .i64 (fh : Int))).1
          replace hres := hs.row hres (by omega)
          replace hst := hst.chg hs (fun k hk => by omega)
          replace HB := HB.trans (hs.below (B := w.heap.size) (fun k e => by omega) (by omega))
          replace hz := Nat.le_trans hz hs.size
          clear hs
          have hx3 : ∀ x, P = .ok x → x.1 = ⟨ep, num, false, ack, ⟨k, fh, fe, [], ByteArray.empty⟩⟩ := by rw [HK.out]; exact pure_val _ _
          have hrP : rest P = st6 := by rw [HK.out]; exact pure_rest _ _
          rw [← hrP] at hst
          clear hrP HK
          have hey : ∃ i er, EyAt (w6.setCell ⟨w.heap.size + 1 + 1, 5, none⟩ (.int .i64 (fh : Int))) (w.heap.size + 1 + 1) (w.heap.size + 1) l i er ∧ (er = 0 ∧ rest P = .ok (l.drop i) ∨ er ≠ 0 ∧ rest P = .error er) := by
            generalize rest P = st at *
            cases hst with
            | ok h => exact ⟨_, 0, h, .inl ⟨rfl, rfl⟩⟩
            | bad he h => exact ⟨_, _, h, .inr ⟨he, rfl⟩⟩
          obtain ⟨i, er, hey, hcase⟩ := hey
          have hile := hey.le
          obtain ⟨a9, c9, hblk, hlc, ho⟩ := hey.form
          rw [hll] at hblk hile
          obtain ⟨⟨k0, k1, k2⟩, hbl, f1, f2⟩ := ey_cells hblk
          obtain ⟨y1, yl, yf⟩ := blk hp
          clear ho hlc hblk hst
          rcases hcase with ⟨rfl, hP⟩ | ⟨her, hP⟩
          · by_cases hil : i < ll
            · have hiz : (i : Int) < (ll : Int) := by omega
              have HE : Hid (E = 4) := by
                show _ = _
                have : endE (rest P) = 4 := by rw [hP, List.drop_eq_getElem_cons (by omega)]; rfl
                rw [HE1.out, this, if_pos (by decide)]
              have HO : Hid (O = packet0) := by show _ = _; rw [HO1.out, if_pos (by rw [HE.out]; decide)]
              obtain ⟨hey4, hch4⟩ := hey.wrong 4
              obtain ⟨a9, c9, hblk, _, _⟩ := hey4.form
              obtain ⟨⟨k0', k1', k2'⟩, hbl', f1', f2'⟩ := ey_cells hblk
              have hres4 := hch4.row hres (by omega)
              have HB4 := HB.trans (hch4.below (B := w.heap.size) (fun k e => by omega) HB.size)
              clear HE1 HO1 hP hblk hey hey4 hx3 hch4 HB
              have hS0 := zp_make k2' hres4 hbl' HB4
              go_wp2_with fail
              go_region_held3 (fun w' => w'.cell? ⟨w.heap.size + 1, 2, none⟩ = some (.int .i64 4) ∧ (∀ j, w'.cell? ⟨w.heap.size, j, none⟩ = #[.int .i64 0, .int .i64 0, .bool false, .int .i64 0, .int .i64 0, .int .i64 0, .int .i64 0, .slice none 0 0, .string ⟨#[]⟩][j]?) ∧ (∀ j, w'.frozen? ⟨w.heap.size, j, none⟩ = false) ∧ w'.heap[w.heap.size]? = some (.cells #[.int .i64 0, .int .i64 0, .bool false, .int .i64 0, .int .i64 0, .int .i64 0, .int .i64 0, .slice none 0 0, .string ⟨#[]⟩] 79 (0, 0)) ∧ w.heap.size + 1 < w'.heap.size ∧ Below w.heap.size w w') (with_reducible first | exact zp_drew hS0 | exact zp_drew (zp_keep hS0) | assumption | exact zp_keep (by assumption)) (fail)
              have hSf := zp_drew (zp_keep hS0)
              clear hS0
              generalize (((((((((((w6.setCell ⟨w.heap.size + 1 + 1, 5, none⟩ (.int .i64 (fh : Int))).setCell ⟨w.heap.size + 1, 2, none⟩ (.int .i64 4)).setCell ⟨w.heap.size, 0, none⟩ (.int .i64 0)).setCell ⟨w.heap.size, 1, none⟩ (.int .i64 0)).setCell ⟨w.heap.size, 2, none⟩ (.bool false)).setCell ⟨w.heap.size, 3, none⟩ (.int .i64 0)).setCell ⟨w.heap.size, 4, none⟩ (.int .i64 0)).setCell ⟨w.heap.size, 5, none⟩ (.int .i64 0)).setCell ⟨w.heap.size, 6, none⟩ (.int .i64 0)).setCell ⟨w.heap.size, 7, none⟩ (.slice none 0 0)).setCell ⟨w.heap.size, 8, none⟩ (.string ⟨#[]⟩)).drew = w9 at *
              go_wp2_with fail
              obtain ⟨_, t9, _, _, _, HB9⟩ := hSf
              refine bodyPost_ret (v := .tuple #[.agg #[.int .i64 0, .int .i64 0, .bool false, .int .i64 0, .int .i64 0, .int .i64 0, .int .i64 0, .slice none 0 0, .string ⟨#[]⟩], .int .i64 4]) (by simp [results, Tryd.results45, go_sem, t9]) rfl ⟨.slice none 0 0, ?_, ?_, HB9⟩
              · rw [HE.out, HO.out]; rfl
              · rw [HO.out]; exact World.ownsRow_nil _ _ _ _
            · obtain rfl : i = ll := by omega
              have hiz : ¬ (i : Int) < (i : Int) := by omega
              have hP2 : ∃ x, P = .ok (x, []) := by
                cases P with
                | error e => cases hP
                | ok y =>
                  obtain ⟨x, r⟩ := y
                  have h6 : Except.ok r = (Except.ok (l.drop i) : Except Int (List Nat)) := hP
                  cases h6
                  exact ⟨x, by rw [List.drop_eq_nil_of_le (by omega)]⟩
              obtain ⟨x, hP2⟩ := hP2
              have hxe : x = ⟨ep, num, false, ack, ⟨k, fh, fe, [], ByteArray.empty⟩⟩ := hx3 (x, []) hP2
              have HE : Hid (E = packetErr ((ep : Nat) : Int) ((num : Nat) : Int) false ((ack : Nat) : Int) ((k : Nat) : Int) ((fh : Nat) : Int) ((fe : Nat) : Int) [] ByteArray.empty) := by
                show _ = _
                rw [HE1.out, hP2, hxe]
                show (if (0 : Int) ≠ 0 then _ else _) = _
                rw [if_neg (by simp)]
                rfl
              have HOx : Hid (O = if E ≠ 0 then packet0 else ⟨ep, num, false, ack, ⟨k, fh, fe, [], ByteArray.empty⟩⟩) := by show _ = _; rw [HO1.out, hP2, hxe]
              have hopA : OpAt (w6.setCell ⟨w.heap.size + 1 + 1, 5, none⟩ (.int .i64 (fh : Int))) none [] := .inl rfl
              have cC := packetFault_any ((ep : Nat) : Int) ((num : Nat) : Int) false ((ack : Nat) : Int) ((k : Nat) : Int) ((fh : Nat) : Int) ((fe : Nat) : Int) [] none 0 ByteArray.empty _ hopA (by simp) (by simp) (by first | omega | simp) (hT.below HB)
              rw [show ([] : List Part).length = 0 from rfl] at cC
              clear HE1 HO1 hP hx3 hP2 hxe hopA
              generalize packetErr ((ep : Nat) : Int) ((num : Nat) : Int) false ((ack : Nat) : Int) ((k : Nat) : Int) ((fh : Nat) : Int) ((fe : Nat) : Int) [] ByteArray.empty = er at *
              go_wp2_with fail
              refine cC.mono ?_
              clear y1 yl yf k0 k1 k2 f1 f2 hbl
              generalize (w6.setCell ⟨w.heap.size + 1 + 1, 5, none⟩ (.int .i64 (fh : Int))) = u3 at *
              rintro r w7 ⟨rfl, hb7⟩
              have hb7z := hb7.size
              have hey7 := hey.chg (F := fun k => u3.heap.size ≤ k) ⟨hb7.os, hb7.tape, hb7.output, hb7.size, fun k hk h => hb7.block k (by omega)⟩ (fun k hk => by omega)
              have hp7 := (hb7.block _ (Array.getElem?_eq_some_iff.1 hp).1).trans hp
              have hres7 := (hb7.block _ (Array.getElem?_eq_some_iff.1 hres).1).trans hres
              have HB7 := below_two HB hb7 (Nat.le_refl _)
              clear hp hres HB hey cC hb7
              obtain ⟨a9, c9, hblk, _, _⟩ := hey7.form
              obtain ⟨⟨k0, k1, k2⟩, hbl, f1, f2⟩ := ey_cells hblk
              have hblk7 := hblk
              clear hblk
              obtain ⟨hey8, hch8⟩ := hey7.wrong er
              obtain ⟨a8, c8, hblk, _, _⟩ := hey8.form
              obtain ⟨⟨j0, j1, j2⟩, jl, jf1, jf2⟩ := ey_cells hblk
              have hp8 := hch8.row hp7 (by omega)
              have hres8 := hch8.row hres7 (by omega)
              have HB8 := HB7.trans (hch8.below (B := w.heap.size) (fun k e => by omega) HB7.size)
              obtain ⟨y8, yl8, yf8⟩ := blk hp8
              obtain ⟨r8, rl8, rf8⟩ := blk hres8
              clear hblk hblk7 hey8 hey7 hp7 hres7 HB7 hch8
              by_cases h7 : er = 0
              · subst h7
                have HO : Hid (O = ⟨ep, num, false, ack, ⟨k, fh, fe, [], ByteArray.empty⟩⟩) := by show _ = _; rw [HOx.out, HE.out, if_neg (by simp)]
                obtain ⟨hfin, hch9⟩ := puts_all hres8 [.int .i64 (ep : Int), .int .i64 (num : Int), .bool false, .int .i64 (ack : Int), .int .i64 (k : Int), .int .i64 (fh : Int), .int .i64 (fe : Int), .slice none 0 0, .string ⟨#[]⟩] rfl
                simp only [puts, Nat.zero_add, Nat.reduceAdd] at hfin hch9
                have HB9 := HB8.trans (hch9.below (fun k e => by omega) HB8.size)
                clear HOx hch9 HB8 hp8 hres8
                go_wp2_with fail
                generalize ((((((((((w7.setCell ⟨w.heap.size + 1, 2, none⟩ (.int .i64 0)).setCell ⟨w.heap.size, 0, none⟩ (.int .i64 (ep : Int))).setCell ⟨w.heap.size, 1, none⟩ (.int .i64 (num : Int))).setCell ⟨w.heap.size, 2, none⟩ (.bool false)).setCell ⟨w.heap.size, 3, none⟩ (.int .i64 (ack : Int))).setCell ⟨w.heap.size, 4, none⟩ (.int .i64 (k : Int))).setCell ⟨w.heap.size, 5, none⟩ (.int .i64 (fh : Int))).setCell ⟨w.heap.size, 6, none⟩ (.int .i64 (fe : Int))).setCell ⟨w.heap.size, 7, none⟩ (.slice none 0 0)).setCell ⟨w.heap.size, 8, none⟩ (.string ⟨#[]⟩)) = w9 at *
                obtain ⟨t9, _, _⟩ := blk hfin
                refine bodyPost_ret (v := .tuple #[.agg #[.int .i64 (ep : Int), .int .i64 (num : Int), .bool false, .int .i64 (ack : Int), .int .i64 (k : Int), .int .i64 (fh : Int), .int .i64 (fe : Int), .slice none 0 0, .string ⟨#[]⟩], .int .i64 0]) (by simp [results, Tryd.results45, go_sem, t9]) rfl ⟨.slice none 0 0, ?_, ?_, HB9⟩
                · rw [HE.out, HO.out]; rfl
                · rw [HO.out]; exact World.ownsRow_nil _ _ _ _
              · have g7 : (er == 0) = false := by simpa using h7
                have HO : Hid (O = packet0) := by show _ = _; rw [HOx.out, HE.out, if_pos h7]
                clear HOx hp8
                have hS0 := zp_make j2 hres8 jl HB8
                go_wp2_with fail
                go_region_held3 (fun w' => w'.cell? ⟨w.heap.size + 1, 2, none⟩ = some (.int .i64 er) ∧ (∀ j, w'.cell? ⟨w.heap.size, j, none⟩ = #[.int .i64 0, .int .i64 0, .bool false, .int .i64 0, .int .i64 0, .int .i64 0, .int .i64 0, .slice none 0 0, .string ⟨#[]⟩][j]?) ∧ (∀ j, w'.frozen? ⟨w.heap.size, j, none⟩ = false) ∧ w'.heap[w.heap.size]? = some (.cells #[.int .i64 0, .int .i64 0, .bool false, .int .i64 0, .int .i64 0, .int .i64 0, .int .i64 0, .slice none 0 0, .string ⟨#[]⟩] 79 (0, 0)) ∧ w.heap.size + 1 < w'.heap.size ∧ Below w.heap.size w w') (with_reducible first | exact zp_drew hS0 | exact zp_drew (zp_keep hS0) | assumption | exact zp_keep (by assumption)) (fail)
                have hSf := zp_drew (zp_keep hS0)
                clear hS0
                generalize ((((((((((w7.setCell ⟨w.heap.size + 1, 2, none⟩ (.int .i64 er)).setCell ⟨w.heap.size, 0, none⟩ (.int .i64 0)).setCell ⟨w.heap.size, 1, none⟩ (.int .i64 0)).setCell ⟨w.heap.size, 2, none⟩ (.bool false)).setCell ⟨w.heap.size, 3, none⟩ (.int .i64 0)).setCell ⟨w.heap.size, 4, none⟩ (.int .i64 0)).setCell ⟨w.heap.size, 5, none⟩ (.int .i64 0)).setCell ⟨w.heap.size, 6, none⟩ (.int .i64 0)).setCell ⟨w.heap.size, 7, none⟩ (.slice none 0 0)).setCell ⟨w.heap.size, 8, none⟩ (.string ⟨#[]⟩)).drew = w9 at *
                go_wp2_with fail
                obtain ⟨_, t9, _, _, _, HB9⟩ := hSf
                refine bodyPost_ret (v := .tuple #[.agg #[.int .i64 0, .int .i64 0, .bool false, .int .i64 0, .int .i64 0, .int .i64 0, .int .i64 0, .slice none 0 0, .string ⟨#[]⟩], .int .i64 er]) (by simp [results, Tryd.results45, go_sem, t9]) rfl ⟨.slice none 0 0, ?_, ?_, HB9⟩
                · rw [HE.out, HO.out]; rfl
                · rw [HO.out]; exact World.ownsRow_nil _ _ _ _
          · have g : (er == 0) = false := by simpa using her
            have HE : Hid (E = er) := by
              show _ = _
              have : endE (rest P) = er := by rw [hP]; rfl
              rw [HE1.out, this, if_pos her]
            have HO : Hid (O = packet0) := by show _ = _; rw [HO1.out, if_pos (by rw [HE.out]; exact her)]
            clear HE1 HO1 hP hey hx3
            have hS0 := zp_make k2 hres hbl HB
            go_wp2_with fail
            go_region_held3 (fun w' => w'.cell? ⟨w.heap.size + 1, 2, none⟩ = some (.int .i64 er) ∧ (∀ j, w'.cell? ⟨w.heap.size, j, none⟩ = #[.int .i64 0, .int .i64 0, .bool false, .int .i64 0, .int .i64 0, .int .i64 0, .int .i64 0, .slice none 0 0, .string ⟨#[]⟩][j]?) ∧ (∀ j, w'.frozen? ⟨w.heap.size, j, none⟩ = false) ∧ w'.heap[w.heap.size]? = some (.cells #[.int .i64 0, .int .i64 0, .bool false, .int .i64 0, .int .i64 0, .int .i64 0, .int .i64 0, .slice none 0 0, .string ⟨#[]⟩] 79 (0, 0)) ∧ w.heap.size + 1 < w'.heap.size ∧ Below w.heap.size w w') (with_reducible first | exact zp_drew hS0 | exact zp_drew (zp_keep hS0) | assumption | exact zp_keep (by assumption)) (fail)
            have hSf := zp_drew (zp_keep hS0)
            clear hS0
            generalize ((((((((((w6.setCell ⟨w.heap.size + 1 + 1, 5, none⟩ (.int .i64 (fh : Int))).setCell ⟨w.heap.size, 0, none⟩ (.int .i64 0)).setCell ⟨w.heap.size, 1, none⟩ (.int .i64 0)).setCell ⟨w.heap.size, 2, none⟩ (.bool false)).setCell ⟨w.heap.size, 3, none⟩ (.int .i64 0)).setCell ⟨w.heap.size, 4, none⟩ (.int .i64 0)).setCell ⟨w.heap.size, 5, none⟩ (.int .i64 0)).setCell ⟨w.heap.size, 6, none⟩ (.int .i64 0)).setCell ⟨w.heap.size, 7, none⟩ (.slice none 0 0)).setCell ⟨w.heap.size, 8, none⟩ (.string ⟨#[]⟩)).drew = w9 at *
            go_wp2_with fail
            obtain ⟨_, t9, _, _, _, HB9⟩ := hSf
            refine bodyPost_ret (v := .tuple #[.agg #[.int .i64 0, .int .i64 0, .bool false, .int .i64 0, .int .i64 0, .int .i64 0, .int .i64 0, .slice none 0 0, .string ⟨#[]⟩], .int .i64 er]) (by simp [results, Tryd.results45, go_sem, t9]) rfl ⟨.slice none 0 0, ?_, ?_, HB9⟩
            · rw [HE.out, HO.out]; rfl
            · rw [HO.out]; exact World.ownsRow_nil _ _ _ _

end Go.Proofs.YtmdehfomogfmlaaDoor
