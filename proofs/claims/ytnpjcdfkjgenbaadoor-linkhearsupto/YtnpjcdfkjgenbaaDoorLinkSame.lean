/-
  Walks: wherrylaw.sameFrame, samePacket, sameFrames, sameLink.
-/
import Derived.Test.YtnpjcdfkjgenbaaDoorLinkMem
import Derived.Test.YtnpjcdfkjgenbaaDoorSameOp
import Derived.Deep.LoopGhost
import Derived.Deep.RegionHeld3
namespace Go.Proofs.YtnpjcdfkjgenbaaDoor
open Go.RowKit Go.Lib

set_option maxRecDepth 100000 in
set_option maxHeartbeats 1000000 in
theorem sameFr_true (k h e : Int) (ps : List Part) (tx : ByteArray) (a b : Option Addr) (c d : Nat) (w : World) (ha : OpAt w a ps) (hb : OpAt w b ps) (hn : ps.length ≤ 1048577) :
    Calls Tryd.prog 8 #[.agg #[.int .i64 k, .int .i64 h, .int .i64 e, .slice a ps.length c, .string tx], .agg #[.int .i64 k, .int .i64 h, .int .i64 e, .slice b ps.length d, .string tx]] w fun e w' => e = .returned (.bool true) ∧ Below w.heap.size w w' := by
  have hb1 := (Below.refl w.heap.size w).alloc (Nat.le_refl _) (.cells #[.int .i64 k, .int .i64 h, .int .i64 e, .slice a ps.length c, .string tx] 28)
  have hp := row_old (heap_alloc_new w (.cells #[.int .i64 k, .int .i64 h, .int .i64 e, .slice a ps.length c, .string tx] 28)) (.cells #[.int .i64 k, .int .i64 h, .int .i64 e, .slice b ps.length d, .string tx] 28)
  have hq := heap_alloc_new (w.alloc (.cells #[.int .i64 k, .int .i64 h, .int .i64 e, .slice a ps.length c, .string tx] 28)) (.cells #[.int .i64 k, .int .i64 h, .int .i64 e, .slice b ps.length d, .string tx] 28)
  rw [show (w.alloc (.cells #[.int .i64 k, .int .i64 h, .int .i64 e, .slice a ps.length c, .string tx] 28)).heap.size = w.heap.size + 1 by simp] at hq
  have HB := hb1.alloc hb1.size (.cells #[.int .i64 k, .int .i64 h, .int .i64 e, .slice b ps.length d, .string tx] 28)
  obtain ⟨p0, _, _⟩ := blk hp
  obtain ⟨q0, _, _⟩ := blk hq
  have cS := sameOp_true ps a b c d _ (ha.below HB) (hb.below HB) (by omega)
  clear hb1 hp hq
  go_enter Tryd.func8, Tryd.ntmps8
  go_wp2_with fail
  refine cS.mono ?_
  rintro r w1 ⟨rfl, hb1⟩
  go_wp2_with fail
  go_ret
  exact ⟨by simp, below_two HB hb1 (Nat.le_refl _)⟩

set_option maxRecDepth 100000 in
set_option maxHeartbeats 1000000 in
theorem samePk_true (ep num : Int) (bare : Bool) (ack k h e : Int) (ps : List Part) (tx : ByteArray) (a b : Option Addr) (c d : Nat) (w : World) (ha : OpAt w a ps) (hb : OpAt w b ps) (hn : ps.length ≤ 1048577) :
    Calls Tryd.prog 23 #[.agg #[.int .i64 ep, .int .i64 num, .bool bare, .int .i64 ack, .int .i64 k, .int .i64 h, .int .i64 e, .slice a ps.length c, .string tx], .agg #[.int .i64 ep, .int .i64 num, .bool bare, .int .i64 ack, .int .i64 k, .int .i64 h, .int .i64 e, .slice b ps.length d, .string tx]] w fun e w' => e = .returned (.bool true) ∧ Below w.heap.size w w' := by
  have hb1 := (Below.refl w.heap.size w).alloc (Nat.le_refl _) (.cells #[.int .i64 ep, .int .i64 num, .bool bare, .int .i64 ack, .int .i64 k, .int .i64 h, .int .i64 e, .slice a ps.length c, .string tx] 30)
  have hp := row_old (heap_alloc_new w (.cells #[.int .i64 ep, .int .i64 num, .bool bare, .int .i64 ack, .int .i64 k, .int .i64 h, .int .i64 e, .slice a ps.length c, .string tx] 30)) (.cells #[.int .i64 ep, .int .i64 num, .bool bare, .int .i64 ack, .int .i64 k, .int .i64 h, .int .i64 e, .slice b ps.length d, .string tx] 30)
  have hq := heap_alloc_new (w.alloc (.cells #[.int .i64 ep, .int .i64 num, .bool bare, .int .i64 ack, .int .i64 k, .int .i64 h, .int .i64 e, .slice a ps.length c, .string tx] 30)) (.cells #[.int .i64 ep, .int .i64 num, .bool bare, .int .i64 ack, .int .i64 k, .int .i64 h, .int .i64 e, .slice b ps.length d, .string tx] 30)
  rw [show (w.alloc (.cells #[.int .i64 ep, .int .i64 num, .bool bare, .int .i64 ack, .int .i64 k, .int .i64 h, .int .i64 e, .slice a ps.length c, .string tx] 30)).heap.size = w.heap.size + 1 by simp] at hq
  have HB := hb1.alloc hb1.size (.cells #[.int .i64 ep, .int .i64 num, .bool bare, .int .i64 ack, .int .i64 k, .int .i64 h, .int .i64 e, .slice b ps.length d, .string tx] 30)
  obtain ⟨p0, _, _⟩ := blk hp
  obtain ⟨q0, _, _⟩ := blk hq
  have cS := sameFr_true k h e ps tx a b c d _ (ha.below HB) (hb.below HB) (by omega)
  clear hb1 hp hq
  go_enter Tryd.func23, Tryd.ntmps23
  go_wp2_with fail
  refine cS.mono ?_
  rintro r w1 ⟨rfl, hb1⟩
  go_wp2_with fail
  go_ret
  exact ⟨by simp, below_two HB hb1 (Nat.le_refl _)⟩


set_option maxRecDepth 100000 in
set_option maxHeartbeats 2000000 in
theorem sameFrames_true {B1 B2 : Nat} (K L : List FrK) (v1 v2 : Value) (w : World) (h1 : InK frS w B1 v1 K) (h2 : InK frS w B2 v2 L) (he : K.map (·.1) = L.map (·.1)) (hs : ∀ x ∈ K, x.1.op.length ≤ 1048577) (hn : K.length ≤ 1048577) :
    Calls Tryd.prog 21 #[v1, v2] w fun e w' => e = .returned (.bool true) ∧ Below w.heap.size w w' := by
  have hl : L.length = K.length := by have := congrArg List.length he; simpa using this.symm
  have HE : Hid (K.map (·.1) = L.map (·.1)) := he
  have HL : Hid (L.length = K.length) := hl
  obtain ⟨a1, c1, rfl, _⟩ := h1.row
  obtain ⟨a2, c2, rfl, _⟩ := h2.row
  rw [hl]
  rw [hl] at h2
  clear hl he
  have g0 : ((K.length : Int) != (K.length : Int)) = false := by simp
  go_enter Tryd.func21, Tryd.ntmps21
  go_wp2_with fail
  go_loopg [5] K.length (fun g iv wr => ∃ j : Nat, j + g = K.length ∧ iv = .int .i64 (j : Int) ∧ Below w.heap.size w wr)
  case atStart => exact ⟨0, by omega, rfl, Below.refl _ _⟩
  case round =>
    obtain ⟨j, hj, rfl, HB⟩ := hrel
    by_cases hlt : j < K.length
    · have hjz : (j : Int) < (K.length : Int) := by omega
      have hj0 : (0 : Int) ≤ (j : Int) := by omega
      have hlt2 : j < L.length := by rw [HL.out]; exact hlt
      have k1 := h1.below HB
      have k2 := h2.below HB
      have hov : OpVal wr K[j].2 K[j].1.op := (k1.each K[j] (List.getElem_mem hlt)).op
      have how : OpVal wr L[j].2 L[j].1.op := (k2.each L[j] (List.getElem_mem hlt2)).op
      have hsm := hs K[j] (List.getElem_mem hlt)
      obtain ⟨b1, o1, c1', e1, hl1, _, x0, x1, x2, x3, x4⟩ := fr_get k1 hlt
      obtain ⟨b2, o2, c2', e2, hl2, _, y0, y1, y2, y3, y4⟩ := fr_get k2 hlt2
      simp only [Value.slice.injEq] at e1 e2
      obtain ⟨rfl, hq1, rfl⟩ := e1
      obtain ⟨rfl, hq2, rfl⟩ := e2
      clear hq1 hq2
      have hKL : K[j].1 = L[j].1 := by
        have h0 : (K.map (·.1))[j]? = (L.map (·.1))[j]? := by rw [HE.out]
        rw [List.getElem?_map, List.getElem?_map, List.getElem?_eq_getElem hlt, List.getElem?_eq_getElem hlt2] at h0
        exact Option.some.inj h0
      rw [← hKL] at how y0 y1 y2 y4
      clear hKL k1 k2
      generalize L[j].2 = vv at *
      generalize K[j] = x at *
      obtain ⟨f, u⟩ := x
      simp only at hov how hsm x0 x1 x2 x3 x4 y0 y1 y2 y3 y4
      obtain ⟨ua, uc, rfl, p1, _⟩ := hov.form
      obtain ⟨va, vc, rfl, p2, _⟩ := how.form
      have hdd : Below wr.heap.size wr wr.drew := ⟨rfl, rfl, rfl, Nat.le_refl _, fun _ _ => rfl⟩
      have cS1 := sameFr_true f.kind f.heard f.epoch f.op f.text ua va uc vc wr.drew (p1.below hdd) (p2.below hdd) hsm
      have hS0 : (fun w' => w'.cell? ⟨b1, o1 + j * 5, none⟩ = some (.int .i64 f.kind) ∧ w'.cell? ⟨b1, o1 + j * 5 + 1, none⟩ = some (.int .i64 f.heard) ∧ w'.cell? ⟨b1, o1 + j * 5 + 2, none⟩ = some (.int .i64 f.epoch) ∧ w'.cell? ⟨b1, o1 + j * 5 + 3, none⟩ = some (.slice ua f.op.length uc) ∧ w'.cell? ⟨b1, o1 + j * 5 + 4, none⟩ = some (.string f.text) ∧ w'.cell? ⟨b2, o2 + j * 5, none⟩ = some (.int .i64 f.kind) ∧ w'.cell? ⟨b2, o2 + j * 5 + 1, none⟩ = some (.int .i64 f.heard) ∧ w'.cell? ⟨b2, o2 + j * 5 + 2, none⟩ = some (.int .i64 f.epoch) ∧ w'.cell? ⟨b2, o2 + j * 5 + 3, none⟩ = some (.slice va f.op.length vc) ∧ w'.cell? ⟨b2, o2 + j * 5 + 4, none⟩ = some (.string f.text)) wr.drew := ⟨x0, x1, x2, x3, x4, y0, y1, y2, y3, y4⟩
      have keep : ∀ {w' : World}, Below wr.drew.heap.size wr.drew w' → (fun w' => w'.cell? ⟨b1, o1 + j * 5, none⟩ = some (.int .i64 f.kind) ∧ w'.cell? ⟨b1, o1 + j * 5 + 1, none⟩ = some (.int .i64 f.heard) ∧ w'.cell? ⟨b1, o1 + j * 5 + 2, none⟩ = some (.int .i64 f.epoch) ∧ w'.cell? ⟨b1, o1 + j * 5 + 3, none⟩ = some (.slice ua f.op.length uc) ∧ w'.cell? ⟨b1, o1 + j * 5 + 4, none⟩ = some (.string f.text) ∧ w'.cell? ⟨b2, o2 + j * 5, none⟩ = some (.int .i64 f.kind) ∧ w'.cell? ⟨b2, o2 + j * 5 + 1, none⟩ = some (.int .i64 f.heard) ∧ w'.cell? ⟨b2, o2 + j * 5 + 2, none⟩ = some (.int .i64 f.epoch) ∧ w'.cell? ⟨b2, o2 + j * 5 + 3, none⟩ = some (.slice va f.op.length vc) ∧ w'.cell? ⟨b2, o2 + j * 5 + 4, none⟩ = some (.string f.text)) w' := fun {w'} hb => ⟨(hb.cell (p := ⟨b1, o1 + j * 5, none⟩) hl1).trans x0, (hb.cell (p := ⟨b1, o1 + j * 5 + 1, none⟩) hl1).trans x1, (hb.cell (p := ⟨b1, o1 + j * 5 + 2, none⟩) hl1).trans x2, (hb.cell (p := ⟨b1, o1 + j * 5 + 3, none⟩) hl1).trans x3, (hb.cell (p := ⟨b1, o1 + j * 5 + 4, none⟩) hl1).trans x4, (hb.cell (p := ⟨b2, o2 + j * 5, none⟩) hl2).trans y0, (hb.cell (p := ⟨b2, o2 + j * 5 + 1, none⟩) hl2).trans y1, (hb.cell (p := ⟨b2, o2 + j * 5 + 2, none⟩) hl2).trans y2, (hb.cell (p := ⟨b2, o2 + j * 5 + 3, none⟩) hl2).trans y3, (hb.cell (p := ⟨b2, o2 + j * 5 + 4, none⟩) hl2).trans y4⟩
      clear x0 x1 x2 x3 x4 y0 y1 y2 y3 y4 hov how p1 p2
      go_wp2_with fail
      go_region_held3 (fun w' => w'.cell? ⟨b1, o1 + j * 5, none⟩ = some (.int .i64 f.kind) ∧ w'.cell? ⟨b1, o1 + j * 5 + 1, none⟩ = some (.int .i64 f.heard) ∧ w'.cell? ⟨b1, o1 + j * 5 + 2, none⟩ = some (.int .i64 f.epoch) ∧ w'.cell? ⟨b1, o1 + j * 5 + 3, none⟩ = some (.slice ua f.op.length uc) ∧ w'.cell? ⟨b1, o1 + j * 5 + 4, none⟩ = some (.string f.text) ∧ w'.cell? ⟨b2, o2 + j * 5, none⟩ = some (.int .i64 f.kind) ∧ w'.cell? ⟨b2, o2 + j * 5 + 1, none⟩ = some (.int .i64 f.heard) ∧ w'.cell? ⟨b2, o2 + j * 5 + 2, none⟩ = some (.int .i64 f.epoch) ∧ w'.cell? ⟨b2, o2 + j * 5 + 3, none⟩ = some (.slice va f.op.length vc) ∧ w'.cell? ⟨b2, o2 + j * 5 + 4, none⟩ = some (.string f.text)) (with_reducible first | exact hS0 | exact keep hb2) (first | (go_at_call 8; with_reducible refine Calls.mono cS1 ?_; rintro e w2 ⟨rfl, hb2⟩))
      have HB2 := below_two HB (below_two hdd hb2 (Nat.le_refl _)) (Nat.le_refl _)
      go_wp2_with fail
      go_roundg (K.length - j - 1)
      case measure => omega
      case rel => exact ⟨j + 1, by omega, by go_num, HB2⟩
    · have hjz : ¬ (j : Int) < (K.length : Int) := by omega
      go_wp2_with fail
      go_ret
      exact ⟨rfl, HB⟩

set_option maxRecDepth 100000 in
set_option maxHeartbeats 4000000 in
theorem samePackets_true {B1 B2 : Nat} (K L : List PkK) (v1 v2 : Value) (w : World) (h1 : InK pkS w B1 v1 K) (h2 : InK pkS w B2 v2 L) (he : K.map (·.1) = L.map (·.1)) (hs : ∀ x ∈ K, x.1.frame.op.length ≤ 1048577) (hn : K.length ≤ 1048577) :
    Calls Tryd.prog 9 #[v1, v2] w fun e w' => e = .returned (.bool true) ∧ Below w.heap.size w w' := by
  have hl : L.length = K.length := by have := congrArg List.length he; simpa using this.symm
  have HE : Hid (K.map (·.1) = L.map (·.1)) := he
  have HL : Hid (L.length = K.length) := hl
  obtain ⟨a1, c1, rfl, _⟩ := h1.row
  obtain ⟨a2, c2, rfl, _⟩ := h2.row
  rw [hl]
  rw [hl] at h2
  clear hl he
  have g0 : ((K.length : Int) != (K.length : Int)) = false := by simp
  go_enter Tryd.func9, Tryd.ntmps9
  go_wp2_with fail
  go_loopg [5] K.length (fun g iv wr => ∃ j : Nat, j + g = K.length ∧ iv = .int .i64 (j : Int) ∧ Below w.heap.size w wr)
  case atStart => exact ⟨0, by omega, rfl, Below.refl _ _⟩
  case round =>
    obtain ⟨j, hj, rfl, HB⟩ := hrel
    by_cases hlt : j < K.length
    · have hjz : (j : Int) < (K.length : Int) := by omega
      have hj0 : (0 : Int) ≤ (j : Int) := by omega
      have hlt2 : j < L.length := by rw [HL.out]; exact hlt
      have k1 := h1.below HB
      have k2 := h2.below HB
      have hov : OpVal wr K[j].2 K[j].1.frame.op := (k1.each K[j] (List.getElem_mem hlt)).op
      have how : OpVal wr L[j].2 L[j].1.frame.op := (k2.each L[j] (List.getElem_mem hlt2)).op
      have hsm := hs K[j] (List.getElem_mem hlt)
      obtain ⟨b1, o1, c1', e1, hl1, _, hc1⟩ := pk_get k1 hlt
      obtain ⟨b2, o2, c2', e2, hl2, _, hc2⟩ := pk_get k2 hlt2
      simp only [Value.slice.injEq] at e1 e2
      obtain ⟨rfl, hq1, rfl⟩ := e1
      obtain ⟨rfl, hq2, rfl⟩ := e2
      clear hq1 hq2
      have x0 : wr.cell? ⟨b1, o1 + j * 9, none⟩ = some (.int .i64 K[j].1.epoch) := hc1 0 _ (by omega) rfl
      have x1 : wr.cell? ⟨b1, o1 + j * 9 + 1, none⟩ = some (.int .i64 K[j].1.number) := hc1 1 _ (by omega) rfl
      have x2 : wr.cell? ⟨b1, o1 + j * 9 + 2, none⟩ = some (.bool K[j].1.bare) := hc1 2 _ (by omega) rfl
      have x3 : wr.cell? ⟨b1, o1 + j * 9 + 3, none⟩ = some (.int .i64 K[j].1.ack) := hc1 3 _ (by omega) rfl
      have x4 : wr.cell? ⟨b1, o1 + j * 9 + 4, none⟩ = some (.int .i64 K[j].1.frame.kind) := hc1 4 _ (by omega) rfl
      have x5 : wr.cell? ⟨b1, o1 + j * 9 + 5, none⟩ = some (.int .i64 K[j].1.frame.heard) := hc1 5 _ (by omega) rfl
      have x6 : wr.cell? ⟨b1, o1 + j * 9 + 6, none⟩ = some (.int .i64 K[j].1.frame.epoch) := hc1 6 _ (by omega) rfl
      have x7 : wr.cell? ⟨b1, o1 + j * 9 + 7, none⟩ = some (K[j].2) := hc1 7 _ (by omega) rfl
      have x8 : wr.cell? ⟨b1, o1 + j * 9 + 8, none⟩ = some (.string K[j].1.frame.text) := hc1 8 _ (by omega) rfl
      have y0 : wr.cell? ⟨b2, o2 + j * 9, none⟩ = some (.int .i64 L[j].1.epoch) := hc2 0 _ (by omega) rfl
      have y1 : wr.cell? ⟨b2, o2 + j * 9 + 1, none⟩ = some (.int .i64 L[j].1.number) := hc2 1 _ (by omega) rfl
      have y2 : wr.cell? ⟨b2, o2 + j * 9 + 2, none⟩ = some (.bool L[j].1.bare) := hc2 2 _ (by omega) rfl
      have y3 : wr.cell? ⟨b2, o2 + j * 9 + 3, none⟩ = some (.int .i64 L[j].1.ack) := hc2 3 _ (by omega) rfl
      have y4 : wr.cell? ⟨b2, o2 + j * 9 + 4, none⟩ = some (.int .i64 L[j].1.frame.kind) := hc2 4 _ (by omega) rfl
      have y5 : wr.cell? ⟨b2, o2 + j * 9 + 5, none⟩ = some (.int .i64 L[j].1.frame.heard) := hc2 5 _ (by omega) rfl
      have y6 : wr.cell? ⟨b2, o2 + j * 9 + 6, none⟩ = some (.int .i64 L[j].1.frame.epoch) := hc2 6 _ (by omega) rfl
      have y7 : wr.cell? ⟨b2, o2 + j * 9 + 7, none⟩ = some (L[j].2) := hc2 7 _ (by omega) rfl
      have y8 : wr.cell? ⟨b2, o2 + j * 9 + 8, none⟩ = some (.string L[j].1.frame.text) := hc2 8 _ (by omega) rfl
      have hKL : K[j].1 = L[j].1 := by
        have h0 : (K.map (·.1))[j]? = (L.map (·.1))[j]? := by rw [HE.out]
        rw [List.getElem?_map, List.getElem?_map, List.getElem?_eq_getElem hlt, List.getElem?_eq_getElem hlt2] at h0
        exact Option.some.inj h0
      rw [← hKL] at how y0 y1 y2 y3 y4 y5 y6 y8
      clear hKL k1 k2 hc1 hc2
      generalize L[j].2 = vv at *
      generalize K[j] = x at *
      obtain ⟨p, u⟩ := x
      simp only at hov how hsm x0 x1 x2 x3 x4 x5 x6 x7 x8 y0 y1 y2 y3 y4 y5 y6 y7 y8
      obtain ⟨ua, uc, rfl, p1, _⟩ := hov.form
      obtain ⟨va, vc, rfl, p2, _⟩ := how.form
      have hdd : Below wr.heap.size wr wr.drew := ⟨rfl, rfl, rfl, Nat.le_refl _, fun _ _ => rfl⟩
      have cS1 := samePk_true p.epoch p.number p.bare p.ack p.frame.kind p.frame.heard p.frame.epoch p.frame.op p.frame.text ua va uc vc wr.drew (p1.below hdd) (p2.below hdd) hsm
      have hS0 : (fun w' => w'.cell? ⟨b1, o1 + j * 9, none⟩ = some (.int .i64 p.epoch) ∧ w'.cell? ⟨b1, o1 + j * 9 + 1, none⟩ = some (.int .i64 p.number) ∧ w'.cell? ⟨b1, o1 + j * 9 + 2, none⟩ = some (.bool p.bare) ∧ w'.cell? ⟨b1, o1 + j * 9 + 3, none⟩ = some (.int .i64 p.ack) ∧ w'.cell? ⟨b1, o1 + j * 9 + 4, none⟩ = some (.int .i64 p.frame.kind) ∧ w'.cell? ⟨b1, o1 + j * 9 + 5, none⟩ = some (.int .i64 p.frame.heard) ∧ w'.cell? ⟨b1, o1 + j * 9 + 6, none⟩ = some (.int .i64 p.frame.epoch) ∧ w'.cell? ⟨b1, o1 + j * 9 + 7, none⟩ = some (.slice ua p.frame.op.length uc) ∧ w'.cell? ⟨b1, o1 + j * 9 + 8, none⟩ = some (.string p.frame.text) ∧ w'.cell? ⟨b2, o2 + j * 9, none⟩ = some (.int .i64 p.epoch) ∧ w'.cell? ⟨b2, o2 + j * 9 + 1, none⟩ = some (.int .i64 p.number) ∧ w'.cell? ⟨b2, o2 + j * 9 + 2, none⟩ = some (.bool p.bare) ∧ w'.cell? ⟨b2, o2 + j * 9 + 3, none⟩ = some (.int .i64 p.ack) ∧ w'.cell? ⟨b2, o2 + j * 9 + 4, none⟩ = some (.int .i64 p.frame.kind) ∧ w'.cell? ⟨b2, o2 + j * 9 + 5, none⟩ = some (.int .i64 p.frame.heard) ∧ w'.cell? ⟨b2, o2 + j * 9 + 6, none⟩ = some (.int .i64 p.frame.epoch) ∧ w'.cell? ⟨b2, o2 + j * 9 + 7, none⟩ = some (.slice va p.frame.op.length vc) ∧ w'.cell? ⟨b2, o2 + j * 9 + 8, none⟩ = some (.string p.frame.text)) wr.drew := ⟨x0, x1, x2, x3, x4, x5, x6, x7, x8, y0, y1, y2, y3, y4, y5, y6, y7, y8⟩
      have keep : ∀ {w' : World}, Below wr.drew.heap.size wr.drew w' → (fun w' => w'.cell? ⟨b1, o1 + j * 9, none⟩ = some (.int .i64 p.epoch) ∧ w'.cell? ⟨b1, o1 + j * 9 + 1, none⟩ = some (.int .i64 p.number) ∧ w'.cell? ⟨b1, o1 + j * 9 + 2, none⟩ = some (.bool p.bare) ∧ w'.cell? ⟨b1, o1 + j * 9 + 3, none⟩ = some (.int .i64 p.ack) ∧ w'.cell? ⟨b1, o1 + j * 9 + 4, none⟩ = some (.int .i64 p.frame.kind) ∧ w'.cell? ⟨b1, o1 + j * 9 + 5, none⟩ = some (.int .i64 p.frame.heard) ∧ w'.cell? ⟨b1, o1 + j * 9 + 6, none⟩ = some (.int .i64 p.frame.epoch) ∧ w'.cell? ⟨b1, o1 + j * 9 + 7, none⟩ = some (.slice ua p.frame.op.length uc) ∧ w'.cell? ⟨b1, o1 + j * 9 + 8, none⟩ = some (.string p.frame.text) ∧ w'.cell? ⟨b2, o2 + j * 9, none⟩ = some (.int .i64 p.epoch) ∧ w'.cell? ⟨b2, o2 + j * 9 + 1, none⟩ = some (.int .i64 p.number) ∧ w'.cell? ⟨b2, o2 + j * 9 + 2, none⟩ = some (.bool p.bare) ∧ w'.cell? ⟨b2, o2 + j * 9 + 3, none⟩ = some (.int .i64 p.ack) ∧ w'.cell? ⟨b2, o2 + j * 9 + 4, none⟩ = some (.int .i64 p.frame.kind) ∧ w'.cell? ⟨b2, o2 + j * 9 + 5, none⟩ = some (.int .i64 p.frame.heard) ∧ w'.cell? ⟨b2, o2 + j * 9 + 6, none⟩ = some (.int .i64 p.frame.epoch) ∧ w'.cell? ⟨b2, o2 + j * 9 + 7, none⟩ = some (.slice va p.frame.op.length vc) ∧ w'.cell? ⟨b2, o2 + j * 9 + 8, none⟩ = some (.string p.frame.text)) w' := fun {w'} hb => ⟨(hb.cell (p := ⟨b1, o1 + j * 9, none⟩) hl1).trans x0, (hb.cell (p := ⟨b1, o1 + j * 9 + 1, none⟩) hl1).trans x1, (hb.cell (p := ⟨b1, o1 + j * 9 + 2, none⟩) hl1).trans x2, (hb.cell (p := ⟨b1, o1 + j * 9 + 3, none⟩) hl1).trans x3, (hb.cell (p := ⟨b1, o1 + j * 9 + 4, none⟩) hl1).trans x4, (hb.cell (p := ⟨b1, o1 + j * 9 + 5, none⟩) hl1).trans x5, (hb.cell (p := ⟨b1, o1 + j * 9 + 6, none⟩) hl1).trans x6, (hb.cell (p := ⟨b1, o1 + j * 9 + 7, none⟩) hl1).trans x7, (hb.cell (p := ⟨b1, o1 + j * 9 + 8, none⟩) hl1).trans x8, (hb.cell (p := ⟨b2, o2 + j * 9, none⟩) hl2).trans y0, (hb.cell (p := ⟨b2, o2 + j * 9 + 1, none⟩) hl2).trans y1, (hb.cell (p := ⟨b2, o2 + j * 9 + 2, none⟩) hl2).trans y2, (hb.cell (p := ⟨b2, o2 + j * 9 + 3, none⟩) hl2).trans y3, (hb.cell (p := ⟨b2, o2 + j * 9 + 4, none⟩) hl2).trans y4, (hb.cell (p := ⟨b2, o2 + j * 9 + 5, none⟩) hl2).trans y5, (hb.cell (p := ⟨b2, o2 + j * 9 + 6, none⟩) hl2).trans y6, (hb.cell (p := ⟨b2, o2 + j * 9 + 7, none⟩) hl2).trans y7, (hb.cell (p := ⟨b2, o2 + j * 9 + 8, none⟩) hl2).trans y8⟩
      clear x0 x1 x2 x3 x4 x5 x6 x7 x8 y0 y1 y2 y3 y4 y5 y6 y7 y8 hov how p1 p2
      go_wp2_with fail
      go_region_held3 (fun w' => w'.cell? ⟨b1, o1 + j * 9, none⟩ = some (.int .i64 p.epoch) ∧ w'.cell? ⟨b1, o1 + j * 9 + 1, none⟩ = some (.int .i64 p.number) ∧ w'.cell? ⟨b1, o1 + j * 9 + 2, none⟩ = some (.bool p.bare) ∧ w'.cell? ⟨b1, o1 + j * 9 + 3, none⟩ = some (.int .i64 p.ack) ∧ w'.cell? ⟨b1, o1 + j * 9 + 4, none⟩ = some (.int .i64 p.frame.kind) ∧ w'.cell? ⟨b1, o1 + j * 9 + 5, none⟩ = some (.int .i64 p.frame.heard) ∧ w'.cell? ⟨b1, o1 + j * 9 + 6, none⟩ = some (.int .i64 p.frame.epoch) ∧ w'.cell? ⟨b1, o1 + j * 9 + 7, none⟩ = some (.slice ua p.frame.op.length uc) ∧ w'.cell? ⟨b1, o1 + j * 9 + 8, none⟩ = some (.string p.frame.text) ∧ w'.cell? ⟨b2, o2 + j * 9, none⟩ = some (.int .i64 p.epoch) ∧ w'.cell? ⟨b2, o2 + j * 9 + 1, none⟩ = some (.int .i64 p.number) ∧ w'.cell? ⟨b2, o2 + j * 9 + 2, none⟩ = some (.bool p.bare) ∧ w'.cell? ⟨b2, o2 + j * 9 + 3, none⟩ = some (.int .i64 p.ack) ∧ w'.cell? ⟨b2, o2 + j * 9 + 4, none⟩ = some (.int .i64 p.frame.kind) ∧ w'.cell? ⟨b2, o2 + j * 9 + 5, none⟩ = some (.int .i64 p.frame.heard) ∧ w'.cell? ⟨b2, o2 + j * 9 + 6, none⟩ = some (.int .i64 p.frame.epoch) ∧ w'.cell? ⟨b2, o2 + j * 9 + 7, none⟩ = some (.slice va p.frame.op.length vc) ∧ w'.cell? ⟨b2, o2 + j * 9 + 8, none⟩ = some (.string p.frame.text)) (with_reducible first | exact hS0 | exact keep hb2) (first | (go_at_call 23; with_reducible refine Calls.mono cS1 ?_; rintro e w2 ⟨rfl, hb2⟩))
      have HB2 := below_two HB (below_two hdd hb2 (Nat.le_refl _)) (Nat.le_refl _)
      go_wp2_with fail
      go_roundg (K.length - j - 1)
      case measure => omega
      case rel => exact ⟨j + 1, by omega, by go_num, HB2⟩
    · have hjz : ¬ (j : Int) < (K.length : Int) := by omega
      go_wp2_with fail
      go_ret
      exact ⟨rfl, HB⟩

set_option maxRecDepth 100000 in
set_option maxHeartbeats 1000000 in
theorem sameLink_true {B1 B2 B3 B4 : Nat} (ep nx hd : Int) (S Q T R : List FrK) (sv qv tv rv : Value) (w : World) (h1 : InK frS w B1 sv S) (h2 : InK frS w B2 qv Q) (h3 : InK frS w B3 tv T) (h4 : InK frS w B4 rv R) (e1 : S.map (·.1) = T.map (·.1)) (e2 : Q.map (·.1) = R.map (·.1)) (fS : ∀ x ∈ S, x.1.op.length ≤ 1048577) (fQ : ∀ x ∈ Q, x.1.op.length ≤ 1048577) (lS : S.length ≤ 1048577) (lQ : Q.length ≤ 1048577) :
    Calls Tryd.prog 7 #[.agg #[.int .i64 ep, .int .i64 nx, sv, qv, .int .i64 hd], .agg #[.int .i64 ep, .int .i64 nx, tv, rv, .int .i64 hd]] w fun e w' => e = .returned (.bool true) ∧ Below w.heap.size w w' := by
  have c1 := fun wx (hb : Below w.heap.size w wx) => sameFrames_true S T sv tv wx (h1.below hb) (h3.below hb) e1 fS lS
  have c2 := fun wx (hb : Below w.heap.size w wx) => sameFrames_true Q R qv rv wx (h2.below hb) (h4.below hb) e2 fQ lQ
  obtain ⟨sa, sc, rfl, -⟩ := h1.row
  obtain ⟨qa, qc, rfl, -⟩ := h2.row
  obtain ⟨ta, tc, rfl, -⟩ := h3.row
  obtain ⟨ra, rc, rfl, -⟩ := h4.row
  have hb1 := (Below.refl w.heap.size w).alloc (Nat.le_refl _) (.cells #[.int .i64 ep, .int .i64 nx, .slice sa S.length sc, .slice qa Q.length qc, .int .i64 hd] 24)
  have hp := row_old (heap_alloc_new w (.cells #[.int .i64 ep, .int .i64 nx, .slice sa S.length sc, .slice qa Q.length qc, .int .i64 hd] 24)) (.cells #[.int .i64 ep, .int .i64 nx, .slice ta T.length tc, .slice ra R.length rc, .int .i64 hd] 24)
  have hq := heap_alloc_new (w.alloc (.cells #[.int .i64 ep, .int .i64 nx, .slice sa S.length sc, .slice qa Q.length qc, .int .i64 hd] 24)) (.cells #[.int .i64 ep, .int .i64 nx, .slice ta T.length tc, .slice ra R.length rc, .int .i64 hd] 24)
  rw [show (w.alloc (.cells #[.int .i64 ep, .int .i64 nx, .slice sa S.length sc, .slice qa Q.length qc, .int .i64 hd] 24)).heap.size = w.heap.size + 1 by simp] at hq
  have HB := hb1.alloc hb1.size (.cells #[.int .i64 ep, .int .i64 nx, .slice ta T.length tc, .slice ra R.length rc, .int .i64 hd] 24)
  clear h1 h2 h3 h4 e1 e2 fS fQ lS lQ
  obtain ⟨p0, pl0, _⟩ := blk hp
  obtain ⟨q0, ql0, _⟩ := blk hq
  have c1' := c1 _ HB
  clear hb1
  go_enter Tryd.func7, Tryd.ntmps7
  go_wp2_with fail
  refine c1'.mono ?_
  rintro r w1 ⟨rfl, hb1⟩
  have HB1 := below_two HB hb1 (Nat.le_refl _)
  have c2' := c2 _ HB1
  replace hp := (hb1.block _ pl0).trans hp
  replace hq := (hb1.block _ ql0).trans hq
  clear c1' c1 c2 p0 pl0 q0 ql0
  obtain ⟨p0, pl0, _⟩ := blk hp
  obtain ⟨q0, ql0, _⟩ := blk hq
  go_wp2_with fail
  refine c2'.mono ?_
  rintro r w2 ⟨rfl, hb2⟩
  go_wp2_with fail
  go_ret
  exact ⟨by simp, below_two HB1 hb2 (Nat.le_refl _)⟩

end Go.Proofs.YtnpjcdfkjgenbaaDoor
