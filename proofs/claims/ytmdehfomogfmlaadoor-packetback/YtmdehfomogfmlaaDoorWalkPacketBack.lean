/-
  Walk: wherrykeep.PacketBack.
-/
import Derived.Test.YtmdehfomogfmlaaDoorKPacket
namespace Go.Proofs.YtmdehfomogfmlaaDoor
open Go.RowKit Go.Lib

theorem packetW_bytes (p : PacketV) : ∀ x ∈ packetW p, x < 256 := by
  have hp : ∀ q : Part, ∀ x ∈ partW q, x < 256 := by
    intro p x hx
    unfold partW at hx
    rcases List.mem_append.1 hx with h | h
    · exact sev_bytes _ x h
    · split at h
      · rcases List.mem_append.1 h with h | h
        · exact sev_bytes _ x h
        · exact sbytes_small _ x h
      · exact sev_bytes _ x h
  have ho : ∀ ps : List Part, ∀ x ∈ opW ps, x < 256 := by
    intro ps x h
    unfold opW at h
    rcases List.mem_append.1 h with h | h
    · exact sev_bytes _ x h
    · obtain ⟨p, _, hq⟩ := List.mem_flatMap.1 h
      exact hp p x hq
  have hf : ∀ f : FrameV, ∀ x ∈ frameW f, x < 256 := by
    intro f x h
    unfold frameW at h
    rcases List.mem_append.1 h with h | h
    · exact sev_bytes _ x h
    · split at h
      · rcases List.mem_append.1 h with h | h
        · exact sev_bytes _ x h
        · exact ho _ x h
      · split at h
        · rcases List.mem_append.1 h with h | h
          · exact sev_bytes _ x h
          · exact sev_bytes _ x h
        · split at h
          · rcases List.mem_append.1 h with h | h
            · exact sev_bytes _ x h
            · rcases List.mem_append.1 h with h | h
              · exact sev_bytes _ x h
              · exact sbytes_small _ x h
          · simp at h
  intro x h
  unfold packetW at h
  rcases List.mem_append.1 h with h | h
  · exact sev_bytes _ x h
  rcases List.mem_append.1 h with h | h
  · exact sev_bytes _ x h
  rcases List.mem_append.1 h with h | h
  · exact sev_bytes _ x h
  split at h
  · simp at h
  · exact hf _ x h
theorem packetW_pos (p : PacketV) : 1 ≤ (packetW p).length := by
  unfold packetW
  rw [List.length_append]
  have := sev_pos p.epoch
  omega

set_option maxRecDepth 100000 in
set_option maxHeartbeats 1000000 in
theorem ksameFrame_true (k h e : Int) (ps : List Part) (tx : ByteArray) (a b : Option Addr) (c d : Nat) (w : World) (ha : OpAt w a ps) (hb : OpAt w b ps) (hn : ps.length ≤ 10000) :
    Calls Tryd.prog 95 #[.agg #[.int .i64 k, .int .i64 h, .int .i64 e, .slice a ps.length c, .string tx], .agg #[.int .i64 k, .int .i64 h, .int .i64 e, .slice b ps.length d, .string tx]] w fun e w' => e = .returned (.bool true) ∧ Below w.heap.size w w' := by
  have hb1 := (Below.refl w.heap.size w).alloc (Nat.le_refl _) (.cells #[.int .i64 k, .int .i64 h, .int .i64 e, .slice a ps.length c, .string tx] 74)
  have hp := row_old (heap_alloc_new w (.cells #[.int .i64 k, .int .i64 h, .int .i64 e, .slice a ps.length c, .string tx] 74)) (.cells #[.int .i64 k, .int .i64 h, .int .i64 e, .slice b ps.length d, .string tx] 74)
  have hq := heap_alloc_new (w.alloc (.cells #[.int .i64 k, .int .i64 h, .int .i64 e, .slice a ps.length c, .string tx] 74)) (.cells #[.int .i64 k, .int .i64 h, .int .i64 e, .slice b ps.length d, .string tx] 74)
  rw [show (w.alloc (.cells #[.int .i64 k, .int .i64 h, .int .i64 e, .slice a ps.length c, .string tx] 74)).heap.size = w.heap.size + 1 by simp] at hq
  have HB := hb1.alloc hb1.size (.cells #[.int .i64 k, .int .i64 h, .int .i64 e, .slice b ps.length d, .string tx] 74)
  obtain ⟨p0, _, _⟩ := blk hp
  obtain ⟨q0, _, _⟩ := blk hq
  have cS := ksameOp_true ps a b c d _ (ha.below HB) (hb.below HB) (by omega)
  clear hb1 hp hq
  go_enter Tryd.func95, Tryd.ntmps95
  go_wp2_with fail
  refine cS.mono ?_
  rintro r w1 ⟨rfl, hb1⟩
  go_wp2_with fail
  go_ret
  exact ⟨by simp, below_two HB hb1 (Nat.le_refl _)⟩

set_option maxRecDepth 100000 in
set_option maxHeartbeats 1000000 in
theorem ksamePacket_true (ep num : Int) (bare : Bool) (ack k h e : Int) (ps : List Part) (tx : ByteArray) (a b : Option Addr) (c d : Nat) (w : World) (ha : OpAt w a ps) (hb : OpAt w b ps) (hn : ps.length ≤ 10000) :
    Calls Tryd.prog 50 #[.agg #[.int .i64 ep, .int .i64 num, .bool bare, .int .i64 ack, .int .i64 k, .int .i64 h, .int .i64 e, .slice a ps.length c, .string tx], .agg #[.int .i64 ep, .int .i64 num, .bool bare, .int .i64 ack, .int .i64 k, .int .i64 h, .int .i64 e, .slice b ps.length d, .string tx]] w fun e w' => e = .returned (.bool true) ∧ Below w.heap.size w w' := by
  have hb1 := (Below.refl w.heap.size w).alloc (Nat.le_refl _) (.cells #[.int .i64 ep, .int .i64 num, .bool bare, .int .i64 ack, .int .i64 k, .int .i64 h, .int .i64 e, .slice a ps.length c, .string tx] 79)
  have hp := row_old (heap_alloc_new w (.cells #[.int .i64 ep, .int .i64 num, .bool bare, .int .i64 ack, .int .i64 k, .int .i64 h, .int .i64 e, .slice a ps.length c, .string tx] 79)) (.cells #[.int .i64 ep, .int .i64 num, .bool bare, .int .i64 ack, .int .i64 k, .int .i64 h, .int .i64 e, .slice b ps.length d, .string tx] 79)
  have hq := heap_alloc_new (w.alloc (.cells #[.int .i64 ep, .int .i64 num, .bool bare, .int .i64 ack, .int .i64 k, .int .i64 h, .int .i64 e, .slice a ps.length c, .string tx] 79)) (.cells #[.int .i64 ep, .int .i64 num, .bool bare, .int .i64 ack, .int .i64 k, .int .i64 h, .int .i64 e, .slice b ps.length d, .string tx] 79)
  rw [show (w.alloc (.cells #[.int .i64 ep, .int .i64 num, .bool bare, .int .i64 ack, .int .i64 k, .int .i64 h, .int .i64 e, .slice a ps.length c, .string tx] 79)).heap.size = w.heap.size + 1 by simp] at hq
  have HB := hb1.alloc hb1.size (.cells #[.int .i64 ep, .int .i64 num, .bool bare, .int .i64 ack, .int .i64 k, .int .i64 h, .int .i64 e, .slice b ps.length d, .string tx] 79)
  obtain ⟨p0, _, _⟩ := blk hp
  obtain ⟨q0, _, _⟩ := blk hq
  have cS := ksameFrame_true k h e ps tx a b c d _ (ha.below HB) (hb.below HB) (by omega)
  clear hb1 hp hq
  go_enter Tryd.func50, Tryd.ntmps50
  go_wp2_with fail
  refine cS.mono ?_
  rintro r w1 ⟨rfl, hb1⟩
  go_wp2_with fail
  go_ret
  exact ⟨by simp, below_two HB hb1 (Nat.le_refl _)⟩

set_option maxRecDepth 100000 in
set_option maxHeartbeats 4000000 in
theorem packetBack_walk (r : RawV) (rs : List RawV) (a : Option Addr) (cap : Nat) (tl : Int) (at' : Int) (w : World) (hk : RawOk r) (hr : RawsAt w a rs) (hok : ∀ r ∈ rs, RawOk r) (hlen : rs.length ≤ 9223372036854775807) (htl : 0 ≤ tl ∧ tl ≤ 255) (hat : I64 at') (hT : Tabs w) :
    Calls Tryd.prog 14 #[.agg #[.int .i64 r.kind, .int .i64 r.a, .int .i64 r.b, .int .i64 r.c, .string r.text], .slice a rs.length cap, .int .u8 tl, .int .i64 at'] w fun e w' => e = .returned (.bool true) ∧ Below w.heap.size w w' := by
  obtain ⟨t, rfl⟩ : ∃ t : Nat, tl = (t : Int) := ⟨tl.toNat, by omega⟩
  have HB : Below w.heap.size w (w.alloc (.cells #[.int .i64 r.kind, .int .i64 r.a, .int .i64 r.b, .int .i64 r.c, .string r.text] 52)) := (Below.refl w.heap.size w).alloc (Nat.le_refl _) (.cells #[.int .i64 r.kind, .int .i64 r.a, .int .i64 r.b, .int .i64 r.c, .string r.text] 52)
  have hraw := heap_alloc_new w (.cells #[.int .i64 r.kind, .int .i64 r.a, .int .i64 r.b, .int .i64 r.c, .string r.text] 52)
  have cR := kpacket_any r rs a cap (w.alloc (.cells #[.int .i64 r.kind, .int .i64 r.a, .int .i64 r.b, .int .i64 r.c, .string r.text] 52)) hk (hr.below HB (Nat.le_refl _)) hok hlen
  obtain ⟨k0, _, _⟩ := blk hraw
  clear hraw hk hr hok
  go_enter Tryd.func14, Tryd.ntmps14
  go_wp2_with fail
  refine cR.mono ?_
  generalize (w.alloc (.cells #[.int .i64 r.kind, .int .i64 r.a, .int .i64 r.b, .int .i64 r.c, .string r.text] 52)) = w0 at *
  rintro e w1 ⟨p, v, rfl, hown, hpk, hol, hb1⟩
  obtain ⟨va, vc, rfl⟩ := own_form hown
  replace HB := below_two HB hb1 (Nat.le_refl _)
  have h1 := pkFault_back hpk
  have h2 := pkFault_more hpk 120 t
  have h2' := fun {k : Nat} (hk : k < (packetW p).length) => pkFault_torn hpk hk
  have h3 := packetW_bytes p
  have h4 := hpk.many
  have h5 := packetW_pos p
  have cE := fun (wx : World) (hop : OpAt wx va p.frame.op) (hB : Below w.heap.size w wx) => encodePacket_ok p va vc wx hop hpk.parts (by omega) hpk.text (hT.below hB) hpk.err
  have hpt := hpk.parts
  have hptx := hpk.text
  have hperr : packetErr p.epoch p.number p.bare p.ack p.frame.kind p.frame.heard p.frame.epoch p.frame.op p.frame.text = 0 := hpk.err
  generalize packetW p = L at *
  clear cR hb1 k0 hpk
  unfold pkVal at cE ⊢
  obtain ⟨ep, num, bare, ack, ⟨fk, fh, fe, ps, tx⟩⟩ := p
  simp only at hown hol cE hpt hptx hperr ⊢
  have hbx := (Below.refl w1.heap.size w1).alloc (Nat.le_refl _) (.cells #[.int .i64 (ep : Int), .int .i64 (num : Int), .bool bare, .int .i64 (ack : Int), .int .i64 (fk : Int), .int .i64 (fh : Int), .int .i64 (fe : Int), .slice va ps.length vc, .string tx] 79)
  have hx := heap_alloc_new w1 (.cells #[.int .i64 (ep : Int), .int .i64 (num : Int), .bool bare, .int .i64 (ack : Int), .int .i64 (fk : Int), .int .i64 (fh : Int), .int .i64 (fe : Int), .slice va ps.length vc, .string tx] 79)
  replace HB := below_two HB hbx (Nat.le_refl _)
  replace hown := own_below hown hbx
  clear hbx
  obtain ⟨_, _, e3, hop⟩ := own_opAt hown
  simp only [Value.slice.injEq, true_and] at e3
  obtain ⟨rfl, rfl⟩ := e3
  have cE1 := cE _ hop HB
  obtain ⟨x0, xl, _⟩ := blk hx
  clear cE hown
  go_wp2_with fail
  refine cE1.mono ?_
  generalize (w1.alloc (.cells #[.int .i64 (ep : Int), .int .i64 (num : Int), .bool bare, .int .i64 (ack : Int), .int .i64 (fk : Int), .int .i64 (fh : Int), .int .i64 (fe : Int), .slice va ps.length vc, .string tx] 79)) = w2 at *
  rintro e w3 ⟨v3, rfl, hown3, hb3⟩
  replace HB := below_two HB hb3 (Nat.le_refl _)
  replace hop := hop.below hb3
  replace hx := (hb3.block _ xl).trans hx
  clear cE1 hb3 x0 xl
  obtain ⟨ca, cc, rfl, hsrc3, hby3, hcc⟩ := srcB_own hown3
  have cD := decodePacket_any L ca cc w3 hby3 h3 hcc (hT.below HB)
  rw [h1.1, h1.2] at cD
  unfold pkVal at cD
  simp only at cD
  go_wp2_with fail
  refine cD.mono ?_
  rintro e w4 ⟨v4, rfl, hown4, hb4⟩
  obtain ⟨ya, yc, rfl⟩ := own_form hown4
  replace HB := below_two HB hb4 (Nat.le_refl _)
  replace hop := hop.below hb4
  replace hx := (hb4.block _ (Array.getElem?_eq_some_iff.1 hx).1).trans hx
  replace hsrc3 := hsrc3.below hb4
  replace hby3 := hby3.below hb4
  clear cD hb4 hown3
  have hbx := (Below.refl w4.heap.size w4).alloc (Nat.le_refl _) (.cells #[.int .i64 (ep : Int), .int .i64 (num : Int), .bool bare, .int .i64 (ack : Int), .int .i64 (fk : Int), .int .i64 (fh : Int), .int .i64 (fe : Int), .slice ya ps.length yc, .string tx] 79)
  have hy := heap_alloc_new w4 (.cells #[.int .i64 (ep : Int), .int .i64 (num : Int), .bool bare, .int .i64 (ack : Int), .int .i64 (fk : Int), .int .i64 (fh : Int), .int .i64 (fe : Int), .slice ya ps.length yc, .string tx] 79)
  replace HB := below_two HB hbx (Nat.le_refl _)
  replace hop := hop.below hbx
  replace hown4 := own_below hown4 hbx
  replace hsrc3 := hsrc3.below hbx
  replace hby3 := hby3.below hbx
  replace hx := row_old hx (.cells #[.int .i64 (ep : Int), .int .i64 (num : Int), .bool bare, .int .i64 (ack : Int), .int .i64 (fk : Int), .int .i64 (fh : Int), .int .i64 (fe : Int), .slice ya ps.length yc, .string tx] 79)
  obtain ⟨_, _, e3, hoq⟩ := own_opAt hown4
  simp only [Value.slice.injEq, true_and] at e3
  obtain ⟨rfl, rfl⟩ := e3
  clear hbx hown4
  have tok : True := trivial
  have tok2 : True := trivial
  have hzY : w4.heap.size < (w4.alloc (.cells #[.int .i64 (ep : Int), .int .i64 (num : Int), .bool bare, .int .i64 (ack : Int), .int .i64 (fk : Int), .int .i64 (fh : Int), .int .i64 (fe : Int), .slice ya ps.length yc, .string tx] 79)).heap.size := by simp
  go_wp2_with (first | (at_builtin; clear tok; refine wpList_append_bytes rfl _ _ rfl (w4.alloc (.cells #[.int .i64 (ep : Int), .int .i64 (num : Int), .bool bare, .int .i64 (ack : Int), .int .i64 (fk : Int), .int .i64 (fh : Int), .int .i64 (fe : Int), .slice ya ps.length yc, .string tx] 79)).heap.size (Nat.le_refl _) (.slice none 0 0) 0 [] rfl (World.ownsRow_nil _ _ _ _) ca cc L rfl hsrc3 (by omega) ?_; intro v5 w5 hown5 hgr5 hmv5; rw [Nat.zero_add, List.nil_append] at hown5; obtain ⟨a5, c5, e5, hsrc5, _, hc5⟩ := srcB_own hown5; subst e5; have hN : SrcB (w5.alloc (.cells #[.int .u8 120, .int .u8 (t : Int)] 5)) (some ⟨w5.heap.size, 0, none⟩) 2 [120, t] := .inr ⟨_, rfl, World.news_of_block (cs := #[.int .u8 120, .int .u8 (t : Int)]) (t := 5) (fr := (0, 0)) (heap_alloc_new w5 (.cells #[.int .u8 120, .int .u8 (t : Int)] 5))⟩) | (at_builtin; clear tok2; refine wpList_append_bytes rfl _ _ rfl (w4.alloc (.cells #[.int .i64 (ep : Int), .int .i64 (num : Int), .bool bare, .int .i64 (ack : Int), .int .i64 (fk : Int), .int .i64 (fh : Int), .int .i64 (fe : Int), .slice ya ps.length yc, .string tx] 79)).heap.size (Nat.le_trans hgr5.size (by simp)) (.slice a5 L.length c5) L.length (octs L) rfl (hown5.alloc _) (some ⟨w5.heap.size, 0, none⟩) 2 [120, t] rfl hN (by simp; omega) ?_; intro v6 w6 hown6 hgr6 hmv6))
  rw [← octs_append, show L.length + [120, t].length = (L ++ [120, t]).length by simp] at hown6
  obtain ⟨a6, c6, rfl, _, hby6, hc6⟩ := srcB_own hown6
  have hb6 : Below (w4.alloc (.cells #[.int .i64 (ep : Int), .int .i64 (num : Int), .bool bare, .int .i64 (ack : Int), .int .i64 (fk : Int), .int .i64 (fh : Int), .int .i64 (fe : Int), .slice ya ps.length yc, .string tx] 79)).heap.size (w4.alloc (.cells #[.int .i64 (ep : Int), .int .i64 (num : Int), .bool bare, .int .i64 (ack : Int), .int .i64 (fk : Int), .int .i64 (fh : Int), .int .i64 (fe : Int), .slice ya ps.length yc, .string tx] 79)) w6 := (((Below.refl _ (w4.alloc (.cells #[.int .i64 (ep : Int), .int .i64 (num : Int), .bool bare, .int .i64 (ack : Int), .int .i64 (fk : Int), .int .i64 (fh : Int), .int .i64 (fe : Int), .slice ya ps.length yc, .string tx] 79))).grown hgr5 (Nat.le_refl _) (fun k e => by cases e)).alloc hgr5.size (.cells #[.int .u8 120, .int .u8 (t : Int)] 5)).grown hgr6 (Nat.le_trans hgr5.size (by simp)) (fun k e => (hown5.lt k e).1)
  clear hown5 hgr5 hgr6 hmv5 hmv6 hsrc5 hc5 hN hown6
  have HB6 := below_two HB hb6 (Nat.le_refl _)
  have cD := decodePacket_any (L ++ [120, t]) a6 c6 w6 hby6 (fun x hx => by
    rcases List.mem_append.1 hx with hx | hx
    · exact h3 x hx
    · simp at hx; omega) hc6 (hT.below HB6)
  rw [h2.1, h2.2] at cD
  unfold pkVal packet0 frame0 at cD
  simp only at cD
  refine cD.mono ?_
  rintro e w7 ⟨v7, rfl, hown7, hb7⟩
  obtain ⟨za, zc, rfl⟩ := own_form hown7
  replace HB6 := below_two HB6 hb7 (Nat.le_refl _)
  replace hb6 := below_two hb6 hb7 (Nat.le_refl _)
  clear cD hb7 hown7 hby6 hc6
  have hbz := (Below.refl w7.heap.size w7).alloc (Nat.le_refl _) (.cells #[.int .i64 0, .int .i64 0, .bool false, .int .i64 0, .int .i64 0, .int .i64 0, .int .i64 0, .slice za 0 zc, .string ByteArray.empty] 79)
  replace HB6 := below_two HB6 hbz (Nat.le_refl _)
  replace hb6 := below_two hb6 hbz (Nat.le_refl _)
  replace hx := (hb6.block _ (Array.getElem?_eq_some_iff.1 hx).1).trans hx
  replace hy := (hb6.block _ hzY).trans hy
  replace hop := hop.below hb6
  replace hoq := hoq.below hb6
  replace hby3 := hby3.below hb6
  clear hbz hb6 HB hzY hsrc3
  have cP := picked_same at' (max (L.length : Int) 1) (w7.alloc (.cells #[.int .i64 0, .int .i64 0, .bool false, .int .i64 0, .int .i64 0, .int .i64 0, .int .i64 0, .slice za 0 zc, .string ByteArray.empty] 79)) hat (by omega) (by omega)
  have hpl := pick_lt at' (max (L.length : Int) 1) (by omega)
  generalize pick at' (max (L.length : Int) 1) = k at *
  have hkl : k < L.length := by omega
  go_wp2_with fail
  refine cP.mono ?_
  generalize (w7.alloc (.cells #[.int .i64 0, .int .i64 0, .bool false, .int .i64 0, .int .i64 0, .int .i64 0, .int .i64 0, .slice za 0 zc, .string ByteArray.empty] 79)) = w8 at *
  rintro e w9 ⟨rfl, rfl⟩
  obtain ⟨g, off, rfl⟩ : ∃ g off, ca = some ⟨g, off, none⟩ := by
    rcases hby3 with h | ⟨g, off, h, _⟩
    · rw [h] at h5; simp at h5
    · exact ⟨g, off, h⟩
  have hbt : Bytes w9 (some ⟨g, off, none⟩) (L.take k) := by
    rcases hby3 with h | ⟨g', off', h, h6, h7⟩
    · rw [h] at h5; simp at h5
    · simp only [Option.some.injEq, Addr.mk.injEq, and_true] at h
      obtain ⟨rfl, rfl⟩ := h
      refine .inr ⟨_, _, rfl, h6, fun i hi => ?_⟩
      rw [List.length_take] at hi
      rw [List.getElem_take]
      exact h7 i (by omega)
  have hlt : (L.take k).length = k := by rw [List.length_take]; omega
  have cD := decodePacket_any (L.take k) _ cc w9 hbt (fun x hx => h3 x (List.mem_of_mem_take hx)) (by omega) (hT.below HB6)
  rw [(h2' hkl).1, (h2' hkl).2, hlt] at cD
  unfold pkVal packet0 frame0 at cD
  simp only at cD
  have hkc : (k : Int) ≤ (cc : Int) := by omega
  have hk0 : (0 : Int) ≤ (k : Int) := by omega
  clear hlt cP hbt hpl h1 h2 h2' hby3
  go_wp2_with fail
  refine cD.mono ?_
  rintro e w10 ⟨v10, rfl, hown10, hb10⟩
  obtain ⟨ta, tc, rfl⟩ := own_form hown10
  have HB10 := below_two HB6 hb10 (Nat.le_refl _)
  have hbz := (Below.refl w10.heap.size w10).alloc (Nat.le_refl _) (.cells #[.int .i64 0, .int .i64 0, .bool false, .int .i64 0, .int .i64 0, .int .i64 0, .int .i64 0, .slice ta 0 tc, .string ByteArray.empty] 79)
  have HB11 := below_two HB10 hbz (Nat.le_refl _)
  replace hb10 := below_two hb10 hbz (Nat.le_refl _)
  replace hx := (hb10.block _ (Array.getElem?_eq_some_iff.1 hx).1).trans hx
  replace hy := (hb10.block _ (Array.getElem?_eq_some_iff.1 hy).1).trans hy
  replace hop := hop.below hb10
  replace hoq := hoq.below hb10
  obtain ⟨x0, xl, _⟩ := blk hx
  obtain ⟨y0, yl, _⟩ := blk hy
  have cS := ksamePacket_true ep num bare ack fk fh fe ps tx va ya vc yc _ hop hoq (by omega)
  clear cD hown10 hb10 hbz HB6 HB10
  go_wp2_with fail
  refine cS.mono ?_
  generalize (w10.alloc (.cells #[.int .i64 0, .int .i64 0, .bool false, .int .i64 0, .int .i64 0, .int .i64 0, .int .i64 0, .slice ta 0 tc, .string ByteArray.empty] 79)) = w11 at *
  rintro e w12 ⟨rfl, hb12⟩
  have HB12 := below_two HB11 hb12 (Nat.le_refl _)
  replace hx := (hb12.block _ xl).trans hx
  replace hop := hop.below hb12
  clear x0 xl y0 yl cS hb12
  obtain ⟨x0, xl, _⟩ := blk hx
  have cC := checkPacket_any ep num bare ack fk fh fe ps va vc tx w12 hop (by omega) (fun q hq => by have := hpt q hq; omega) (by omega) (hT.below HB12)
  rw [hperr] at cC
  go_wp2_with fail
  refine cC.mono ?_
  rintro e w13 ⟨rfl, hb13⟩
  go_wp2_with fail
  go_ret
  exact ⟨by simp, below_two HB12 hb13 (Nat.le_refl _)⟩

end Go.Proofs.YtmdehfomogfmlaaDoor
