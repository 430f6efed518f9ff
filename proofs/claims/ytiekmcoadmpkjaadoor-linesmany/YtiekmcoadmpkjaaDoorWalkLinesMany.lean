/-
  Walk: wherrykeep.LinesMany.
-/
import Derived.Test.YtiekmcoadmpkjaaDoorLineS
import Derived.Test.YtiekmcoadmpkjaaDoorReadF
import Derived.Test.YtiekmcoadmpkjaaDoorKPick
namespace Go.Proofs.YtiekmcoadmpkjaaDoor
open Go.RowKit Go.Lib

/-- a tick -/
def tickI : ActI := ⟨7, 0, 0, 0, 0, [], 0, 0⟩
abbrev sn : Value := .slice none 0 0
def tickK : ActK := (tickI, sn)
def zeroK : ActK := (act0, sn)
def tickB : List UInt8 := [116, 105, 99, 107, 10]
def ticksB (m : Nat) : List UInt8 := (List.replicate m tickB).flatten
theorem ticksB_succ (m : Nat) : ticksB (m + 1) = tickB ++ ticksB m := by unfold ticksB; rw [List.replicate_succ, List.flatten_cons]
theorem ticksB_snoc (m : Nat) : ticksB (m + 1) = ticksB m ++ tickB := by unfold ticksB; rw [List.replicate_succ', List.flatten_append]; simp
theorem ticksB_length (m : Nat) : (ticksB m).length = 5 * m := by
  induction m with
  | zero => rfl
  | succ m ih => rw [ticksB_succ, List.length_append, ih]; show 5 + 5 * m = _; omega
theorem made_acts (k : Nat) : (madeCells #[.int .i64 0, .int .i64 0, .int .i64 0, .int .i64 0, .int .i64 0, .slice none 0 0, .int .i64 0, .int .i64 0] (k * 8)).toList = actS.all (List.replicate k zeroK) := by
  unfold madeCells
  rw [Array.toList_map, Array.toList_range]
  induction k with
  | zero => rfl
  | succ k ih =>
    rw [Nat.succ_mul, List.range_add, List.map_append, ih, List.replicate_succ', Shape.all_append, Shape.all_one, List.map_map]
    congr 1
    have e : ∀ i, i < 8 → (k * 8 + i) % 8 = i := fun i hi => by omega
    show [(#[.int .i64 0, .int .i64 0, .int .i64 0, .int .i64 0, .int .i64 0, .slice none 0 0, .int .i64 0, .int .i64 0] : Array Value)[(k * 8 + 0) % 8]!, (#[.int .i64 0, .int .i64 0, .int .i64 0, .int .i64 0, .int .i64 0, .slice none 0 0, .int .i64 0, .int .i64 0] : Array Value)[(k * 8 + 1) % 8]!, (#[.int .i64 0, .int .i64 0, .int .i64 0, .int .i64 0, .int .i64 0, .slice none 0 0, .int .i64 0, .int .i64 0] : Array Value)[(k * 8 + 2) % 8]!, (#[.int .i64 0, .int .i64 0, .int .i64 0, .int .i64 0, .int .i64 0, .slice none 0 0, .int .i64 0, .int .i64 0] : Array Value)[(k * 8 + 3) % 8]!, (#[.int .i64 0, .int .i64 0, .int .i64 0, .int .i64 0, .int .i64 0, .slice none 0 0, .int .i64 0, .int .i64 0] : Array Value)[(k * 8 + 4) % 8]!, (#[.int .i64 0, .int .i64 0, .int .i64 0, .int .i64 0, .int .i64 0, .slice none 0 0, .int .i64 0, .int .i64 0] : Array Value)[(k * 8 + 5) % 8]!, (#[.int .i64 0, .int .i64 0, .int .i64 0, .int .i64 0, .int .i64 0, .slice none 0 0, .int .i64 0, .int .i64 0] : Array Value)[(k * 8 + 6) % 8]!, (#[.int .i64 0, .int .i64 0, .int .i64 0, .int .i64 0, .int .i64 0, .slice none 0 0, .int .i64 0, .int .i64 0] : Array Value)[(k * 8 + 7) % 8]!] = _
    rw [e 0 (by decide), e 1 (by decide), e 2 (by decide), e 3 (by decide), e 4 (by decide), e 5 (by decide), e 6 (by decide), e 7 (by decide)]
    rfl
theorem acts_put (i m : Nat) : (actS.all (List.replicate i tickK ++ List.replicate (m + 1) zeroK)).set (i * 8) (.int .i64 7) = actS.all (List.replicate (i + 1) tickK ++ List.replicate m zeroK) := by
  have hl : (actS.all (List.replicate i tickK)).length = i * 8 := by rw [actS.all_length, List.length_replicate]; rfl
  have h1 : actS.all (List.replicate (m + 1) zeroK) = actS.cells zeroK ++ actS.all (List.replicate m zeroK) := by rw [List.replicate_succ]; rfl
  have h2 : actS.all (List.replicate (i + 1) tickK) = actS.all (List.replicate i tickK) ++ actS.cells tickK := by rw [List.replicate_succ', Shape.all_append, Shape.all_one]
  rw [Shape.all_append, List.set_append, if_neg (by omega), hl, Nat.sub_self, Shape.all_append, h1, h2, List.append_assoc]
  rfl
theorem own_put' {w : World} {B e size g n c j : Nat} {xs : List Value} (h : w.ownsRow B e size (.slice (some ⟨g, 0, none⟩) n c) n xs) (hj : j < xs.length) (u : Value) :
    (w.setCell ⟨g, j, none⟩ u).ownsRow B e size (.slice (some ⟨g, 0, none⟩) n c) n (xs.set j u) ∧ Chg (fun k => k = g) w (w.setCell ⟨g, j, none⟩ u) ∧ w.cell? ⟨g, j, none⟩ = xs[j]? ∧ w.frozen? ⟨g, j, none⟩ = false ∧ B ≤ g := by
  obtain ⟨h1, h2⟩ := h
  rcases h2 with ⟨e0, _⟩ | ⟨g', cap, cur, ev, hb, hg, hn, hcap, hcur, htk⟩
  · cases e0
  · cases ev
    obtain ⟨k1, k2⟩ := blk_put hg j u
    obtain ⟨b0, _, bf⟩ := blk hg
    refine ⟨⟨by rw [List.length_set]; exact h1, .inr ⟨g, c, _, rfl, hb, k1, hn, hcap, by rw [Array.size_setIfInBounds]; exact hcur, ?_⟩⟩, k2, ?_, bf j, hb⟩
    · rw [Array.toList_setIfInBounds, ← htk, List.take_set]
    · rw [b0 j, ← htk, List.getElem?_take, if_pos (by rw [h1] at hj; exact hj)]
      simp

/-- what is read of ticks -/
theorem read_ticks {n : Int} (hn : 1 ≤ n) : ∀ (m g d : Nat), 5 * m < g → d ≤ 3000 → readA n g (List.replicate d tickI) (ticksB m) = if d + m ≤ 3000 then (List.replicate (d + m) tickI, 0, 0) else ([], 3000, 1)
  | _, 0, d, h, _ => absurd h (Nat.not_lt_zero _)
  | 0, g + 1, d, h, hd => by
    rw [readA_succ, if_pos (show ticksB 0 = [] from rfl), if_pos (by omega)]
    rfl
  | m + 1, g + 1, d, h, hd => by
    have hr : readL (cutB 10 (ticksB (m + 1))).1 = some tickI := by
      rw [ticksB_succ]
      show readL [116, 105, 99, 107] = _
      unfold readL
      rw [show wordsL [116, 105, 99, 107] = [[116, 105, 99, 107]] from rfl]
      simp only
      rw [kindL_D, show kindD [116, 105, 99, 107] = 7 by rfl]
      rfl
    have hc : (cutB 10 (ticksB (m + 1))).2.2 = true := by rw [ticksB_succ]; rfl
    have hc2 : (cutB 10 (ticksB (m + 1))).2.1 = ticksB m := by rw [ticksB_succ]; rfl
    have hne : ticksB (m + 1) ≠ [] := by rw [ticksB_succ]; exact List.cons_ne_nil _ _
    rw [readA_succ, if_neg hne, List.length_replicate]
    by_cases h3 : d = 3000
    · rw [if_pos h3, if_neg (by omega), h3]
    · rw [if_neg h3, hr]
      show (if _ then _ else _) = _
      have ht : actErr n tickI.v = 0 := tick_ok' n hn
      rw [if_neg (by rw [hc]; decide), if_neg (by rw [ht]; decide), hc2]
      have := read_ticks hn m g (d + 1) (by omega) (by omega)
      rw [List.replicate_succ'] at this
      rw [this, show d + 1 + m = d + (m + 1) by omega]
theorem tick_line : tickI.line = nats tickB := by rfl
theorem show_ticks (k : Nat) : showR [-1] (List.replicate k tickI) = if k ≤ 3000 then (nats (ticksB k), 0, 0) else ([], 0, 1) := by
  unfold showR
  rw [if_neg (by decide), List.length_replicate]
  by_cases h : k ≤ 3000
  · rw [if_neg (by omega), if_pos h, showA_all _ 0 [] (fun x hx => by rw [(List.mem_replicate.1 hx).2]; exact tick_ok' _ (by decide))]
    have : ∀ m, (List.replicate m tickI).flatMap ActI.line = nats (ticksB m) := fun m => by
      induction m with
      | zero => rfl
      | succ m ih => rw [List.replicate_succ, List.flatMap_cons, ih, tick_line, ticksB_succ, nats_append]
    rw [this]; rfl
  · rw [if_pos (by omega), if_neg h]
theorem readX_ticks (k : Nat) : readX [-1] (ticksB k) = if k ≤ 3000 then (List.replicate k tickI, 0, 0) else ([], 3000, 1) := by
  unfold readX
  rw [if_neg (by decide)]
  have := read_ticks (n := 1) (by decide) k ((ticksB k).length + 1) 0 (by rw [ticksB_length]; omega) (by omega)
  rw [Nat.zero_add] at this
  exact this

set_option maxRecDepth 100000 in
set_option maxHeartbeats 2000000 in
theorem linesMany_walk (n : Int) (w : World) (hn : I64 n) (hT : RTabs w) :
    Calls Tryd.prog 7 #[.int .i64 n] w fun e w' => e = .returned (.bool true) ∧ Below w.heap.size w w' := by
  have cP := fun wx => picked_same n 6 wx hn (by decide) (by decide)
  have hp6 := pick_lt n 6 (by decide)
  generalize pick n 6 = p at *
  have hL := World.ownsRow_lit (base := w.heap.size) (e := 3) (size := 1) w #[.int .i64 (-1)] 1 (Nat.le_refl _) (by decide) rfl
  have hb0 := (Below.refl w.heap.size w).alloc (Nat.le_refl _) (.cells #[.int .i64 (-1)] 3)
  obtain ⟨i0, hi0, hz0, hz1, hz2⟩ := info_parts info_act
  obtain ⟨j0, hj0, hy0, hy1, hy2⟩ := info_parts info_byte
  go_enter Tryd.func7, Tryd.ntmps7
  go_wp2_with fail
  generalize (w.alloc (.cells #[.int .i64 (-1)] 3)) = w1 at *
  refine (cP _).mono ?_
  rintro r w2 ⟨rfl, hw2⟩
  rw [hw2]
  clear hw2 w2 cP
  have hp5 : p ≤ 5 := by omega
  clear hp6
  go_wp2_with (at_make; refine wpList_make_full _ rfl _ _ 33 rfl w.heap.size 29 i0 _ 8 Tryd.underlying33 hi0 hz0 hz1 .i64 .i64 _ _ (2997 + p) rfl rfl (by omega) (by omega) (by rw [hz2]; omega) (by unfold maxLen; omega) hb0.size ?_; intro w3 hown3 hgrow3)
  have hc0 : Value.cells (.agg #[.int .i64 0, .int .i64 0, .int .i64 0, .int .i64 0, .int .i64 0, .slice none 0 0, .int .i64 0, .int .i64 0]) = #[.int .i64 0, .int .i64 0, .int .i64 0, .int .i64 0, .int .i64 0, .slice none 0 0, .int .i64 0, .int .i64 0] := by rfl
  rw [hc0, made_acts] at hown3
  have HB3 := hb0.grown hgrow3 hb0.size (fun k e => by cases e)
  have hit3 : w3.ownsRow w.heap.size 3 1 (.slice (some ⟨w.heap.size, 0, none⟩) 1 1) 1 [.int .i64 (-1)] := own_chg hL ((Chg.refl (fun _ => False) w1).grown hgrow3 (fun k _ e => by cases e)) (fun _ _ h => h)
  have hg1 := hb0.size
  have hgl : w.heap.size < w1.heap.size := (hL.lt w.heap.size rfl).2
  clear hL hb0 hc0 hgrow3
  go_loopg [23] (2997 + p) (fun g iv wr => ∃ i : Nat, i + g = 2997 + p ∧ iv = .int .i64 (i : Int) ∧ wr.ownsRow w.heap.size 29 8 (.slice (some ⟨w1.heap.size, 0, none⟩) (2997 + p) (2997 + p)) (2997 + p) (actS.all (List.replicate i tickK ++ List.replicate g zeroK)) ∧ wr.ownsRow w.heap.size 3 1 (.slice (some ⟨w.heap.size, 0, none⟩) 1 1) 1 [.int .i64 (-1)] ∧ Below w.heap.size w wr)
  case atStart => exact ⟨0, by omega, rfl, hown3, hit3, HB3⟩
  case round =>
    obtain ⟨i, hi, rfl, ho, hit, HB⟩ := hrel
    clear hown3 hit3 HB3
    have hBs := HB.size
    by_cases hlt : i < 2997 + p
    · have hiz : (i : Int) < (2997 : Int) + (p : Int) := by omega
      have hi0 : (0 : Int) ≤ (i : Int) := by omega
      obtain ⟨m, hm⟩ : ∃ m, gk = m + 1 := ⟨gk - 1, by omega⟩
      have hlen : (actS.all (List.replicate i tickK ++ List.replicate gk zeroK)).length = (2997 + p) * 8 := by rw [actS.all_length, List.length_append, List.length_replicate, List.length_replicate, hi]; rfl
      obtain ⟨k1, k2, k3, k4, _⟩ := own_put' ho (j := i * 8) (by rw [hlen]; omega) (.int .i64 7)
      rw [hm, acts_put] at k1
      have hjl : i * 8 < (actS.all (List.replicate i tickK ++ List.replicate gk zeroK)).length := by rw [hlen]; omega
      rw [List.getElem?_eq_getElem hjl] at k3
      obtain ⟨uq, huq⟩ : ∃ uq, wr.cell? ⟨w1.heap.size, i * 8, none⟩ = some uq := ⟨_, k3⟩
      have hg3 := (ho.lt w1.heap.size rfl).2
      have hit' := own_chg hit k2 (fun k hk e => by have h9 : w.heap.size = k := (by simpa [Value.ownBlock] using hk); omega)
      have HB' := HB.trans (k2.below (B := w.heap.size) (fun k e => by omega) hBs)
      have HM : Hid (gk = m + 1) := hm
      clear k3 hlen hjl hm ho hit k2
      go_wp2_with fail
      go_roundg m
      case measure => have := HM.out; omega
      case rel => exact ⟨i + 1, by have := HM.out; omega, by go_num, k1, hit', HB'⟩
    · obtain rfl : i = 2997 + p := by omega
      obtain rfl : gk = 0 := by omega
      have hiz : ¬ ((2997 : Int) + (p : Int)) < (2997 : Int) + (p : Int) := by omega
      rw [List.replicate_zero, List.append_nil] at ho
      clear hlt hi
      go_wp2_with (at_make; refine wpList_make_own _ rfl _ _ 44 rfl w.heap.size 5 j0 _ 1 Tryd.underlying44 hj0 hy0 hy1 .i64 .i64 _ (5 * (2997 + p)) rfl rfl (by omega) (by rw [hy2]; omega) (by unfold maxLen; omega) hBs ?_; intro w4 hown4 hgrow4)
      have hK4 := own_chg ho ((Chg.refl (fun _ => False) wr).grown hgrow4 (fun k _ e => by cases e)) (fun _ _ h => h)
      have hit4 := own_chg hit ((Chg.refl (fun _ => False) wr).grown hgrow4 (fun k _ e => by cases e)) (fun _ _ h => h)
      have HB4 := HB.grown hgrow4 hBs (fun k e => by cases e)
      clear ho hit HB hBs hgrow4
      go_wp2_with fail
      go_loopg [8, 36] (2997 + p) (fun g bv iv wq => ∃ i : Nat, i + g = 2997 + p ∧ iv = .int .i64 (i : Int) ∧ wq.ownsRow w.heap.size 5 1 bv (nats (ticksB i)).length (octs (nats (ticksB i))) ∧ wq.ownsRow w.heap.size 29 8 (.slice (some ⟨w1.heap.size, 0, none⟩) (2997 + p) (2997 + p)) (2997 + p) (actS.all (List.replicate (2997 + p) tickK)) ∧ wq.ownsRow w.heap.size 3 1 (.slice (some ⟨w.heap.size, 0, none⟩) 1 1) 1 [.int .i64 (-1)] ∧ Below w.heap.size w wq)
      case atStart => exact ⟨0, by omega, rfl, hown4, hK4, hit4, HB4⟩
      case round =>
        obtain ⟨i, hi, rfl, hb, hK, hit, HB⟩ := hrel
        clear hown4 hK4 hit4 HB4
        have hBs := HB.size
        have hnl : (nats (ticksB i)).length = 5 * i := by unfold nats; rw [List.length_map, ticksB_length]
        by_cases hlt : i < 2997 + p
        · have hiz : (i : Int) < (2997 : Int) + (p : Int) := by omega
          have hi0 : (0 : Int) ≤ (i : Int) := by omega
          obtain ⟨ba, bc, rfl⟩ := own_form hb
          have hsz : (⟨#[116, 105, 99, 107, 10]⟩ : ByteArray).size = 5 := rfl
          go_wp2_with (at_builtin; refine wpList_append_string_lies _ rfl _ _ 44 9 rfl w.heap.size 5 j0 Tryd.underlying44 Tryd.underlying9 hj0 hy0 hy1 hy2 (.slice ba (nats (ticksB i)).length bc) (nats (ticksB i)).length (octs (nats (ticksB i))) rfl hb ⟨#[116, 105, 99, 107, 10]⟩ rfl (by rw [hsz]; unfold maxLen; omega) (by rw [hsz]; omega) hBs ?_; intro bv' w5 hown5 hgr5 hmv5)
          have hK5 := own_chg hK ((Chg.refl (fun j => (Value.slice ba (nats (ticksB i)).length bc).ownBlock = some j) _).grown hgr5 (fun j _ e => e)) (own_ne hK hb (by decide))
          have hit5 := own_chg hit ((Chg.refl (fun j => (Value.slice ba (nats (ticksB i)).length bc).ownBlock = some j) _).grown hgr5 (fun j _ e => e)) (own_ne hit hb (by decide))
          have HB5 := HB.grown hgr5 hBs (fun j e => (hb.lt j e).1)
          go_roundg (2997 + p - i - 1)
          case measure => omega
          case rel =>
            have e1 : nats (ticksB (i + 1)) = nats (ticksB i) ++ nats tickB := by rw [ticksB_snoc, nats_append]
            have e2 : strCells ⟨#[116, 105, 99, 107, 10]⟩ = octs (nats tickB) := sbytes_cells _
            refine ⟨i + 1, by omega, by go_num, ?_, hK5, hit5, HB5⟩
            rw [e1, octs_append, List.length_append]
            rw [e2] at hown5
            exact hown5
        · obtain rfl : i = 2997 + p := by omega
          have hiz : ¬ ((2997 : Int) + (p : Int)) < (2997 : Int) + (p : Int) := by omega
          obtain ⟨ba, bc, rfl, _, hby, _⟩ := srcB_own hb
          have hcv := conv_bytes hby bc
          have hst : bstr (nats (ticksB (2997 + p))) = txt (ticksB (2997 + p)) := bstr_nats (txt (ticksB (2997 + p)))
          rw [hst] at hcv
          have hin : Ints wr (some ⟨w.heap.size, 0, none⟩) [-1] := ints_own hit
          have hRK : RowK actS wr w.heap.size (.slice (some ⟨w1.heap.size, 0, none⟩) (2997 + p) (2997 + p)) (List.replicate (2997 + p) tickK) := ⟨by rw [List.length_replicate]; exact hK, fun x hx => by rw [(List.mem_replicate.1 hx).2]; exact World.ownsRow_nil _ _ _ _⟩
          have hsmall : ∀ x ∈ List.replicate (2997 + p) tickK, ActSmall x.1 := fun x hx => by
            rw [(List.mem_replicate.1 hx).2]
            exact ⟨⟨Nat.zero_le _, fun p hp => by simp [tickK, tickI] at hp⟩, fun n hn => by simp [tickK, tickI] at hn; omega⟩
          have cS := show_any [-1] (some ⟨w.heap.size, 0, none⟩) 1 (List.replicate (2997 + p) tickK) (some ⟨w1.heap.size, 0, none⟩) (2997 + p) wr hin (by have := hRK.inK.base (Nat.zero_le _); rw [List.length_replicate]; exact this) hsmall (by rw [List.length_replicate]; omega) (hT.below HB).l
          rw [List.length_replicate, List.map_replicate, show (tickK : ActK).1 = tickI from rfl, show_ticks] at cS
          have cR := fun wx (hx : Below wr.heap.size wr wx) => read_any [-1] (some ⟨w.heap.size, 0, none⟩) 1 (txt (ticksB (2997 + p))) wx (hin.below hx) (by rw [txt_size, ticksB_length]; omega) ((hT.below HB).below hx) _ (readX_ticks (2997 + p)).symm
          clear hK hit hb hby hRK hsmall hin hnl hlt hi
          by_cases h3 : 2997 + p ≤ 3000
          · rw [if_pos h3] at cS
            simp only [if_pos h3] at cR
            simp only [hst] at cS
            have g2 : ((txt (ticksB (2997 + p))).toList == (txt (ticksB (2997 + p))).toList) = true := by simp
            generalize txt (ticksB (2997 + p)) = Z at *
            have hkz : ¬ (3000 : Int) < (2997 : Int) + (p : Int) := by omega
            clear hst
            go_wp2_with fail
            refine cS.mono ?_
            clear cS hcv
            rintro r w5 ⟨rfl, hb5⟩
            have HB5 := below_two HB hb5 (Nat.le_refl _)
            replace cR := cR w5 hb5
            go_wp2_with fail
            refine cR.mono ?_
            clear cR
            rintro r w6 ⟨⟨K, v, rfl, hK, hKL, _, _⟩, hb6⟩
            obtain ⟨la, lc, rfl⟩ := own_form hK.row
            have HB6 := below_two HB5 hb6 (Nat.le_refl _)
            have hlk : K.length = 2997 + p := by have := congrArg List.length hKL; simpa using this
            have hlz : ((K.length : Int) == (2997 : Int) + (p : Int)) = true := by rw [hlk]; simp
            clear hK hKL hlk
            go_wp2_with fail
            go_ret
            exact ⟨by simp, HB6⟩
          · rw [if_neg h3] at cS
            simp only [if_neg h3] at cR
            generalize txt (ticksB (2997 + p)) = Z at *
            have hkz : (3000 : Int) < (2997 : Int) + (p : Int) := by omega
            clear hst
            go_wp2_with fail
            refine cS.mono ?_
            clear cS hcv
            rintro r w5 ⟨rfl, hb5⟩
            have HB5 := below_two HB hb5 (Nat.le_refl _)
            replace cR := cR w5 hb5
            go_wp2_with fail
            refine cR.mono ?_
            clear cR
            rintro r w6 ⟨⟨K, v, rfl, hK, hKL, _, _⟩, hb6⟩
            obtain ⟨la, lc, rfl⟩ := own_form hK.row
            have HB6 := below_two HB5 hb6 (Nat.le_refl _)
            have hlk : K = [] := List.map_eq_nil_iff.1 hKL
            subst hlk
            clear hK hKL
            go_wp2_with fail
            go_ret
            exact ⟨by simp, HB6⟩
end Go.Proofs.YtiekmcoadmpkjaaDoor
