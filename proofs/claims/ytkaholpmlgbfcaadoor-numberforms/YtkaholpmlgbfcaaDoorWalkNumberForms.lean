/-
  Walk: wherrykeep.NumberForms.
-/
import Derived.Test.YtkaholpmlgbfcaaDoorWireNums
import Derived.Test.YtkaholpmlgbfcaaDoorKRaws
namespace Go.Proofs.YtkaholpmlgbfcaaDoor
open Go.RowKit Go.Lib

theorem or128 : ∀ z : Nat, z < 128 → bits .or .u8 (z : Int) 128 = (z : Int) + 128 := by decide +kernel
theorem octs_set (L : List Nat) (x : Nat) (y : Nat) : (octs (L ++ [x])).set L.length (.int .u8 (y : Int)) ++ [.int .u8 0] = octs (L ++ [y, 0]) := by
  have e : octs (L ++ [x]) = octs L ++ [.int .u8 (x : Int)] := octs_append L [x]
  have hl : (octs L).length = L.length := List.length_map _
  rw [e, ← hl, List.set_append_right _ _ (Nat.le_refl _), Nat.sub_self]
  have e2 : octs (L ++ [y, 0]) = octs L ++ [.int .u8 (y : Int), .int .u8 0] := octs_append L [y, 0]
  rw [e2]
  simp
theorem own_bytes {w : World} {B g n cap : Nat} {l : List Nat} (h : w.ownsRow B 5 1 (.slice (some ⟨g, 0, none⟩) n cap) l.length (octs l)) (hn : n = l.length) : Bytes w (some ⟨g, 0, none⟩) l ∧ l.length ≤ cap := by
  subst hn
  refine ⟨.inr ⟨g, 0, rfl, (h.lt g rfl).2, fun i hi => ?_⟩, ?_⟩
  · have := h.cells (g := g) rfl i (.int .u8 (l[i] : Int)) (by unfold octs; rw [List.getElem?_map, List.getElem?_eq_getElem hi]; rfl)
    rw [WideShapes.add_plain] at this
    exact this
  · rcases h.2 with ⟨h1, _⟩ | ⟨g', cap', cur, h1, _, _, h2, _⟩
    · simp at h1
    · simp only [Value.slice.injEq] at h1; omega

set_option maxRecDepth 100000 in
set_option maxHeartbeats 2000000 in
theorem numberForms_walk (n : Int) (w : World) (hn : I64 n) (hT : Tabs w) :
    Calls Tryd.prog 13 #[.int .i64 n] w fun e w' => e = .returned (.bool true) ∧ Below w.heap.size w w' := by
  obtain ⟨i0, hi, hz0, hz1, hz2⟩ := info_parts info_u8
  have HB : Below w.heap.size w w := Below.refl _ _
  have hk0 := pick_lt n 1048576 (by omega)
  go_enter Tryd.func13, Tryd.ntmps13
  go_wp2_with fail
  refine (picked_same n 1048576 _ hn (by omega) (by omega)).mono ?_
  generalize pick n 1048576 = p at *
  rintro e w1 ⟨rfl, rfl⟩
  have hkz : ((1 + p : Nat) : Int) = 1 + (p : Int) := by omega
  have herr : recordErr (1 + (p : Int)) [] = 0 := by
    unfold recordErr
    rw [show inN (1 + (p : Int)) = true from decide_eq_true (by omega)]
    simp
    decide +kernel
  have cE := encodeRecord_ok (1 + (p : Int)) [] none 0 w1 (.inl rfl) (by simp) hT herr
  have e1 : recW (1 + (p : Int)).toNat [] = sev (1 + p) := by
    rw [← hkz, Int.toNat_natCast]
    unfold recW
    rw [if_neg (by omega), List.append_nil]
  rw [e1] at cE
  simp only [List.length_nil] at cE
  clear e1 herr hkz
  have hsl := sev_le (n := 1 + p) (by omega)
  go_wp2_with fail
  refine cE.mono ?_
  rintro r w2 ⟨v, rfl, hown, hb⟩
  replace HB := below_two HB hb (Nat.le_refl _)
  clear cE hb
  obtain ⟨L, z, hL, hzz, hlng, hLb⟩ := sev_last (1 + p)
  have HL : Hid (sev (1 + p) = L ++ [z]) := hL
  have HG : Hid (lng (1 + p) = L ++ [z + 128, 0]) := hlng
  rw [hL] at hown hsl
  rw [List.length_append] at hown hsl
  simp only [List.length_cons, List.length_nil, Nat.zero_add] at hown hsl
  obtain ⟨g, cap, rfl, hgb, hgl⟩ := hown.form (by omega)
  clear hL hlng
  go_wp2_with fail
  go_loopw [6, 7] (fun sv mv wr => ∃ s m : Nat, sv = .int .i64 (s : Int) ∧ mv = .int .i64 (m : Int) ∧ m ≤ 1048576 ∧ s + (sev m).length = 1 + (L.length + 1) ∧ wr = w2) (fun _ mv _ => (RowKit.intOf mv).toNat)
  case atStart => exact ⟨1, 1 + p, rfl, val_eq (by omega), by omega, by rw [HL.out, List.length_append]; rfl, rfl⟩
  case round =>
    obtain ⟨s, m, rfl, rfl, hm, hsm, rfl⟩ := hrel
    by_cases hmb : m < 128
    · have hmz : ¬ (128 : Int) ≤ (m : Int) := by omega
      rw [sev_small hmb] at hsm
      simp only [List.length_cons, List.length_nil, Nat.zero_add] at hsm
      obtain rfl : s = L.length + 1 := by omega
      clear hsm
      have hLz : (0 : Int) ≤ (L.length : Int) := by omega
      have hbit := or128 z hzz
      have tok : True := trivial
      have tok2 : True := trivial
      go_wp2_with (first | (at_builtin; clear tok; refine wpList_append_lies _ rfl _ _ 61 rfl wr.heap.size 5 i0 _ 1 1 Tryd.underlying61 hi hz0 hz1 hz2 rfl (by decide) (.slice none 0 0) 0 [] rfl (World.ownsRow_nil _ _ _ _) ⟨g, 0, none⟩ (L.length + 1) cap (octs (L ++ [z])) rfl (by simp [octs]) (fun j u hj => hown.cells (g := g) rfl j u hj) (by intro u hu; simp [octs] at hu; rcases hu with ⟨y, _, rfl⟩ | rfl <;> rfl) (by omega) (by unfold maxLen; omega) (by omega) (Nat.le_refl _) _ rfl ?_; intro g3 cap3 w3 hown3 hgr3 hat3 hlt3; rw [Nat.zero_add] at hown3 ⊢; have q3 : w3.cell? ⟨g3, L.length, none⟩ = some (.int .u8 (z : Int)) := (by rw [hown3.cellAt L.length (by omega)]; simp [octs]); have f3 := hown3.frozenAt L.length; have gl : ((L.length : Int) + 1 == 0) = false := (by simp; omega); have hown4 := (hown3.stored L.length (.int .u8 ((z : Int) + 128))).1; have hN : ((w3.setCell ⟨g3, L.length, none⟩ (.int .u8 ((z : Int) + 128))).alloc (.cells #[.int .u8 0] 5)).heap[w3.heap.size]? = some (.cells #[.int .u8 0] 5 (0, 0)) := (by have := heap_alloc_new (w3.setCell ⟨g3, L.length, none⟩ (.int .u8 ((z : Int) + 128))) (.cells #[.int .u8 0] 5); simpa using this)) | (at_builtin; clear tok2; refine wpList_append_lies _ rfl _ _ 61 rfl wr.heap.size 5 i0 _ 1 1 Tryd.underlying61 hi hz0 hz1 hz2 rfl (by decide) (.slice (some ⟨g3, 0, none⟩) (L.length + 1) cap3) (L.length + 1) _ rfl (hown4.alloc _) ⟨w3.heap.size, 0, none⟩ 1 1 [.int .u8 0] rfl rfl (World.news_of_block (cs := #[.int .u8 0]) (t := 5) (fr := (0, 0)) hN) (by simp [Value.oneCell']) (by omega) (by unfold maxLen; omega) (by omega) (by have := (hown3.lt g3 rfl).1; simp; omega) _ rfl ?_; intro g5 cap5 w5 hown5 hgr5 hat5 hlt5))
      have e5 : ((z : Int) + 128) = ((z + 128 : Nat) : Int) := by omega
      have hg3 := (hown3.lt g3 rfl).1
      have hbx : Below wr.heap.size wr w5 := ((((Below.refl wr.heap.size wr).grown hgr3 (Nat.le_refl _) (fun k e => by cases e)).setCell hg3 (.int .u8 ((z : Int) + 128))).alloc (by have := hlt3; simp; omega) (.cells #[.int .u8 0] 5)).grown hgr5 (by have := hlt3; simp; omega) (fun k e => by simp only [Value.ownBlock, Option.some.injEq] at e; omega)
      rw [e5, List.nil_append, octs_set] at hown5
      have hlen5 : L.length + 1 + 1 = (L ++ [z + 128, 0]).length := by simp
      have hown5' : w5.ownsRow wr.heap.size 5 1 (.slice (some ⟨g5, 0, none⟩) (L.length + 1 + 1) cap5) (L ++ [z + 128, 0]).length (octs (L ++ [z + 128, 0])) := by rw [← hlen5]; exact hown5
      obtain ⟨hby, hcap⟩ := own_bytes hown5' hlen5
      have HB5 := below_two HB hbx (Nat.le_refl _)
      have cD := decodeRecord_any (L ++ [z + 128, 0]) _ cap5 w5 hby (fun x hx => by
        rcases List.mem_append.1 hx with hx | hx
        · exact hLb x hx
        · simp at hx; omega) hcap (hT.below HB5)
      rw [← hlen5, ← HG.out, recFault_lng (by omega)] at cD
      refine cD.mono ?_
      rintro r w6 ⟨v6, rfl, hown6, hb6⟩
      obtain ⟨va6, vc6, rfl⟩ := own_form hown6
      have HB6 := below_two HB5 hb6 (Nat.le_refl _)
      have hownb := own_below hown (below_two hbx hb6 (Nat.le_refl _))
      clear hlen5 e5 hcap cD hown3 hown4 hown5 hown5' hgr3 hgr5 hat5 hN hby hbx hb6 q3 f3 hown6
      generalize recOf (lng (1 + p)) = O6 at *
      generalize O6.2.length = on6 at *
      generalize ((O6.1 : Nat) : Int) = oe6 at *
      have cX : ∀ wx, Below w6.heap.size w6 wx → Calls Tryd.prog 34 #[.slice (some ⟨g, 0, none⟩) (L.length + 1) cap] wx fun r w' => ∃ (v : Value), r = .returned (.tuple #[.agg #[.int .i64 (1 + (p : Int)), v], .int .i64 0]) ∧ w'.ownsRow wx.heap.size 90 3 v 0 [] ∧ Below wx.heap.size wx w' := by
        intro wx hbx
        have hlenb : L.length + 1 = (L ++ [z]).length := by simp
        have h' : wx.ownsRow w1.heap.size 5 1 (.slice (some ⟨g, 0, none⟩) (L.length + 1) cap) (L ++ [z]).length (octs (L ++ [z])) := by rw [← hlenb]; exact own_below hownb hbx
        obtain ⟨hby, hcap⟩ := own_bytes h' hlenb
        have := decodeRecord_any (L ++ [z]) _ cap wx hby (fun x hx => sev_bytes (1 + p) x (by rw [HL.out]; exact hx)) hcap (hT.below (below_two HB6 hbx (Nat.le_refl _)))
        obtain ⟨f1, f2⟩ := rec_sev (k := 1 + p) (by omega)
        rw [← hlenb, ← HL.out, f1, f2] at this
        refine this.mono ?_
        rintro r w' ⟨v, rfl, h1, h2⟩
        exact ⟨v, by rw [show (((1 + p, ([] : List Part)).1 : Nat) : Int) = 1 + (p : Int) by simp], h1, h2⟩
      clear hown hownb
      go_wp2_with fail
      have hba := (Below.refl w6.heap.size w6).alloc (Nat.le_refl _) (.cells #[.int .i64 oe6, .slice va6 on6 vc6] 66)
      refine (cX _ hba).mono ?_
      rintro r w7 ⟨v7, rfl, hown7, hb7⟩
      obtain ⟨va7, vc7, rfl⟩ := own_form hown7
      have HB7 := below_two (below_two HB6 hba (Nat.le_refl _)) hb7 (Nat.le_refl _)
      clear cX
      go_wp2_with fail
      go_ret
      exact ⟨rfl, HB7.alloc HB7.size _⟩
    · have hmz : (128 : Int) ≤ (m : Int) := by omega
      rw [sev_big hmb] at hsm
      simp only [List.length_cons] at hsm
      go_wp2_with fail
      go_roundw
      case rel => exact ⟨s + 1, m / 128, val_eq (by omega), val_eq (by omega), by omega, by omega, by first | rfl | trivial⟩
      case measure => simp [RowKit.intOf]; omega

end Go.Proofs.YtkaholpmlgbfcaaDoor
