/-
  Walk: wire.reader.op.
-/
import Derived.Test.YtknjnfknalfbdaaDoorWirePart
namespace Go.Proofs.YtknjnfknalfbdaaDoor
open Go.RowKit Go.Lib

/-- so many parts, read -/
def partsP : Nat → List Nat → Except Int (List Part × List Nat)
  | 0, l => .ok ([], l)
  | m + 1, l => match partP l with
    | .ok x => mapR (partsP m x.2) (fun D => x.1 :: D)
    | .error e => .error e
/-- P3.4: an operation, read -/
def opP (l : List Nat) : Except Int (List Part × List Nat) := match numP l with
  | .ok x => partsP x.1 x.2
  | .error e => .error e
theorem mapR_map {α β γ : Type} (r : Except Int (α × List Nat)) (f : α → β) (g : β → γ) : mapR (mapR r f) g = mapR r (fun x => g (f x)) := by cases r <;> rfl
theorem mapR_id {α : Type} (r : Except Int (α × List Nat)) : mapR r (fun x => x) = r := by cases r <;> rfl
theorem parts_step (m : Nat) (st : Except Int (List Nat)) (D : List Part) (p : Part) (hp : ∀ x, andR st partP = .ok x → x.1 = p) :
    mapR (andR st (partsP (m + 1))) (fun X => D ++ X) = mapR (andR (rest (andR st partP)) (partsP m)) (fun X => (D ++ [p]) ++ X) := by
  cases st with
  | error e => rfl
  | ok l =>
    have h : ∀ x, partP l = .ok x → x.1 = p := hp
    show mapR (match partP l with | .ok x => mapR (partsP m x.2) (fun D => x.1 :: D) | .error e => .error e) _ = mapR (andR (rest (partP l)) (partsP m)) _
    cases hq : partP l with
    | error e => rfl
    | ok x =>
      show mapR (mapR (partsP m x.2) (fun D => x.1 :: D)) _ = mapR (partsP m x.2) _
      rw [mapR_map, h x hq]
      congr 1
      funext X
      simp

theorem parts_end (m : Nat) (st : Except Int (List Nat)) (D : List Part) (h : m = 0 ∨ ∃ e, st = .error e) :
    rest (mapR (andR st (partsP m)) (fun X => D ++ X)) = st ∧ ∀ x, mapR (andR st (partsP m)) (fun X => D ++ X) = .ok x → x.1 = D := by
  cases st with
  | error e => exact ⟨rfl, fun x hx => by cases hx⟩
  | ok l =>
    rcases h with rfl | ⟨e, he⟩
    · exact ⟨rfl, fun x hx => by cases hx; simp⟩
    · cases he

set_option maxRecDepth 100000 in
set_option maxHeartbeats 2000000 in
theorem rop_any (w : World) (B b : Nat) (st : Except Int (List Nat)) (h : RdSt w B b st) :
    Calls Tryd.prog 134 #[.pointer (some ⟨b, 0, none⟩)] w fun r w' => ∃ v ps, r = .returned v ∧ w'.ownsRow w.heap.size 33 3 v ps.length (partCells ps) ∧ RdSt w' B b (rest (andR st opP)) ∧ (∀ x, andR st opP = .ok x → x.1 = ps) ∧ ps.length < 268435456 ∧ (∀ p ∈ ps, PartOk 1000000 p) ∧ Chg (fun k => k = b) w w' := by
  obtain ⟨i0, hi, hz0, hz1, hz2⟩ := info_parts info_part
  have hb := h.base
  have cN := number_any w B b st h
  obtain ⟨R2, hR2⟩ : ∃ R2, R2 = andR st opP := ⟨_, rfl⟩
  rw [← hR2]
  have HK : Hid (R2 = match andR st numP with | .ok x => partsP x.1 x.2 | .error e => .error e) := hR2.trans (by cases st <;> rfl)
  clear hR2
  generalize andR st numP = R at *
  go_enter Tryd.func134, Tryd.ntmps134
  go_wp2_with fail
  refine cN.mono ?_
  rintro r w1 ⟨n, rfl, hn, hst, hx, hc1⟩
  have HS : Hid (R2 = mapR (andR (rest R) (partsP n)) (fun X => [] ++ X)) := by
    show _ = _
    rw [HK.out]
    cases R with
    | error e => rfl
    | ok x => 
      show partsP x.1 x.2 = mapR (partsP n x.2) _
      rw [hx x rfl]
      exact (mapR_id _).symm
  clear cN HK hx h
  generalize rest R = st1 at *
  go_wp2_with fail
  go_loopw [3, 4] (fun ov nv wr => ∃ (m : Nat) (D : List Part) (st : Except Int (List Nat)), nv = .int .i64 (m : Int) ∧ D.length + m < 268435456 ∧ wr.ownsRow w.heap.size 33 3 ov D.length (partCells D) ∧ RdSt wr B b st ∧ Hid (R2 = mapR (andR st (partsP m)) (fun X => D ++ X)) ∧ (∀ p ∈ D, PartOk 1000000 p) ∧ Chg (fun k => k = b) w wr) (fun _ nv _ => (RowKit.intOf nv).toNat)
  case atStart => exact ⟨n, [], st1, rfl, by simpa using hn, World.ownsRow_nil _ _ _ _, hst, HS, by simp, hc1⟩
  case round =>
    obtain ⟨m, D, st, rfl, hlen, hown, hst, HS, hok, hch⟩ := hrel
    have hz := hch.size
    have hrd : ∃ l er, RdAt wr B b l er ∧ (er = 0 ∧ st = .ok l ∨ er ≠ 0 ∧ st = .error er) := by
      cases hst with
      | ok h => exact ⟨_, 0, h, .inl ⟨rfl, rfl⟩⟩
      | bad he h => exact ⟨_, _, h, .inr ⟨he, rfl⟩⟩
    obtain ⟨l, er, hrd, her⟩ := hrd
    obtain ⟨a, c, hblk, _, _⟩ := hrd.form
    obtain ⟨⟨k0, k1⟩, _, _, _⟩ := rd_cells hblk
    clear hblk hrd
    obtain ⟨oa, oc, rfl⟩ := own_form hown
    cases m with
    | zero =>
      obtain ⟨e1, e2⟩ := parts_end 0 st D (.inl rfl)
      rw [← HS.out] at e1 e2
      have HE1 : Hid (rest R2 = st) := e1
      clear HS e1
      generalize hdl : D.length = dl at *
      have HDL : Hid (D.length = dl) := hdl
      clear hdl
      go_wp2_with fail
      go_ret
      exact ⟨_, D, rfl, by rw [HDL.out]; exact hown, by rw [HE1.out]; exact hst, e2, by rw [HDL.out]; omega, hok, hch⟩
    | succ m =>
      have hmz : (0 : Int) < ((m + 1 : Nat) : Int) := by omega
      rcases her with ⟨rfl, rfl⟩ | ⟨her, rfl⟩
      · have cP := part_any wr B b (.ok l) hst
        have hstep := parts_step m (.ok l) D
        generalize andR (.ok l) partP = Q at *
        generalize hdl : D.length = dl at *
        have HDL : Hid (D.length = dl) := hdl
        clear hdl
        go_wp2_with fail
        refine cP.mono ?_
        rintro r w2 ⟨p, rfl, hst2, hx2, hpok, hc2⟩
        have HS2 : Hid (R2 = mapR (andR (rest Q) (partsP m)) (fun X => (D ++ [p]) ++ X)) := HS.out.trans (hstep p hx2)
        have hown2 := own_chg hown hc2 (fun k hk => by have := (hown.lt k hk).1; omega)
        have hzz2 := hc2.size
        clear cP hstep HS hx2
        obtain ⟨kd, nn, tx⟩ := p
        simp only at HS2 ⊢
        go_wp2_with (at_builtin; refine wpList_append_lies _ rfl _ _ 28 rfl w.heap.size 33 i0 _ 3 32 Tryd.underlying28 hi hz0 hz1 hz2 rfl (by decide) _ _ _ rfl (hown2.alloc _) ⟨w2.heap.size, 0, none⟩ 1 1 [.int .i64 kd, .int .i64 nn, .string tx] rfl rfl (World.news_of_block (cs := #[.int .i64 kd, .int .i64 nn, .string tx]) (t := 33) (fr := (0, 0)) (heap_alloc_new w2 _)) (by simp [Value.oneCell']) (by omega) (by unfold maxLen; omega) (by omega) (by simp; omega) _ rfl ?_; intro g1 cap1 w3 hown3 hgr3 hat3 hlt3)
        go_roundw
        case rel =>
          have hc3 : Chg (fun k => (Value.slice oa dl oc).ownBlock = some k) w2 w3 := ((Chg.refl _ w2).alloc _).grown hgr3 (fun k _ e => e)
          refine ⟨m, D ++ [⟨kd, nn, tx⟩], _, by go_num, ?_, ?_, hst2.chg hc3 (fun k hk => by have := (hown.lt k hk).1; omega), HS2, ?_, (hch.trans hc2 (fun _ _ h => h)).trans hc3 (fun i hi h => by have := (hown.lt i h).1; omega)⟩
          · rw [List.length_append, HDL.out]; simp; omega
          · rw [List.length_append, HDL.out, partCells_append, partCells_one]; exact hown3
          · intro p hp
            rcases List.mem_append.1 hp with hp | hp
            · exact hok p hp
            · rw [List.mem_singleton.1 hp]; exact hpok
        case measure => simp [RowKit.intOf]; try omega
      · have g : (er == 0) = false := by simpa using her
        obtain ⟨e1, e2⟩ := parts_end (m + 1) (.error er) D (.inr ⟨er, rfl⟩)
        rw [← HS.out] at e1 e2
        have HE1 : Hid (rest R2 = .error er) := e1
        clear HS e1
        generalize hdl : D.length = dl at *
        have HDL : Hid (D.length = dl) := hdl
        clear hdl
        go_wp2_with fail
        go_ret
        exact ⟨_, D, rfl, by rw [HDL.out]; exact hown, by rw [HE1.out]; exact hst, e2, by rw [HDL.out]; omega, hok, hch⟩

end Go.Proofs.YtknjnfknalfbdaaDoor
