/-
  Walks: wherrykeep.picked, wherrykeep.runes.
-/
import Derived.Test.YtodnocplljkjnaaDoorLens
import Derived.Test.YtodnocplljkjnaaDoorKPick
import Derived.Test.YtodnocplljkjnaaDoorRuneRow
import Derived.Test.YtodnocplljkjnaaDoorKMasonPen

/- Walks: wherrykeep.picked, wherrykeep.runes. -/
namespace Go.Proofs.YtodnocplljkjnaaDoor
open Go.RowKit

set_option maxHeartbeats 400000 in
theorem krunes_any (s : ByteArray) (w : World) (hs : s.size ≤ 70368744177664) :
    Calls Tryd.prog 6 #[.string s] w fun e w' => e = .returned (.int .i64 ((runes s).length : Int)) ∧ Below w.heap.size w w' := by
  have hcv := conv_runes s hs
  go_enter Tryd.func6, Tryd.ntmps6
  go_wp2
  go_ret
  exact ⟨rfl, ((Below.refl _ _).alloc (Nat.le_refl _) _).drew⟩

end Go.Proofs.YtodnocplljkjnaaDoor

/- Walk: wherrykeep.letters. -/
namespace Go.Proofs.YtodnocplljkjnaaDoor
open Go.RowKit

set_option maxRecDepth 100000 in
set_option maxHeartbeats 1000000 in
theorem letters_any (s : ByteArray) (most : Nat) (w : World) (hs : s.size ≤ 9223372036854775807) (hm : most ≤ 1000000) :
    Calls Tryd.prog 5 #[.string s, .int .i64 (most : Int)] w fun e w' => ∃ rs : List Nat, (∀ r ∈ rs, CP r) ∧ rs.length ≤ most ∧ e = .returned (.string (str rs)) ∧ Below w.heap.size w w' := by
  obtain ⟨i0, hi, hz0, hz1, hz2⟩ := info_parts info_i32
  go_enter Tryd.func5, Tryd.ntmps5
  go_wp2
  go_loopw [5, 6] (fun ov i wr => ∃ (k : Nat) (acc : List Nat), k ≤ s.size ∧ i = .int .i64 k ∧ acc.length ≤ most ∧ (∀ r ∈ acc, CP r) ∧ wr.ownsRow w.heap.size 21 1 ov acc.length (runeVals acc) ∧ Below w.heap.size w wr) (fun _ i _ => s.size - (RowKit.intOf i).toNat)
  case atStart => exact ⟨0, [], Nat.zero_le _, rfl, Nat.zero_le _, (fun r hr => by cases hr), World.ownsRow_nil _ _ _ _, Below.refl _ _⟩
  case round =>
    obtain ⟨k, acc, hk, rfl, hacc, hcp, hown, hbr⟩ := hrel
    obtain ⟨oa, oc, rfl⟩ := own_form hown
    by_cases hlt : k < s.size
    · by_cases hl2 : acc.length < most
      · have hlA : acc.length ≤ 1000000 := by omega
        have hbz := hbr.size
        by_cases h6 : s[k].toNat % 8 = 6
        · have g6 : ((s[k].toNat : Int) % 8 == 6) = true := by simp; omega
          go_wp2_with (at_builtin; refine wpList_append_lies _ rfl _ _ 40 rfl w.heap.size 21 i0 _ 1 4 Tryd.underlying40 hi hz0 hz1 hz2 rfl (by decide) _ _ _ rfl (hown.alloc _) ⟨wr.heap.size, 0, none⟩ 1 1 [.int .i32 (224 + (s[k].toNat : Int) / 8 % 256)] rfl rfl (World.news_of_block (cs := #[.int .i32 (224 + (s[k].toNat : Int) / 8 % 256)]) (t := 21) (fr := (0, 0)) (heap_alloc_new wr _)) (by simp [Value.oneCell']) (by omega) (by unfold maxLen; omega) (by omega) (by simp; omega) _ rfl ?_; intro g1 cap1 w6 hown1 hgrow1 hat1 hlt1)
          go_roundw
          case rel =>
            refine ⟨k + 1, acc ++ [224 + s[k].toNat / 8 % 256], hlt, by go_num, by simp; omega, fun r hr => ?_, ?_, (hbr.alloc hbr.size _).grown hgrow1 (by simp; omega) (fun j e => (hown.lt j e).1)⟩
            · rcases List.mem_append.1 hr with hr | hr
              · exact hcp r hr
              · simp only [List.mem_singleton] at hr
                subst hr
                unfold CP; omega
            · have e : runeVals (acc ++ [224 + s[k].toNat / 8 % 256]) = runeVals acc ++ [.int .i32 (224 + (s[k].toNat : Int) / 8 % 256)] := by simp [runeVals]
              rw [e, List.length_append, List.length_singleton]
              exact hown1
          case measure => simp [RowKit.intOf]; omega
        · by_cases h7 : s[k].toNat % 8 = 7
          · have g6 : ((s[k].toNat : Int) % 8 == 6) = false := by simp; omega
            have g7 : ((s[k].toNat : Int) % 8 == 7) = true := by simp; omega
            go_wp2_with (at_builtin; refine wpList_append_lies _ rfl _ _ 40 rfl w.heap.size 21 i0 _ 1 4 Tryd.underlying40 hi hz0 hz1 hz2 rfl (by decide) _ _ _ rfl (hown.alloc _) ⟨wr.heap.size, 0, none⟩ 1 1 [.int .i32 (128512 + (s[k].toNat : Int) / 8 % 256)] rfl rfl (World.news_of_block (cs := #[.int .i32 (128512 + (s[k].toNat : Int) / 8 % 256)]) (t := 21) (fr := (0, 0)) (heap_alloc_new wr _)) (by simp [Value.oneCell']) (by omega) (by unfold maxLen; omega) (by omega) (by simp; omega) _ rfl ?_; intro g1 cap1 w6 hown1 hgrow1 hat1 hlt1)
            go_roundw
            case rel =>
              refine ⟨k + 1, acc ++ [128512 + s[k].toNat / 8 % 256], hlt, by go_num, by simp; omega, fun r hr => ?_, ?_, (hbr.alloc hbr.size _).grown hgrow1 (by simp; omega) (fun j e => (hown.lt j e).1)⟩
              · rcases List.mem_append.1 hr with hr | hr
                · exact hcp r hr
                · simp only [List.mem_singleton] at hr
                  subst hr
                  unfold CP; omega
              · have e : runeVals (acc ++ [128512 + s[k].toNat / 8 % 256]) = runeVals acc ++ [.int .i32 (128512 + (s[k].toNat : Int) / 8 % 256)] := by simp [runeVals]
                rw [e, List.length_append, List.length_singleton]
                exact hown1
            case measure => simp [RowKit.intOf]; omega
          · have g6 : ((s[k].toNat : Int) % 8 == 6) = false := by simp; omega
            have g7 : ((s[k].toNat : Int) % 8 == 7) = false := by simp; omega
            go_wp2_with (at_builtin; refine wpList_append_lies _ rfl _ _ 40 rfl w.heap.size 21 i0 _ 1 4 Tryd.underlying40 hi hz0 hz1 hz2 rfl (by decide) _ _ _ rfl (hown.alloc _) ⟨wr.heap.size, 0, none⟩ 1 1 [.int .i32 (97 + (s[k].toNat : Int) / 8 % 256)] rfl rfl (World.news_of_block (cs := #[.int .i32 (97 + (s[k].toNat : Int) / 8 % 256)]) (t := 21) (fr := (0, 0)) (heap_alloc_new wr _)) (by simp [Value.oneCell']) (by omega) (by unfold maxLen; omega) (by omega) (by simp; omega) _ rfl ?_; intro g1 cap1 w6 hown1 hgrow1 hat1 hlt1)
            go_roundw
            case rel =>
              refine ⟨k + 1, acc ++ [97 + s[k].toNat / 8 % 256], hlt, by go_num, by simp; omega, fun r hr => ?_, ?_, (hbr.alloc hbr.size _).grown hgrow1 (by simp; omega) (fun j e => (hown.lt j e).1)⟩
              · rcases List.mem_append.1 hr with hr | hr
                · exact hcp r hr
                · simp only [List.mem_singleton] at hr
                  subst hr
                  unfold CP; omega
              · have e : runeVals (acc ++ [97 + s[k].toNat / 8 % 256]) = runeVals acc ++ [.int .i32 (97 + (s[k].toNat : Int) / 8 % 256)] := by simp [runeVals]
                rw [e, List.length_append, List.length_singleton]
                exact hown1
            case measure => simp [RowKit.intOf]; omega
      · obtain rfl : acc.length = most := by omega
        have hcb := conv_back wr _ _ _ hown
        go_wp2
        go_ret
        exact ⟨acc, hcp, hacc, rfl, hbr⟩
    · have hcb := conv_back wr _ _ _ hown
      go_wp2
      go_ret
      exact ⟨acc, hcp, hacc, rfl, hbr⟩

end Go.Proofs.YtodnocplljkjnaaDoor

/- Raw things in memory. -/
namespace Go.Proofs.YtodnocplljkjnaaDoor
open Go.RowKit Go.Lib

/-- some numbers, and a text -/
structure RawV where
  kind : Int
  a : Int
  b : Int
  c : Int
  text : ByteArray
structure RawOk (r : RawV) : Prop where
  kind : I64 r.kind
  a : I64 r.a
  b : I64 r.b
  c : I64 r.c
  text : r.text.size ≤ 9223372036854775807
/-- a slice of raw things in memory: its cells, five each -/
def RawsAt (w : World) (a : Option Addr) (rs : List RawV) : Prop :=
  rs = [] ∨ ∃ b off, a = some ⟨b, off, none⟩ ∧ b < w.heap.size ∧ ∀ i (h : i < rs.length),
    w.cell? ⟨b, off + i * 5, none⟩ = some (.int .i64 rs[i].kind) ∧ w.cell? ⟨b, off + i * 5 + 1, none⟩ = some (.int .i64 rs[i].a) ∧ w.cell? ⟨b, off + i * 5 + 2, none⟩ = some (.int .i64 rs[i].b) ∧ w.cell? ⟨b, off + i * 5 + 3, none⟩ = some (.int .i64 rs[i].c) ∧ w.cell? ⟨b, off + i * 5 + 4, none⟩ = some (.string rs[i].text)
theorem RawsAt.below {w w' : World} {B : Nat} {a : Option Addr} {rs : List RawV} (h : RawsAt w a rs) (hb : Below B w w') (hB : w.heap.size ≤ B) : RawsAt w' a rs := by
  rcases h with rfl | ⟨b, off, rfl, hl, hc⟩
  · exact .inl rfl
  · refine .inr ⟨b, off, rfl, Nat.lt_of_lt_of_le hl hb.size, fun i hi => ?_⟩
    obtain ⟨c0, c1, c2, c3, c4⟩ := hc i hi
    have e : ∀ j, w'.cell? ⟨b, j, none⟩ = w.cell? ⟨b, j, none⟩ := fun j => World.cell?_of_block (a := ⟨b, j, none⟩) (hb.block b (by omega))
    rw [e, e, e, e, e]
    exact ⟨c0, c1, c2, c3, c4⟩

theorem below_two' {w0 w w' : World} {B b : Nat} {ov ov' : Value} {D : List Part} {left : Int} (h : Below B w0 w) (hst : MasonStep w w' b ov ov') (hm : MasonAt w B b ov D left) : Below B w0 w' :=
  ⟨hst.chg.os.trans h.os, hst.chg.tape.trans h.tape, hst.chg.output.trans h.output, Nat.le_trans h.size hst.chg.size, fun k hk => by
    by_cases hl : k < w.heap.size
    · rw [hst.chg.block k hl (fun hF => by have := (hm.lt k hF).1; omega)]
      exact h.block k hk
    · exfalso
      have h1 := (hm.lt b (.inl rfl)).1
      have h2 := (hm.lt b (.inl rfl)).2
      omega⟩

set_option maxHeartbeats 400000 in
/-- the literal within Op -/
theorem opLit_any (r : RawV) (w : World) (h : RawOk r) :
    Calls Tryd.prog 16 #[.agg #[.int .i64 r.kind, .int .i64 r.a, .int .i64 r.b, .int .i64 r.c, .string r.text]] w fun e w' => ∃ rs : List Nat, (∀ r ∈ rs, CP r) ∧ rs.length ≤ 4 ∧ e = .returned (.string (str rs)) ∧ Below w.heap.size w w' := by
  have c1 := fun w1 => letters_any r.text 4 w1 h.text (by omega)
  go_enter Tryd.func16, Tryd.ntmps16
  go_wp2_with fail
  refine (c1 _).mono ?_
  rintro e w1 ⟨rs, h1, h2, rfl, hb⟩
  go_wp2
  go_ret
  exact ⟨rs, h1, h2, rfl, below_two ((Below.refl _ _).alloc (Nat.le_refl _) _) hb (Nat.le_refl _)⟩

end Go.Proofs.YtodnocplljkjnaaDoor
