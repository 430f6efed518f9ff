/-
  Walks: utf8.RuneCountInString, text.Lengths.
-/
import Derived.Test.YtodnocplljkjnaaDoorProg
import Derived.Test.YtodnocplljkjnaaDoorPure
import Derived.WalkKit
import Derived.WalkSpells
import Derived.Laws.RangeString
import Derived.Laws.RangeAny
import Derived.LoopTactic
import Derived.Deep.QuietTactic
import Derived.BigQuiet

/- Walks: utf8.RuneCountInString, text.Lengths. -/
namespace Go.Proofs.YtodnocplljkjnaaDoor
open Go.RowKit

theorem ret_int {k : IntKind} {a b : Int} (h : a = b) : Ending.returned (.int k a) = .returned (.int k b) := by rw [h]

set_option maxHeartbeats 400000 in
theorem count_any (s : ByteArray) (w : World) (hs : s.size < 9223372036854775807) :
    Calls Tryd.prog 23 #[.string s] w fun e w' => e = .returned (.int .i64 (runes s).length) ∧ Below w.heap.size w w' := by
  go_enter Tryd.func23, Tryd.ntmps23
  go_wp2
  go_loopw [2] (fun n w' => ∃ (pos b acc : Nat), w' = w.iter s pos ∧ n = .int .i64 acc ∧ acc + (runesAt s b pos).length = (runes s).length ∧ s.size ≤ pos + b ∧ acc ≤ pos) (fun _ w' => s.size - w'.iterPos w.heap.size)
  case atStart => exact ⟨0, s.size, 0, rfl, rfl, by simp [runes], by omega, Nat.le_refl _⟩
  case round =>
    obtain ⟨pos, b, acc, rfl, rfl, hc, hb, ha⟩ := hrel
    by_cases hp : pos < s.size
    · have hnx : ∀ ty, (Instr.next (.pointer (some ⟨w.heap.size, 0, none⟩)) true ty).run Tryd.prog (w.iter s pos) = _ := fun ty => run_next_any w s pos ty hp
      have hwd := decode_pos s pos hp
      go_wp2
      go_roundw
      case rel =>
        obtain ⟨b', hb', hr⟩ := runesAt_step s b pos hp hb
        refine ⟨pos + (Utf8.decode s pos).2, b', acc + 1, rfl, by go_num, ?_, by omega, by omega⟩
        rw [← hc, hr, List.length_cons]
        omega
      case measure =>
        simp
        omega
    · have hnx : ∀ ty, (Instr.next (.pointer (some ⟨w.heap.size, 0, none⟩)) true ty).run Tryd.prog (w.iter s pos) = _ := fun ty => run_next_end w s pos ty hp
      go_wp2
      go_ret
      rw [runesAt_end s b pos hp] at hc
      simp only [List.length_nil, Nat.add_zero] at hc
      subst hc
      exact ⟨rfl, (Below.refl _ _).alloc (Nat.le_refl _) _⟩

end Go.Proofs.YtodnocplljkjnaaDoor

/- Walk: text.Lengths. -/
namespace Go.Proofs.YtodnocplljkjnaaDoor
open Go.RowKit

theorem bcell {W w1 : World} {B : Nat} (hb : Below B W w1) : (∀ b o, b < B → w1.cell? ⟨b, o, none⟩ = W.cell? ⟨b, o, none⟩) :=
  fun b o h => hb.cell (p := ⟨b, o, none⟩) h

set_option maxHeartbeats 400000 in
theorem lengths_any (ps : List Part) (a : Option Addr) (cap : Nat) (w : World) (hop : OpAt w a ps) (hn : ps.length ≤ 9223372036854775806) (hs : ∀ p ∈ ps, p.text.size < 9223372036854775807) :
    Calls Tryd.prog 22 #[.slice a ps.length cap] w fun e w' => e = .returned (.tuple #[.int .i64 (lens ps).1, .int .i64 (lens ps).2]) ∧ Below w.heap.size w w' := by
  go_enter Tryd.func22, Tryd.ntmps22
  go_wp2
  go_loopw [2, 3, 8] (fun f t i wr => ∃ k : Nat, k ≤ ps.length ∧ i = .int .i64 k ∧ f = .int .i64 (lens (ps.take k)).1 ∧ t = .int .i64 (lens (ps.take k)).2 ∧ Below w.heap.size w wr) (fun _ _ i _ => ps.length - (intOf i).toNat)
  case atStart => exact ⟨0, Nat.zero_le _, rfl, rfl, rfl, Below.refl _ _⟩
  case round =>
    obtain ⟨k, hk, rfl, rfl, rfl, hb⟩ := hrel
    by_cases hlt : k < ps.length
    · have HL : Hid (lens (ps.take (k + 1)) = stepLen (lens (ps.take k)) ps[k]) := lens_take ps k hlt
      rcases hop with rfl | ⟨b, off, rfl, hbs, hcell⟩
      · simp at hlt
      · obtain ⟨c0, c1, c2⟩ := hcell k hlt
        rw [← bcell hb _ _ hbs] at c0 c1 c2
        clear hcell
        have hsz : ps[k].text.size < 9223372036854775807 := hs _ (List.getElem_mem hlt)
        clear hs
        generalize lens (ps.take k) = L at *
        generalize ps[k] = p at *
        obtain ⟨kd, n, tx⟩ := p
        simp only at c0 c1 c2 hsz
        have e1 : kd = 1 ∨ kd = 3 ∨ kd = 2 ∨ (kd ≠ 1 ∧ kd ≠ 3 ∧ kd ≠ 2) := by omega
        rcases e1 with rfl | rfl | rfl | ⟨h1, h3, h2⟩
        · go_wp2
          go_roundw
          case rel => exact ⟨k + 1, hlt, by go_num, by rw [HL.out]; rfl, by rw [HL.out]; rfl, hb.alloc hb.size _⟩
          case measure => simp [intOf]; omega
        · go_wp2
          go_roundw
          case rel => exact ⟨k + 1, hlt, by go_num, by rw [HL.out]; rfl, by rw [HL.out]; rfl, hb.alloc hb.size _⟩
          case measure => simp [intOf]; omega
        · go_wp2_with (go_at_call 23; refine (count_any _ _ hsz).mono ?_; rintro e w' ⟨rfl, hb'⟩)
          go_roundw
          case rel => exact ⟨k + 1, hlt, by go_num, by rw [HL.out]; rfl, by rw [HL.out]; rfl, (hb.alloc hb.size _).trans (hb'.mono (by have := hb.size; simp; omega))⟩
          case measure => simp [intOf]; omega
        · have g1 : (kd == 1) = false := by simp; omega
          have g2 : (kd == 2) = false := by simp; omega
          have g3 : (kd == 3) = false := by simp; omega
          have E : Hid (stepLen L ⟨kd, n, tx⟩ = L) := by show stepLen L ⟨kd, n, tx⟩ = L; simp [stepLen, h1, h2, h3]
          clear h1 h2 h3
          go_wp2
          go_roundw
          case rel => exact ⟨k + 1, hlt, by go_num, by rw [HL.out, E.out], by rw [HL.out, E.out], hb.alloc hb.size _⟩
          case measure => simp [intOf]; omega
    · go_wp2
      go_ret2
      have e : k = ps.length := by omega
      subst e
      rw [List.take_length]
      exact ⟨rfl, hb⟩

end Go.Proofs.YtodnocplljkjnaaDoor

/- '[]rune(s)' in memory. -/
namespace Go.Proofs.YtodnocplljkjnaaDoor
open Go.RowKit

/-- What '[]rune(s)' lays: the runes, then zeros up to the capacity. -/
def runeRow (s : ByteArray) (cap : Nat) : Array Value := ((runes s).map fun r => Value.int .i32 (Int.ofNat r)).toArray ++ Array.replicate (cap - (runes s).length) (.int .i32 0)

/-- '[]rune(s)': the walk's fact: a slice as long as the text has runes, in new memory. -/
theorem conv_runes (s : ByteArray) (hs : s.size ≤ 70368744177664) (w : World) :
    (convert 9 40 (.string s)).run Tryd.prog w = .ok (.slice (some ⟨w.heap.size, 0, none⟩) (runes s).length (grownCap w (runes s).length 0 21))
      (w.drew.alloc (.cells (runeRow s (grownCap w (runes s).length 0 21)) 21)) := by
  have h := run_runes_of_string (P := Tryd.prog) w 9 40 21 s Tryd.underlying9 Tryd.underlying40 Tryd.underlying21 (by rw [runesFrom_size]; have := runes_le s; omega)
  rw [runesFrom_size] at h
  have e : Conv.runesFrom s s.size 0 #[] = ((runes s).map fun r => Value.int .i32 (Int.ofNat r)).toArray := by
    apply Array.ext'
    rw [runesFrom_eq]
    simp [runes]
  rw [e] at h
  exact h

theorem runeRow_get (s : ByteArray) (cap j : Nat) (h : j < (runes s).length) : (runeRow s cap)[j]? = some (.int .i32 ((runes s)[j] : Int)) := by
  unfold runeRow
  rw [Array.getElem?_append_left (by simpa using h)]
  simp [h]

end Go.Proofs.YtodnocplljkjnaaDoor
