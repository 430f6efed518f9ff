/-
  Walks: wire.reader: number in any state, text, part.
-/
import Derived.Test.YtknjnfknalfbdaaDoorWireNum
import Derived.Laws.BytesArg
namespace Go.Proofs.YtknjnfknalfbdaaDoor
open Go.RowKit Go.Lib

/-- a reading, if nothing was wrong ahead -/
def andR {α : Type} (st : Except Int (List Nat)) (p : List Nat → Except Int (α × List Nat)) : Except Int (α × List Nat) := match st with
  | .ok l => p l
  | .error e => .error e

set_option maxRecDepth 100000 in
set_option maxHeartbeats 1000000 in
theorem number_bad (w : World) (B b : Nat) (l : List Nat) (er : Int) (he : er ≠ 0) (h : RdAt w B b l er) :
    Calls Tryd.prog 133 #[.pointer (some ⟨b, 0, none⟩)] w fun r w' => r = .returned (.int .i64 0) ∧ RdAt w' B b l er ∧ Chg (fun k => k = b) w w' := by
  go_enter Tryd.func133, Tryd.ntmps133
  go_wp2_with fail
  go_loopw [3, 6] (fun n i wr => i = .int .i64 0 ∧ n = .int .i64 0 ∧ wr = w) (fun _ i _ => 4 - (RowKit.intOf i).toNat)
  case atStart => exact ⟨rfl, rfl, rfl⟩
  case round =>
    obtain ⟨rfl, rfl, rfl⟩ := hrel
    have cT := take_none wr B b l er 1 (.inl he) h
    rw [if_neg he] at cT
    go_wp2_with fail
    refine cT.mono ?_
    rintro r w1 ⟨rfl, hr1, hc1⟩
    go_wp2_with fail
    go_ret
    exact ⟨rfl, hr1, hc1⟩

theorem number_any (w : World) (B b : Nat) (st : Except Int (List Nat)) (h : RdSt w B b st) :
    Calls Tryd.prog 133 #[.pointer (some ⟨b, 0, none⟩)] w fun r w' => ∃ n : Nat, r = .returned (.int .i64 (n : Int)) ∧ n < 268435456 ∧ RdSt w' B b (rest (andR st numP)) ∧ (∀ x, andR st numP = .ok x → x.1 = n) ∧ Chg (fun k => k = b) w w' := by
  cases h with
  | ok h => exact number_ok w B b _ h
  | bad he h =>
    refine (number_bad w B b _ _ he h).mono ?_
    rintro r w' ⟨rfl, h', hc⟩
    exact ⟨0, rfl, by omega, .bad he h', fun x hx => (by cases hx), hc⟩

/-- bytes as a text -/
def bstr (l : List Nat) : ByteArray := strOfNums (l.map fun n : Nat => (n : Int))
theorem bstr_nil : bstr [] = ByteArray.empty := by
  simp [bstr, strOfNums, ByteArray.empty, ByteArray.emptyWithCapacity]
  rfl
theorem bstr_size (l : List Nat) : (bstr l).size = l.length := by unfold bstr; rw [strOfNums_size, List.length_map]
/-- P3.4: a text, read -/
def textP (l : List Nat) : Except Int (ByteArray × List Nat) := match numP l with
  | .ok x => if x.1 ≤ x.2.length then .ok (bstr (x.2.take x.1), x.2.drop x.1) else .error 5
  | .error e => .error e

theorem conv_oct {w : World} {B b : Nat} {a : Option Addr} {l : List Nat} (h : Oct w B b a l) (c : Nat) : (convert 75 9 (.slice a l.length c)).run Tryd.prog w = .ok (.string (bstr l)) w := by
  have hnil : ∀ a, (convert 75 9 (.slice a 0 c)).run Tryd.prog w = .ok (.string (bstr [])) w := fun a => by
    cases a with
    | none => rw [bstr_nil]; exact run_convert_bytes_nil w 75 5 Tryd.underlying75 Tryd.underlying5 0 c 9 Tryd.underlying9
    | some ad => 
      rw [run_convert_bytes_string w 75 9 5 _ 0 c Tryd.underlying75 Tryd.underlying5 Tryd.underlying9]
      rw [run_bytesToString w ad 0 c [] (by simp [loadCells]; rfl), bstr_nil]
      rfl
  rcases h with rfl | ⟨g, off, rfl, _, _, hc⟩
  · exact hnil a
  · refine run_convert_bytes_arg w 75 5 Tryd.underlying75 Tryd.underlying5 g off l.length c (l.map fun n : Nat => (n : Int)) (by simp) (fun i hi => ?_) 9 Tryd.underlying9
    rw [hc i hi]
    simp [List.getD, hi]

set_option maxRecDepth 100000 in
set_option maxHeartbeats 1000000 in
theorem rtext_any (w : World) (B b : Nat) (st : Except Int (List Nat)) (h : RdSt w B b st) :
    Calls Tryd.prog 141 #[.pointer (some ⟨b, 0, none⟩)] w fun r w' => ∃ s : ByteArray, r = .returned (.string s) ∧ RdSt w' B b (rest (andR st textP)) ∧ (∀ x, andR st textP = .ok x → x.1 = s) ∧ s.size ≤ 1000000 ∧ Chg (fun k => k = b) w w' := by
  have cN := number_any w B b st h
  have key : andR st textP = match andR st numP with | .ok x => if x.1 ≤ x.2.length then .ok (bstr (x.2.take x.1), x.2.drop x.1) else .error 5 | .error e => .error e := by cases st <;> rfl
  obtain ⟨R2, hR2⟩ : ∃ R2, R2 = andR st textP := ⟨_, rfl⟩
  rw [← hR2]
  have HK : Hid (R2 = match andR st numP with | .ok x => if x.1 ≤ x.2.length then .ok (bstr (x.2.take x.1), x.2.drop x.1) else .error 5 | .error e => .error e) := hR2.trans key
  clear key hR2
  generalize andR st numP = R at *
  go_enter Tryd.func141, Tryd.ntmps141
  go_wp2_with fail
  refine cN.mono ?_
  rintro r w1 ⟨n, rfl, hn, hst, hx, hc1⟩
  clear cN h
  match R, hst, hx, HK with
  | .ok (m, l'), .ok hr, hx, HK =>
    obtain rfl : m = n := hx _ rfl
    by_cases hm : m ≤ l'.length
    · have HN : Hid (R2 = .ok (bstr (l'.take m), l'.drop m)) := by show _ = _; rw [HK.out]; simp [hm]
      clear HK
      have cT := take_some w1 B b l' m hm hr
      have hml := hr.many
      go_wp2_with fail
      refine cT.mono ?_
      rintro r w2 ⟨a, c, rfl, hcc, ho, hr2, hc2⟩
      have hl : (l'.take m).length = m := by rw [List.length_take]; omega
      have hcv := conv_oct ho c
      rw [hl] at hcv
      go_wp2_with fail
      go_ret
      rw [HN.out]
      exact ⟨_, rfl, .ok hr2, fun x hx => (by cases hx; rfl), by rw [bstr_size, hl]; omega, hc1.trans hc2 (fun _ _ h => h)⟩
    · have HN : Hid (R2 = .error 5) := by show _ = _; rw [HK.out]; simp [hm]
      clear HK
      have cT := take_none w1 B b l' 0 (m : Int) (.inr (by omega)) hr
      rw [if_pos rfl] at cT
      have hcv := fun (w2 : World) => conv_oct (w := w2) (B := B) (b := b) (a := none) (l := []) (.inl rfl) 0
      simp only [List.length_nil] at hcv
      go_wp2_with fail
      refine cT.mono ?_
      rintro r w2 ⟨rfl, hr2, hc2⟩
      go_wp2_with fail
      go_ret
      rw [HN.out]
      exact ⟨_, rfl, .bad (by decide) hr2, fun x hx => (by cases hx), by rw [bstr_size]; simp, hc1.trans hc2 (fun _ _ h => h)⟩
  | .error e, .bad (l := l') he hr, hx, HK =>
    have HN : Hid (R2 = .error e) := HK
    clear HK
    have cT := take_none w1 B b l' e (n : Int) (.inl he) hr
    rw [if_neg he] at cT
    have hcv := fun (w2 : World) => conv_oct (w := w2) (B := B) (b := b) (a := none) (l := []) (.inl rfl) 0
    simp only [List.length_nil] at hcv
    go_wp2_with fail
    refine cT.mono ?_
    rintro r w2 ⟨rfl, hr2, hc2⟩
    go_wp2_with fail
    go_ret
    rw [HN.out]
    exact ⟨_, rfl, .bad he hr2, fun x hx => (by cases hx), by rw [bstr_size]; simp, hc1.trans hc2 (fun _ _ h => h)⟩

end Go.Proofs.YtknjnfknalfbdaaDoor
