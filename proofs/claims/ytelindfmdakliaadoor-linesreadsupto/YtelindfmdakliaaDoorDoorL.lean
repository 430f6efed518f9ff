/-
  The rows that list the tables that lines.Show reaches: that the tables are met; a world for the witness.
-/
import Derived.Test.YtelindfmdakliaaDoorDoor
import Derived.Test.YtelindfmdakliaaDoorOpen
import Derived.Test.YtelindfmdakliaaDoorLineP
namespace Go.Proofs.YtelindfmdakliaaDoor
open Go.ChangeShapes Go.WideShapes Go.ChangeAt Go.RowKit Go.Lib

theorem pow_eq : (Rows.laid_internal_strconv_uint64pow10 : DataW Unit) = tabData .u64 pow10Tab := by kernel_rfl
theorem words_eq : (Rows.laid_wherry_lines_words : DataW Unit) = .agg (wordB.map fun l => .lit (.string l)) := by kernel_rfl
theorem pow_of {W : World} (h : VarReads Tryd.prog W "internal/strconv.uint64pow10" (tabData .u64 pow10Tab)) : Lib.TabIs Tryd.prog W "internal/strconv.uint64pow10" .u64 Lib.pow10Tab := by
  obtain ⟨g, t, cs, fuel, p, hg, hty, hvar, hd⟩ := h
  obtain rfl := Option.some.inj ((show Tryd.prog.globalNamed "internal/strconv.uint64pow10" = some 4 by kernel_rfl).symm.trans hg)
  obtain rfl := Option.some.inj ((show (Tryd.prog.globals[4]?).map (·.type) = some 131 by kernel_rfl).symm.trans hty)
  unfold Lib.TabIs
  rw [hvar, ← cells_of_tab Tryd.underlying131 Tryd.underlying116 (by kernel_rfl) (by kernel_rfl) hd]
theorem words_of {W : World} (h : VarReads Tryd.prog W "wherry/lines.words" (.agg (wordB.map fun l => .lit (.string l)))) : ∃ cs, W.var? Tryd.prog "wherry/lines.words" = some cs ∧ ∀ k, k < 10 → ∃ l, wordB[k]? = some l ∧ cs[k]? = some (.string ⟨l.toArray⟩) := by
  obtain ⟨g, t, cs, fuel, p, hg, hty, hvar, hd⟩ := h
  obtain rfl := Option.some.inj ((show Tryd.prog.globalNamed "wherry/lines.words" = some 0 by kernel_rfl).symm.trans hg)
  obtain rfl := Option.some.inj ((show (Tryd.prog.globals[0]?).map (·.type) = some 70 by kernel_rfl).symm.trans hty)
  refine ⟨cs, hvar, fun k hk => ?_⟩
  obtain ⟨f', d, q, h1, h2⟩ := array_elem Tryd.underlying70 hd k hk
  rw [cells_string, Nat.mul_one] at h2
  obtain ⟨s, hs, hx, _⟩ := DataW.trod_string Tryd.underlying9 h2
  rw [List.getElem?_map] at h1
  obtain ⟨l, hl, hd'⟩ := Option.map_eq_some_iff.1 h1
  refine ⟨l, hl, ?_⟩
  have he : (DataW.lit (.string l) : DataW Unit) = .lit (.string s.data.toList) := hd'.trans (congrArg Prod.fst hx)
  injection he with he
  injection he with he
  have hsl : s = ⟨l.toArray⟩ := by
    rw [he]
  have := congrArg (·[0]?) hs
  simp only [List.getElem?_take, List.getElem?_drop] at this
  simpa [hsl] using this

/-- What the rows' list gives. -/
theorem ltabs_of {W : World} (h : laidMetH Tryd.prog [("math/bits.deBruijn32tab", Rows.laid_math_bits_deBruijn32tab), ("math/bits.deBruijn64tab", Rows.laid_math_bits_deBruijn64tab), ("internal/strconv.uint64pow10", Rows.laid_internal_strconv_uint64pow10), ("unicode/utf8.acceptRanges", Rows.laid_unicode_utf8_acceptRanges), ("wherry/lines.words", Rows.laid_wherry_lines_words), ("unicode/utf8.first", Rows.laid_unicode_utf8_first)] W) : LTabs W := by
  have h' : laidMet Tryd.prog [("math/bits.deBruijn32tab", Rows.laid_math_bits_deBruijn32tab), ("math/bits.deBruijn64tab", Rows.laid_math_bits_deBruijn64tab), ("internal/strconv.uint64pow10", tabData .u64 pow10Tab), ("unicode/utf8.acceptRanges", acceptData), ("wherry/lines.words", .agg (wordB.map fun l => .lit (.string l))), ("unicode/utf8.first", firstData)] W := by
    rw [← accept_eq, ← first_eq, ← pow_eq, ← words_eq]
    exact h
  exact ⟨utf8Tabs_of_readsT (U8Types.of196 Tryd.laysValid) ⟨by kernel_rfl, by kernel_rfl, by kernel_rfl, by kernel_rfl, by kernel_rfl, by kernel_rfl, by kernel_rfl⟩ (Lib.laidMet.reads h' (.tail _ (.tail _ (.tail _ (.tail _ (.tail _ (.head _))))))) (Lib.laidMet.reads h' (.tail _ (.tail _ (.tail _ (.head _))))),
    pow_of (Lib.laidMet.reads h' (.tail _ (.tail _ (.head _)))), words_of (Lib.laidMet.reads h' (.tail _ (.tail _ (.tail _ (.tail _ (.head _))))))⟩

/-- the bytes of the two tables that count noughts -/
def bruin32 : List Int := [0, 1, 28, 2, 29, 14, 24, 3, 30, 22, 20, 15, 25, 17, 4, 8, 31, 27, 13, 23, 21, 19, 16, 7, 26, 12, 18, 6, 11, 5, 10, 9]
def bruin64 : List Int := [0, 1, 56, 2, 57, 49, 28, 3, 61, 58, 42, 50, 38, 29, 17, 4, 62, 47, 59, 36, 45, 43, 51, 22, 53, 39, 33, 30, 24, 18, 12, 5, 63, 55, 48, 27, 60, 41, 37, 16, 46, 35, 44, 21, 52, 32, 23, 11, 54, 26, 40, 15, 34, 20, 31, 10, 25, 14, 19, 9, 13, 8, 7, 6]
def laidHeapL (h : Array Obj) : Array Obj :=
  ((((laidHeap h).modify (7) fun
    | .cells _ t frozen => .cells (bruin32.map fun z => Value.int .u8 z).toArray t frozen
    | o => o).modify (8) fun
    | .cells _ t frozen => .cells (bruin64.map fun z => Value.int .u8 z).toArray t frozen
    | o => o).modify (4) fun
    | .cells _ t frozen => .cells (Lib.pow10Tab.map fun z => Value.int .u64 z).toArray t frozen
    | o => o).modify (0) fun
    | .cells _ t frozen => .cells (wordB.map fun l => Value.string ⟨l.toArray⟩).toArray t frozen
    | o => o

set_option maxRecDepth 100000 in
theorem laid_metL (os : Os) (args : Array Value) : laidMet Tryd.prog [("math/bits.deBruijn32tab", Rows.laid_math_bits_deBruijn32tab), ("math/bits.deBruijn64tab", Rows.laid_math_bits_deBruijn64tab), ("internal/strconv.uint64pow10", Rows.laid_internal_strconv_uint64pow10), ("unicode/utf8.acceptRanges", Rows.laid_unicode_utf8_acceptRanges), ("wherry/lines.words", Rows.laid_wherry_lines_words), ("unicode/utf8.first", Rows.laid_unicode_utf8_first)] ((({ World.holding Tryd.prog os ⟨#[], #[], []⟩ with heap := laidHeapL (World.holding Tryd.prog os ⟨#[], #[], []⟩).heap } : World)).forCall (fun _ _ => 0) ⟨#[], args, []⟩).memory :=
  (LaidIn.of_run (l := [("math/bits.deBruijn32tab", Rows.laid_math_bits_deBruijn32tab), ("math/bits.deBruijn64tab", Rows.laid_math_bits_deBruijn64tab), ("internal/strconv.uint64pow10", Rows.laid_internal_strconv_uint64pow10), ("unicode/utf8.acceptRanges", Rows.laid_unicode_utf8_acceptRanges), ("wherry/lines.words", Rows.laid_wherry_lines_words), ("unicode/utf8.first", Rows.laid_unicode_utf8_first)]) [7, 8, 4, 2, 3, 0] 8 (by kernel_rfl) (by kernel_rfl) (by kernel_rfl) (by kernel_rfl)).met

end Go.Proofs.YtelindfmdakliaaDoor
