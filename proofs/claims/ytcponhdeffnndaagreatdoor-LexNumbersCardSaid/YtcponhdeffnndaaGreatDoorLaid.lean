/-
  What the listed variables hold when a call begins, and a world in which they do.
-/
import Derived.Test.YtcponhdeffnndaaGreatDoorRows
import Derived.WalkKit
import Derived.ProofKit
import Derived.OpenShut
import Derived.Deep.DeepHandedRow
import Derived.Lib.LaidTab
import Derived.LaidLaws
import Derived.Stop.LaidErr
import Derived.Lay
import Derived.MakeChecks
namespace Go.Proofs.YtcponhdeffnndaaGreatDoor
open Go.ChangeShapes Go.WideShapes Go.ChangeAt Go.RowKit
set_option linter.unusedVariables false
set_option maxRecDepth 100000
theorem own : ownKnob Tryz.prog.godebug = none := by kernel_rfl
theorem laidOut : laidOutB Tryz.prog = true := by kernel_rfl
/-- the numbers of math/bits.deBruijn32tab -/
def tab_math_bits_deBruijn32tab : List Int := [0, 1, 28, 2, 29, 14, 24, 3, 30, 22, 20, 15, 25, 17, 4, 8, 31, 27, 13, 23, 21, 19, 16, 7, 26, 12, 18, 6, 11, 5, 10, 9]
theorem g_math_bits_deBruijn32tab : Tryz.prog.globalNamed "math/bits.deBruijn32tab" = some 10 := by kernel_rfl
theorem gt_math_bits_deBruijn32tab : (Tryz.prog.globals[10]?).map (fun g => g.type) = some 426 := by kernel_rfl
theorem gc_math_bits_deBruijn32tab : Tryz.prog.cellsOf 426 = 32 := by kernel_rfl
theorem gce_5 : Tryz.prog.cellsOf 5 = 1 := by kernel_rfl
/-- the numbers of math/bits.deBruijn64tab -/
def tab_math_bits_deBruijn64tab : List Int := [0, 1, 56, 2, 57, 49, 28, 3, 61, 58, 42, 50, 38, 29, 17, 4, 62, 47, 59, 36, 45, 43, 51, 22, 53, 39, 33, 30, 24, 18, 12, 5, 63, 55, 48, 27, 60, 41, 37, 16, 46, 35, 44, 21, 52, 32, 23, 11, 54, 26, 40, 15, 34, 20, 31, 10, 25, 14, 19, 9, 13, 8, 7, 6]
theorem g_math_bits_deBruijn64tab : Tryz.prog.globalNamed "math/bits.deBruijn64tab" = some 11 := by kernel_rfl
theorem gt_math_bits_deBruijn64tab : (Tryz.prog.globals[11]?).map (fun g => g.type) = some 427 := by kernel_rfl
theorem gc_math_bits_deBruijn64tab : Tryz.prog.cellsOf 427 = 64 := by kernel_rfl
/-- the numbers of internal/strconv.uint64pow10 -/
def tab_internal_strconv_uint64pow10 : List Int := [1, 10, 100, 1000, 10000, 100000, 1000000, 10000000, 100000000, 1000000000, 10000000000, 100000000000, 1000000000000, 10000000000000, 100000000000000, 1000000000000000, 10000000000000000, 100000000000000000, 1000000000000000000, 10000000000000000000]
theorem g_internal_strconv_uint64pow10 : Tryz.prog.globalNamed "internal/strconv.uint64pow10" = some 9 := by kernel_rfl
theorem gt_internal_strconv_uint64pow10 : (Tryz.prog.globals[9]?).map (fun g => g.type) = some 421 := by kernel_rfl
theorem gc_internal_strconv_uint64pow10 : Tryz.prog.cellsOf 421 = 20 := by kernel_rfl
theorem gce_352 : Tryz.prog.cellsOf 352 = 1 := by kernel_rfl
theorem g_strconv_ErrRange : Tryz.prog.globalNamed "strconv.ErrRange" = some 8 := by kernel_rfl
theorem gt_strconv_ErrRange : (Tryz.prog.globals[8]?).map (fun g => g.type) = some 123 := by kernel_rfl
theorem estar : "*errors.errorString" = "*" ++ "errors.errorString" := by decide
theorem erow (u : TypeId) (h : Tryz.prog.typeName? 3 u = some "*errors.errorString") : u = 411 :=
  typeName_ptr_named (nm := "errors.errorString") (by rw [← estar]; kernel_rfl) (by kernel_rfl) (by decide) u (by rw [← estar]; exact h)
theorem ecell : Tryz.prog.cellsOf 413 = 1 := by kernel_rfl
theorem scell : Tryz.prog.cellsOf 9 = 1 := by kernel_rfl
theorem g_strconv_ErrSyntax : Tryz.prog.globalNamed "strconv.ErrSyntax" = some 7 := by kernel_rfl
theorem gt_strconv_ErrSyntax : (Tryz.prog.globals[7]?).map (fun g => g.type) = some 123 := by kernel_rfl
/-- the numbers of strings.asciiSpace -/
def tab_strings_asciiSpace : List Int := [0, 0, 0, 0, 0, 0, 0, 0, 0, 1, 1, 1, 1, 1, 0, 0, 0, 0, 0, 0, 0, 0, 0, 0, 0, 0, 0, 0, 0, 0, 0, 0, 1, 0, 0, 0, 0, 0, 0, 0, 0, 0, 0, 0, 0, 0, 0, 0, 0, 0, 0, 0, 0, 0, 0, 0, 0, 0, 0, 0, 0, 0, 0, 0, 0, 0, 0, 0, 0, 0, 0, 0, 0, 0, 0, 0, 0, 0, 0, 0, 0, 0, 0, 0, 0, 0, 0, 0, 0, 0, 0, 0, 0, 0, 0, 0, 0, 0, 0, 0, 0, 0, 0, 0, 0, 0, 0, 0, 0, 0, 0, 0, 0, 0, 0, 0, 0, 0, 0, 0, 0, 0, 0, 0, 0, 0, 0, 0, 0, 0, 0, 0, 0, 0, 0, 0, 0, 0, 0, 0, 0, 0, 0, 0, 0, 0, 0, 0, 0, 0, 0, 0, 0, 0, 0, 0, 0, 0, 0, 0, 0, 0, 0, 0, 0, 0, 0, 0, 0, 0, 0, 0, 0, 0, 0, 0, 0, 0, 0, 0, 0, 0, 0, 0, 0, 0, 0, 0, 0, 0, 0, 0, 0, 0, 0, 0, 0, 0, 0, 0, 0, 0, 0, 0, 0, 0, 0, 0, 0, 0, 0, 0, 0, 0, 0, 0, 0, 0, 0, 0, 0, 0, 0, 0, 0, 0, 0, 0, 0, 0, 0, 0, 0, 0, 0, 0, 0, 0, 0, 0, 0, 0, 0, 0, 0, 0, 0, 0, 0, 0, 0, 0, 0, 0, 0, 0]
theorem g_strings_asciiSpace : Tryz.prog.globalNamed "strings.asciiSpace" = some 0 := by kernel_rfl
theorem gt_strings_asciiSpace : (Tryz.prog.globals[0]?).map (fun g => g.type) = some 195 := by kernel_rfl
theorem gc_strings_asciiSpace : Tryz.prog.cellsOf 195 = 256 := by kernel_rfl
/-- what list 0 gives: all of it (rdy_of opens it) -/
theorem tabs0 {W : World} (hL : laidMetH Tryz.prog [("math/bits.deBruijn32tab", Rows.laid_math_bits_deBruijn32tab), ("math/bits.deBruijn64tab", Rows.laid_math_bits_deBruijn64tab), ("internal/strconv.uint64pow10", Rows.laid_internal_strconv_uint64pow10), ("unicode/utf8.acceptRanges", Rows.laid_unicode_utf8_acceptRanges), ("strconv.ErrRange", Rows.laid_strconv_ErrRange), ("strconv.ErrSyntax", Rows.laid_strconv_ErrSyntax), ("letterbag/fold.latin", Rows.laid_letterbag_fold_latin), ("letterbag/fold.rows", Rows.laid_letterbag_fold_rows), ("unicode/utf8.first", Rows.laid_unicode_utf8_first)] W) : laidMetH Tryz.prog [("math/bits.deBruijn32tab", Rows.laid_math_bits_deBruijn32tab), ("math/bits.deBruijn64tab", Rows.laid_math_bits_deBruijn64tab), ("internal/strconv.uint64pow10", Rows.laid_internal_strconv_uint64pow10), ("unicode/utf8.acceptRanges", Rows.laid_unicode_utf8_acceptRanges), ("strconv.ErrRange", Rows.laid_strconv_ErrRange), ("strconv.ErrSyntax", Rows.laid_strconv_ErrSyntax), ("letterbag/fold.latin", Rows.laid_letterbag_fold_latin), ("letterbag/fold.rows", Rows.laid_letterbag_fold_rows), ("unicode/utf8.first", Rows.laid_unicode_utf8_first)] W := hL
/-- a world in which the variables of list 0 lie -/
noncomputable def laidWorld0 (os : Os) : World := World.laidAll Tryz.prog os [("math/bits.deBruijn32tab", Rows.laid_math_bits_deBruijn32tab), ("math/bits.deBruijn64tab", Rows.laid_math_bits_deBruijn64tab), ("internal/strconv.uint64pow10", Rows.laid_internal_strconv_uint64pow10), ("unicode/utf8.acceptRanges", Rows.laid_unicode_utf8_acceptRanges), ("strconv.ErrRange", Rows.laid_strconv_ErrRange), ("strconv.ErrSyntax", Rows.laid_strconv_ErrSyntax), ("letterbag/fold.latin", Rows.laid_letterbag_fold_latin), ("letterbag/fold.rows", Rows.laid_letterbag_fold_rows), ("unicode/utf8.first", Rows.laid_unicode_utf8_first)]
theorem laidWorld0_os (os : Os) : (laidWorld0 os).os = os := World.laidAll_os _ _ _
theorem laidWorld0_met (os : Os) (args : Array Value) : laidMetH Tryz.prog [("math/bits.deBruijn32tab", Rows.laid_math_bits_deBruijn32tab), ("math/bits.deBruijn64tab", Rows.laid_math_bits_deBruijn64tab), ("internal/strconv.uint64pow10", Rows.laid_internal_strconv_uint64pow10), ("unicode/utf8.acceptRanges", Rows.laid_unicode_utf8_acceptRanges), ("strconv.ErrRange", Rows.laid_strconv_ErrRange), ("strconv.ErrSyntax", Rows.laid_strconv_ErrSyntax), ("letterbag/fold.latin", Rows.laid_letterbag_fold_latin), ("letterbag/fold.rows", Rows.laid_letterbag_fold_rows), ("unicode/utf8.first", Rows.laid_unicode_utf8_first)] ((laidWorld0 os).forCall (fun _ _ => 0) ⟨#[], args, []⟩).memory := by
  rw [MakeChecks.laidMetH_plain _ _ _ (by kernel_rfl)]
  exact laidMet_laidAll _ (by kernel_rfl) (by kernel_rfl)
/-- what list 1 gives: all of it (rdy_of opens it) -/
theorem tabs1 {W : World} (hL : laidMetH Tryz.prog [("math/bits.deBruijn32tab", Rows.laid_math_bits_deBruijn32tab), ("math/bits.deBruijn64tab", Rows.laid_math_bits_deBruijn64tab), ("internal/strconv.uint64pow10", Rows.laid_internal_strconv_uint64pow10), ("unicode/utf8.acceptRanges", Rows.laid_unicode_utf8_acceptRanges), ("strconv.ErrRange", Rows.laid_strconv_ErrRange), ("strconv.ErrSyntax", Rows.laid_strconv_ErrSyntax), ("unicode.White_Space", Rows.laid_unicode_White_Space), ("strings.asciiSpace", Rows.laid_strings_asciiSpace), ("letterbag/fold.latin", Rows.laid_letterbag_fold_latin), ("letterbag/fold.rows", Rows.laid_letterbag_fold_rows), ("unicode/utf8.first", Rows.laid_unicode_utf8_first)] W) : laidMetH Tryz.prog [("math/bits.deBruijn32tab", Rows.laid_math_bits_deBruijn32tab), ("math/bits.deBruijn64tab", Rows.laid_math_bits_deBruijn64tab), ("internal/strconv.uint64pow10", Rows.laid_internal_strconv_uint64pow10), ("unicode/utf8.acceptRanges", Rows.laid_unicode_utf8_acceptRanges), ("strconv.ErrRange", Rows.laid_strconv_ErrRange), ("strconv.ErrSyntax", Rows.laid_strconv_ErrSyntax), ("unicode.White_Space", Rows.laid_unicode_White_Space), ("strings.asciiSpace", Rows.laid_strings_asciiSpace), ("letterbag/fold.latin", Rows.laid_letterbag_fold_latin), ("letterbag/fold.rows", Rows.laid_letterbag_fold_rows), ("unicode/utf8.first", Rows.laid_unicode_utf8_first)] W := hL
/-- a world in which the variables of list 1 lie -/
noncomputable def laidWorld1 (os : Os) : World := World.laidAll Tryz.prog os [("math/bits.deBruijn32tab", Rows.laid_math_bits_deBruijn32tab), ("math/bits.deBruijn64tab", Rows.laid_math_bits_deBruijn64tab), ("internal/strconv.uint64pow10", Rows.laid_internal_strconv_uint64pow10), ("unicode/utf8.acceptRanges", Rows.laid_unicode_utf8_acceptRanges), ("strconv.ErrRange", Rows.laid_strconv_ErrRange), ("strconv.ErrSyntax", Rows.laid_strconv_ErrSyntax), ("unicode.White_Space", Rows.laid_unicode_White_Space), ("strings.asciiSpace", Rows.laid_strings_asciiSpace), ("letterbag/fold.latin", Rows.laid_letterbag_fold_latin), ("letterbag/fold.rows", Rows.laid_letterbag_fold_rows), ("unicode/utf8.first", Rows.laid_unicode_utf8_first)]
theorem laidWorld1_os (os : Os) : (laidWorld1 os).os = os := World.laidAll_os _ _ _
theorem laidWorld1_met (os : Os) (args : Array Value) : laidMetH Tryz.prog [("math/bits.deBruijn32tab", Rows.laid_math_bits_deBruijn32tab), ("math/bits.deBruijn64tab", Rows.laid_math_bits_deBruijn64tab), ("internal/strconv.uint64pow10", Rows.laid_internal_strconv_uint64pow10), ("unicode/utf8.acceptRanges", Rows.laid_unicode_utf8_acceptRanges), ("strconv.ErrRange", Rows.laid_strconv_ErrRange), ("strconv.ErrSyntax", Rows.laid_strconv_ErrSyntax), ("unicode.White_Space", Rows.laid_unicode_White_Space), ("strings.asciiSpace", Rows.laid_strings_asciiSpace), ("letterbag/fold.latin", Rows.laid_letterbag_fold_latin), ("letterbag/fold.rows", Rows.laid_letterbag_fold_rows), ("unicode/utf8.first", Rows.laid_unicode_utf8_first)] ((laidWorld1 os).forCall (fun _ _ => 0) ⟨#[], args, []⟩).memory := by
  rw [MakeChecks.laidMetH_plain _ _ _ (by kernel_rfl)]
  exact laidMet_laidAll _ (by kernel_rfl) (by kernel_rfl)
end Go.Proofs.YtcponhdeffnndaaGreatDoor
