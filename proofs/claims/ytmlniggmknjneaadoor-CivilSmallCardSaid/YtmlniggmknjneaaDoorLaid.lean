/-
  What the listed tables hold when a call begins, and a world in which they do.
-/
import Derived.Test.YtmlniggmknjneaaDoorRows
import Derived.WalkKit
import Derived.ProofKit
import Derived.OpenShut
import Derived.Deep.DeepHandedRow
import Derived.Lib.LaidTab
import Derived.LaidLaws
import Derived.Stop.LaidErr
namespace Go.Proofs.YtmlniggmknjneaaDoor
open Go.ChangeShapes Go.WideShapes Go.ChangeAt Go.RowKit
set_option linter.unusedVariables false
set_option maxRecDepth 100000
theorem own : ownKnob Tryd.prog.godebug = none := by kernel_rfl
theorem laidOut : laidOutB Tryd.prog = true := by kernel_rfl
/-- the numbers of math/bits.deBruijn32tab -/
def tab_math_bits_deBruijn32tab : List Int := [0, 1, 28, 2, 29, 14, 24, 3, 30, 22, 20, 15, 25, 17, 4, 8, 31, 27, 13, 23, 21, 19, 16, 7, 26, 12, 18, 6, 11, 5, 10, 9]
theorem g_math_bits_deBruijn32tab : Tryd.prog.globalNamed "math/bits.deBruijn32tab" = some 3 := by kernel_rfl
theorem gt_math_bits_deBruijn32tab : (Tryd.prog.globals[3]?).map (fun g => g.type) = some 123 := by kernel_rfl
theorem gc_math_bits_deBruijn32tab : Tryd.prog.cellsOf 123 = 32 := by kernel_rfl
theorem gce_5 : Tryd.prog.cellsOf 5 = 1 := by kernel_rfl
/-- the numbers of math/bits.deBruijn64tab -/
def tab_math_bits_deBruijn64tab : List Int := [0, 1, 56, 2, 57, 49, 28, 3, 61, 58, 42, 50, 38, 29, 17, 4, 62, 47, 59, 36, 45, 43, 51, 22, 53, 39, 33, 30, 24, 18, 12, 5, 63, 55, 48, 27, 60, 41, 37, 16, 46, 35, 44, 21, 52, 32, 23, 11, 54, 26, 40, 15, 34, 20, 31, 10, 25, 14, 19, 9, 13, 8, 7, 6]
theorem g_math_bits_deBruijn64tab : Tryd.prog.globalNamed "math/bits.deBruijn64tab" = some 4 := by kernel_rfl
theorem gt_math_bits_deBruijn64tab : (Tryd.prog.globals[4]?).map (fun g => g.type) = some 124 := by kernel_rfl
theorem gc_math_bits_deBruijn64tab : Tryd.prog.cellsOf 124 = 64 := by kernel_rfl
/-- the numbers of internal/strconv.uint64pow10 -/
def tab_internal_strconv_uint64pow10 : List Int := [1, 10, 100, 1000, 10000, 100000, 1000000, 10000000, 100000000, 1000000000, 10000000000, 100000000000, 1000000000000, 10000000000000, 100000000000000, 1000000000000000, 10000000000000000, 100000000000000000, 1000000000000000000, 10000000000000000000]
theorem g_internal_strconv_uint64pow10 : Tryd.prog.globalNamed "internal/strconv.uint64pow10" = some 1 := by kernel_rfl
theorem gt_internal_strconv_uint64pow10 : (Tryd.prog.globals[1]?).map (fun g => g.type) = some 119 := by kernel_rfl
theorem gc_internal_strconv_uint64pow10 : Tryd.prog.cellsOf 119 = 20 := by kernel_rfl
theorem gce_106 : Tryd.prog.cellsOf 106 = 1 := by kernel_rfl
/-- the numbers of letterbag/civil.daysAhead -/
def tab_letterbag_civil_daysAhead : List Int := [0, 31, 59, 90, 120, 151, 181, 212, 243, 273, 304, 334, 365]
theorem g_letterbag_civil_daysAhead : Tryd.prog.globalNamed "letterbag/civil.daysAhead" = some 0 := by kernel_rfl
theorem gt_letterbag_civil_daysAhead : (Tryd.prog.globals[0]?).map (fun g => g.type) = some 82 := by kernel_rfl
theorem gc_letterbag_civil_daysAhead : Tryd.prog.cellsOf 82 = 13 := by kernel_rfl
theorem gce_3 : Tryd.prog.cellsOf 3 = 1 := by kernel_rfl
/-- what list 0 gives -/
theorem tabs0 {W : World} (h : laidMet Tryd.prog [("math/bits.deBruijn32tab", Rows.laid_math_bits_deBruijn32tab), ("math/bits.deBruijn64tab", Rows.laid_math_bits_deBruijn64tab), ("internal/strconv.uint64pow10", Rows.laid_internal_strconv_uint64pow10), ("letterbag/civil.daysAhead", Rows.laid_letterbag_civil_daysAhead)] W) :
    Lib.TabIs Tryd.prog W "math/bits.deBruijn32tab" .u8 tab_math_bits_deBruijn32tab ∧ Lib.TabIs Tryd.prog W "math/bits.deBruijn64tab" .u8 tab_math_bits_deBruijn64tab ∧ Lib.TabIs Tryd.prog W "internal/strconv.uint64pow10" .u64 tab_internal_strconv_uint64pow10 ∧ Lib.TabIs Tryd.prog W "letterbag/civil.daysAhead" .i64 tab_letterbag_civil_daysAhead :=
  ⟨Lib.tabIs_of_head (k := .u8) (zs := tab_math_bits_deBruijn32tab) g_math_bits_deBruijn32tab gt_math_bits_deBruijn32tab Tryd.underlying123 Tryd.underlying5 gce_5 gc_math_bits_deBruijn32tab h,
   Lib.tabIs_of_head (k := .u8) (zs := tab_math_bits_deBruijn64tab) g_math_bits_deBruijn64tab gt_math_bits_deBruijn64tab Tryd.underlying124 Tryd.underlying5 gce_5 gc_math_bits_deBruijn64tab (laidMet.tail h),
   Lib.tabIs_of_head (k := .u64) (zs := tab_internal_strconv_uint64pow10) g_internal_strconv_uint64pow10 gt_internal_strconv_uint64pow10 Tryd.underlying119 Tryd.underlying106 gce_106 gc_internal_strconv_uint64pow10 (laidMet.tail (laidMet.tail h)),
   Lib.tabIs_of_head (k := .i64) (zs := tab_letterbag_civil_daysAhead) g_letterbag_civil_daysAhead gt_letterbag_civil_daysAhead Tryd.underlying82 Tryd.underlying3 gce_3 gc_letterbag_civil_daysAhead (laidMet.tail (laidMet.tail (laidMet.tail h)))⟩
/-- a world in which the tables of list 0 lie -/
noncomputable def laidWorld0 (os : Os) : World :=
  { World.holding Tryd.prog os ⟨#[], #[], []⟩ with heap := (((((World.holding Tryd.prog os ⟨#[], #[], []⟩).heap.modify 3 fun o => match o with
      | .cells _ t frozen => .cells #[.int .u8 0, .int .u8 1, .int .u8 28, .int .u8 2, .int .u8 29, .int .u8 14, .int .u8 24, .int .u8 3, .int .u8 30, .int .u8 22, .int .u8 20, .int .u8 15, .int .u8 25, .int .u8 17, .int .u8 4, .int .u8 8, .int .u8 31, .int .u8 27, .int .u8 13, .int .u8 23, .int .u8 21, .int .u8 19, .int .u8 16, .int .u8 7, .int .u8 26, .int .u8 12, .int .u8 18, .int .u8 6, .int .u8 11, .int .u8 5, .int .u8 10, .int .u8 9] t frozen
      | o => o).modify 4 fun o => match o with
      | .cells _ t frozen => .cells #[.int .u8 0, .int .u8 1, .int .u8 56, .int .u8 2, .int .u8 57, .int .u8 49, .int .u8 28, .int .u8 3, .int .u8 61, .int .u8 58, .int .u8 42, .int .u8 50, .int .u8 38, .int .u8 29, .int .u8 17, .int .u8 4, .int .u8 62, .int .u8 47, .int .u8 59, .int .u8 36, .int .u8 45, .int .u8 43, .int .u8 51, .int .u8 22, .int .u8 53, .int .u8 39, .int .u8 33, .int .u8 30, .int .u8 24, .int .u8 18, .int .u8 12, .int .u8 5, .int .u8 63, .int .u8 55, .int .u8 48, .int .u8 27, .int .u8 60, .int .u8 41, .int .u8 37, .int .u8 16, .int .u8 46, .int .u8 35, .int .u8 44, .int .u8 21, .int .u8 52, .int .u8 32, .int .u8 23, .int .u8 11, .int .u8 54, .int .u8 26, .int .u8 40, .int .u8 15, .int .u8 34, .int .u8 20, .int .u8 31, .int .u8 10, .int .u8 25, .int .u8 14, .int .u8 19, .int .u8 9, .int .u8 13, .int .u8 8, .int .u8 7, .int .u8 6] t frozen
      | o => o).modify 1 fun o => match o with
      | .cells _ t frozen => .cells #[.int .u64 1, .int .u64 10, .int .u64 100, .int .u64 1000, .int .u64 10000, .int .u64 100000, .int .u64 1000000, .int .u64 10000000, .int .u64 100000000, .int .u64 1000000000, .int .u64 10000000000, .int .u64 100000000000, .int .u64 1000000000000, .int .u64 10000000000000, .int .u64 100000000000000, .int .u64 1000000000000000, .int .u64 10000000000000000, .int .u64 100000000000000000, .int .u64 1000000000000000000, .int .u64 10000000000000000000] t frozen
      | o => o).modify 0 fun o => match o with
      | .cells _ t frozen => .cells #[.int .i64 0, .int .i64 31, .int .i64 59, .int .i64 90, .int .i64 120, .int .i64 151, .int .i64 181, .int .i64 212, .int .i64 243, .int .i64 273, .int .i64 304, .int .i64 334, .int .i64 365] t frozen
      | o => o) }
end Go.Proofs.YtmlniggmknjneaaDoor
