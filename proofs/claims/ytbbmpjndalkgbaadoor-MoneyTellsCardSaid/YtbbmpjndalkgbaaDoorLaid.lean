/-
  What the listed variables hold when a call begins, and a world in which they do.
-/
import Derived.Test.YtbbmpjndalkgbaaDoorRows
import Derived.WalkKit
import Derived.ProofKit
import Derived.OpenShut
import Derived.Deep.DeepHandedRow
import Derived.Lib.LaidTab
import Derived.LaidLaws
import Derived.Stop.LaidErr
import Derived.Lay
import Derived.MakeChecks
namespace Go.Proofs.YtbbmpjndalkgbaaDoor
open Go.ChangeShapes Go.WideShapes Go.ChangeAt Go.RowKit
set_option linter.unusedVariables false
set_option maxRecDepth 100000
theorem own : ownKnob Tryd.prog.godebug = none := by kernel_rfl
theorem laidOut : laidOutB Tryd.prog = true := by kernel_rfl
/-- the numbers of math/bits.deBruijn32tab -/
def tab_math_bits_deBruijn32tab : List Int := [0, 1, 28, 2, 29, 14, 24, 3, 30, 22, 20, 15, 25, 17, 4, 8, 31, 27, 13, 23, 21, 19, 16, 7, 26, 12, 18, 6, 11, 5, 10, 9]
theorem g_math_bits_deBruijn32tab : Tryd.prog.globalNamed "math/bits.deBruijn32tab" = some 6 := by kernel_rfl
theorem gt_math_bits_deBruijn32tab : (Tryd.prog.globals[6]?).map (fun g => g.type) = some 128 := by kernel_rfl
theorem gc_math_bits_deBruijn32tab : Tryd.prog.cellsOf 128 = 32 := by kernel_rfl
theorem gce_5 : Tryd.prog.cellsOf 5 = 1 := by kernel_rfl
/-- the numbers of math/bits.deBruijn64tab -/
def tab_math_bits_deBruijn64tab : List Int := [0, 1, 56, 2, 57, 49, 28, 3, 61, 58, 42, 50, 38, 29, 17, 4, 62, 47, 59, 36, 45, 43, 51, 22, 53, 39, 33, 30, 24, 18, 12, 5, 63, 55, 48, 27, 60, 41, 37, 16, 46, 35, 44, 21, 52, 32, 23, 11, 54, 26, 40, 15, 34, 20, 31, 10, 25, 14, 19, 9, 13, 8, 7, 6]
theorem g_math_bits_deBruijn64tab : Tryd.prog.globalNamed "math/bits.deBruijn64tab" = some 7 := by kernel_rfl
theorem gt_math_bits_deBruijn64tab : (Tryd.prog.globals[7]?).map (fun g => g.type) = some 129 := by kernel_rfl
theorem gc_math_bits_deBruijn64tab : Tryd.prog.cellsOf 129 = 64 := by kernel_rfl
/-- the numbers of internal/strconv.uint64pow10 -/
def tab_internal_strconv_uint64pow10 : List Int := [1, 10, 100, 1000, 10000, 100000, 1000000, 10000000, 100000000, 1000000000, 10000000000, 100000000000, 1000000000000, 10000000000000, 100000000000000, 1000000000000000, 10000000000000000, 100000000000000000, 1000000000000000000, 10000000000000000000]
theorem g_internal_strconv_uint64pow10 : Tryd.prog.globalNamed "internal/strconv.uint64pow10" = some 5 := by kernel_rfl
theorem gt_internal_strconv_uint64pow10 : (Tryd.prog.globals[5]?).map (fun g => g.type) = some 117 := by kernel_rfl
theorem gc_internal_strconv_uint64pow10 : Tryd.prog.cellsOf 117 = 20 := by kernel_rfl
theorem gce_33 : Tryd.prog.cellsOf 33 = 1 := by kernel_rfl
theorem g_strconv_ErrRange : Tryd.prog.globalNamed "strconv.ErrRange" = some 1 := by kernel_rfl
theorem gt_strconv_ErrRange : (Tryd.prog.globals[1]?).map (fun g => g.type) = some 73 := by kernel_rfl
theorem estar : "*errors.errorString" = "*" ++ "errors.errorString" := by decide
theorem erow (u : TypeId) (h : Tryd.prog.typeName? 3 u = some "*errors.errorString") : u = 122 :=
  typeName_ptr_named (nm := "errors.errorString") (by rw [← estar]; kernel_rfl) (by kernel_rfl) (by decide) u (by rw [← estar]; exact h)
theorem ecell : Tryd.prog.cellsOf 124 = 1 := by kernel_rfl
theorem scell : Tryd.prog.cellsOf 9 = 1 := by kernel_rfl
theorem g_strconv_ErrSyntax : Tryd.prog.globalNamed "strconv.ErrSyntax" = some 0 := by kernel_rfl
theorem gt_strconv_ErrSyntax : (Tryd.prog.globals[0]?).map (fun g => g.type) = some 73 := by kernel_rfl
/-- what list 0 gives -/
theorem tabs0 {W : World} (hL : laidMetH Tryd.prog [("math/bits.deBruijn32tab", Rows.laid_math_bits_deBruijn32tab), ("math/bits.deBruijn64tab", Rows.laid_math_bits_deBruijn64tab), ("internal/strconv.uint64pow10", Rows.laid_internal_strconv_uint64pow10), ("unicode/utf8.acceptRanges", Rows.laid_unicode_utf8_acceptRanges), ("strconv.ErrRange", Rows.laid_strconv_ErrRange), ("strconv.ErrSyntax", Rows.laid_strconv_ErrSyntax), ("unicode/utf8.first", Rows.laid_unicode_utf8_first)] W) :
    Lib.TabIs Tryd.prog W "math/bits.deBruijn32tab" .u8 tab_math_bits_deBruijn32tab ∧ Lib.TabIs Tryd.prog W "math/bits.deBruijn64tab" .u8 tab_math_bits_deBruijn64tab ∧ Lib.TabIs Tryd.prog W "internal/strconv.uint64pow10" .u64 tab_internal_strconv_uint64pow10 ∧ (∃ te pe, W.cell? ⟨1, 0, none⟩ = some (.iface te pe)) ∧ (∃ te pe, W.cell? ⟨0, 0, none⟩ = some (.iface te pe)) := by
  rw [MakeChecks.laidMetH_plain _ _ _ (by kernel_rfl)] at hL
  have h := hL
  exact ⟨Lib.tabIs_of_head (k := .u8) (zs := tab_math_bits_deBruijn32tab) g_math_bits_deBruijn32tab gt_math_bits_deBruijn32tab Tryd.underlying128 Tryd.underlying5 gce_5 gc_math_bits_deBruijn32tab h,
   Lib.tabIs_of_head (k := .u8) (zs := tab_math_bits_deBruijn64tab) g_math_bits_deBruijn64tab gt_math_bits_deBruijn64tab Tryd.underlying129 Tryd.underlying5 gce_5 gc_math_bits_deBruijn64tab (laidMet.tail h),
   Lib.tabIs_of_head (k := .u64) (zs := tab_internal_strconv_uint64pow10) g_internal_strconv_uint64pow10 gt_internal_strconv_uint64pow10 Tryd.underlying117 Tryd.underlying33 gce_33 gc_internal_strconv_uint64pow10 (laidMet.tail (laidMet.tail h)),
   (by obtain ⟨a, s, hv, -⟩ := laid_sentinel (laidMet.tail (laidMet.tail (laidMet.tail (laidMet.tail h)))) g_strconv_ErrRange gt_strconv_ErrRange Tryd.underlying73 erow Tryd.underlying122 Tryd.underlying124 rfl rfl Tryd.underlying9 ecell scell; exact ⟨_, _, by have h0 := World.var?_cell g_strconv_ErrRange hv 0; simpa using h0⟩),
   (by obtain ⟨a, s, hv, -⟩ := laid_sentinel (laidMet.tail (laidMet.tail (laidMet.tail (laidMet.tail (laidMet.tail h))))) g_strconv_ErrSyntax gt_strconv_ErrSyntax Tryd.underlying73 erow Tryd.underlying122 Tryd.underlying124 rfl rfl Tryd.underlying9 ecell scell; exact ⟨_, _, by have h0 := World.var?_cell g_strconv_ErrSyntax hv 0; simpa using h0⟩)⟩
/-- a world in which the variables of list 0 lie -/
noncomputable def laidWorld0 (os : Os) : World := World.laidAll Tryd.prog os [("math/bits.deBruijn32tab", Rows.laid_math_bits_deBruijn32tab), ("math/bits.deBruijn64tab", Rows.laid_math_bits_deBruijn64tab), ("internal/strconv.uint64pow10", Rows.laid_internal_strconv_uint64pow10), ("unicode/utf8.acceptRanges", Rows.laid_unicode_utf8_acceptRanges), ("strconv.ErrRange", Rows.laid_strconv_ErrRange), ("strconv.ErrSyntax", Rows.laid_strconv_ErrSyntax), ("unicode/utf8.first", Rows.laid_unicode_utf8_first)]
theorem laidWorld0_os (os : Os) : (laidWorld0 os).os = os := World.laidAll_os _ _ _
theorem laidWorld0_met (os : Os) (args : Array Value) : laidMetH Tryd.prog [("math/bits.deBruijn32tab", Rows.laid_math_bits_deBruijn32tab), ("math/bits.deBruijn64tab", Rows.laid_math_bits_deBruijn64tab), ("internal/strconv.uint64pow10", Rows.laid_internal_strconv_uint64pow10), ("unicode/utf8.acceptRanges", Rows.laid_unicode_utf8_acceptRanges), ("strconv.ErrRange", Rows.laid_strconv_ErrRange), ("strconv.ErrSyntax", Rows.laid_strconv_ErrSyntax), ("unicode/utf8.first", Rows.laid_unicode_utf8_first)] ((laidWorld0 os).forCall (fun _ _ => 0) ⟨#[], args, []⟩).memory := by
  rw [MakeChecks.laidMetH_plain _ _ _ (by kernel_rfl)]
  exact laidMet_laidAll _ (by kernel_rfl) (by kernel_rfl)
end Go.Proofs.YtbbmpjndalkgbaaDoor
