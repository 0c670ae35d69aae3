/-
  The listed variables are what the contracts ask.
-/
import Derived.Test.YtcponhdeffnndaaGreatDoorRows
import Derived.Test.YtcponhdeffnndaaGreatDoorFolTabs
namespace Go.Proofs.YtcponhdeffnndaaGreatDoor
open Go.RowKit
set_option linter.unusedVariables false

set_option maxRecDepth 100000 in
theorem rdy_of {W : World} (hL : laidMetH Tryz.prog [("math/bits.deBruijn32tab", Rows.laid_math_bits_deBruijn32tab), ("math/bits.deBruijn64tab", Rows.laid_math_bits_deBruijn64tab), ("internal/strconv.uint64pow10", Rows.laid_internal_strconv_uint64pow10), ("unicode/utf8.acceptRanges", Rows.laid_unicode_utf8_acceptRanges), ("strconv.ErrRange", Rows.laid_strconv_ErrRange), ("strconv.ErrSyntax", Rows.laid_strconv_ErrSyntax), ("letterbag/fold.latin", Rows.laid_letterbag_fold_latin), ("letterbag/fold.rows", Rows.laid_letterbag_fold_rows), ("unicode/utf8.first", Rows.laid_unicode_utf8_first)] W) : Rdy W := by
  rw [MakeChecks.laidMetH_plain _ _ _ (by kernel_rfl)] at hL
  have hL := laidMet.tail (laidMet.tail (laidMet.tail (laidMet.tail (laidMet.tail (laidMet.tail hL)))))
  have hL2 := laidMet.tail hL
  obtain ⟨enc, base, sp, held, fuel, cs, p, hv, hd⟩ := head_var g_lat gt_lat hL
  obtain ⟨enc2, base2, sp2, held2, fuel2, cs2, p2, hv2, hd2⟩ := head_var g_row gt_row hL2
  have e1 : cs = latinT.map strV := strs_of Tryz.underlying402 Tryz.underlying9 cStr cLat hd
  have e2 : cs2 = Fo.T.flatMap rowCells := rows_of Tryz.underlying206 Tryz.underlying143 cRow cRows Tryz.underlying5 Tryz.underlying9 cU8 cStr rfl rfl rfl rfl rfl rfl hd2
  rw [e1] at hv
  rw [e2] at hv2
  exact ⟨var_block g_lat hv, var_block g_row hv2⟩
end Go.Proofs.YtcponhdeffnndaaGreatDoor
