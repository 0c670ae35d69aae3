/-
  What the listed variables hold when a call begins, and a world in which they do.
-/
import Derived.Test.YtoenaehkhdcdmaaDoorRows
import Derived.WalkKit
import Derived.ProofKit
import Derived.OpenShut
import Derived.Deep.DeepHandedRow
import Derived.Lib.LaidTab
import Derived.LaidLaws
import Derived.Stop.LaidErr
import Derived.Lay
import Derived.MakeChecks
namespace Go.Proofs.YtoenaehkhdcdmaaDoor
open Go.ChangeShapes Go.WideShapes Go.ChangeAt Go.RowKit
set_option linter.unusedVariables false
set_option maxRecDepth 100000
theorem own : ownKnob Tryd.prog.godebug = none := by kernel_rfl
theorem laidOut : laidOutB Tryd.prog = true := by kernel_rfl
/-- what list 1 gives: all of it (rdy_of opens it) -/
theorem tabs1 {W : World} (hL : laidMetH Tryd.prog [("letterbag/fold.latin", Rows.laid_letterbag_fold_latin), ("letterbag/fold.rows", Rows.laid_letterbag_fold_rows)] W) : laidMetH Tryd.prog [("letterbag/fold.latin", Rows.laid_letterbag_fold_latin), ("letterbag/fold.rows", Rows.laid_letterbag_fold_rows)] W := hL
/-- a world in which the variables of list 1 lie -/
noncomputable def laidWorld1 (os : Os) : World := World.laidAll Tryd.prog os [("letterbag/fold.latin", Rows.laid_letterbag_fold_latin), ("letterbag/fold.rows", Rows.laid_letterbag_fold_rows)]
theorem laidWorld1_os (os : Os) : (laidWorld1 os).os = os := World.laidAll_os _ _ _
theorem laidWorld1_met (os : Os) (args : Array Value) : laidMetH Tryd.prog [("letterbag/fold.latin", Rows.laid_letterbag_fold_latin), ("letterbag/fold.rows", Rows.laid_letterbag_fold_rows)] ((laidWorld1 os).forCall (fun _ _ => 0) ⟨#[], args, []⟩).memory := by
  rw [MakeChecks.laidMetH_plain _ _ _ (by kernel_rfl)]
  exact laidMet_laidAll _ (by kernel_rfl) (by kernel_rfl)
end Go.Proofs.YtoenaehkhdcdmaaDoor
