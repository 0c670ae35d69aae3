/-
  The listed tables are what civil's contracts ask.
-/
import Derived.Test.YtmlniggmknjneaaDoorLaid
import Derived.Test.YtmlniggmknjneaaDoorCivAwake
namespace Go.Proofs.YtmlniggmknjneaaDoor
open Go.RowKit
set_option linter.unusedVariables false

theorem rdy_of {W : World} (h : Lib.TabIs Tryd.prog W "math/bits.deBruijn32tab" .u8 tab_math_bits_deBruijn32tab ∧ Lib.TabIs Tryd.prog W "math/bits.deBruijn64tab" .u8 tab_math_bits_deBruijn64tab ∧ Lib.TabIs Tryd.prog W "internal/strconv.uint64pow10" .u64 tab_internal_strconv_uint64pow10 ∧ Lib.TabIs Tryd.prog W "letterbag/civil.daysAhead" .i64 tab_letterbag_civil_daysAhead) : Rdy W := by
  obtain ⟨_, _, h3, h4⟩ := h
  refine ⟨fun k hk => ?_, ?_⟩
  · rw [h4.cell g_letterbag_civil_daysAhead k (by exact hk)]
    have : ∀ k : Nat, k < 13 → tab_letterbag_civil_daysAhead.getD k 0 = Cv.tab (k + 1) := by decide
    rw [this k hk]
  · rw [show Lib.pow10Tab = tab_internal_strconv_uint64pow10 by decide]; exact h3

/-- an int is of 64 bits -/
theorem int_bd {a : Int} (h : (Lit.int .i64 a).wf = true) : -9223372036854775808 ≤ a ∧ a ≤ 9223372036854775807 := by
  simp [Lit.wf, IntKind.min, IntKind.max, IntKind.signed, IntKind.bits] at h
  omega

/-- a slice of integers that came in -/
def IsRow (k : IntKind) (w : World) (a : Option Addr) (len cap : Nat) (zs : List Int) : Prop :=
  (a = none ∧ len = 0 ∧ cap = 0 ∧ zs = []) ∨
  ∃ x, a = some x ∧ len ≤ cap ∧ cap ≤ maxLen ∧ zs.length = cap ∧ (∀ i, i < zs.length → w.cell? (x.add i) = some (.int k (zs.getD i 0))) ∧ ∀ n ∈ zs, (Lit.int k n).wf = true

end Go.Proofs.YtmlniggmknjneaaDoor
