/-
  The listed variables are what money's contracts ask; the laws' amounts.
-/
import Derived.Test.YtbbmpjndalkgbaaDoorLaid
import Derived.Test.YtbbmpjndalkgbaaDoorMonAwake
namespace Go.Proofs.YtbbmpjndalkgbaaDoor
open Go.RowKit
set_option linter.unusedVariables false

theorem errAt_of {W : World} {g : Nat} (h : ∃ te pe, W.cell? ⟨g, 0, none⟩ = some (.iface te pe)) : ErrAt W g := by
  obtain ⟨te, pe, hc⟩ := h
  exact ⟨World.block_lt_of_cell? W ⟨g, 0, none⟩ hc, _, hc, .inr ⟨te, pe, rfl⟩⟩
theorem rdy_of {W : World} (h : Lib.TabIs Tryd.prog W "math/bits.deBruijn32tab" .u8 tab_math_bits_deBruijn32tab ∧ Lib.TabIs Tryd.prog W "math/bits.deBruijn64tab" .u8 tab_math_bits_deBruijn64tab ∧ Lib.TabIs Tryd.prog W "internal/strconv.uint64pow10" .u64 tab_internal_strconv_uint64pow10 ∧ (∃ te pe, W.cell? ⟨1, 0, none⟩ = some (.iface te pe)) ∧ (∃ te pe, W.cell? ⟨0, 0, none⟩ = some (.iface te pe))) : Rdy W := by
  obtain ⟨_, _, h3, h4, h5⟩ := h
  exact ⟨by unfold P10; rw [show Lib.pow10Tab = tab_internal_strconv_uint64pow10 by decide]; exact h3, errAt_of h5, errAt_of h4⟩

set_option maxHeartbeats 400000 in
theorem amount_any (x : Int) (w : World) (h0 : -9223372036854775808 ≤ x) (h1 : x ≤ 9223372036854775807) :
    Calls Tryd.prog 13 #[.int .i64 x] w fun e w' => e = .returned (.int .i64 (x % 2000000000000001 - 1000000000000000)) ∧ w = w' := by
  have hp : ∀ W, Calls Tryd.prog 17 #[.int .i64 x, .int .i64 2000000000000001] W fun e w' => e = .returned (.int .i64 (x % 2000000000000001)) ∧ W = w' := fun W => pick_any x _ W (by omega) (by omega)
  have r0 : 0 ≤ x % 2000000000000001 := by omega
  have r1 : x % 2000000000000001 ≤ 2000000000000000 := by omega
  generalize x % 2000000000000001 = r at *
  have HP := Lib.hid hp; clear hp
  go_enter Tryd.func13, Tryd.ntmps13
  go_wp2_with (go_at_call 17; refine (HP.out _).mono ?_; rintro e w' ⟨rfl, rfl⟩)
  go_ret
  exact ⟨ret_int (by omega), rfl⟩
theorem amount_bd (x : Int) : -1000000000000000 ≤ x % 2000000000000001 - 1000000000000000 ∧ x % 2000000000000001 - 1000000000000000 ≤ 1000000000000000 := by omega

end Go.Proofs.YtbbmpjndalkgbaaDoor
