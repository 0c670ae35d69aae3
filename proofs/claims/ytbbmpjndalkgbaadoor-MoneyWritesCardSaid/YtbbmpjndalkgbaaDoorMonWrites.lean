/-
  The walk of the law MoneyWrites.
-/
import Derived.Test.YtbbmpjndalkgbaaDoorMonRdy
namespace Go.Proofs.YtbbmpjndalkgbaaDoor
open Go.RowKit
set_option linter.unusedVariables false

set_option maxRecDepth 100000 in
set_option maxHeartbeats 4000000 in
theorem walk_moneyWrites (a0 : Int) (w0 : (Lit.int .i64 a0).wf = true) (a1 : Int) (w1 : (Lit.int .i64 a1).wf = true) (w : World) (hw : Rdy w) :
    Calls Tryd.prog 9 #[.int .i64 a0, .int .i64 a1] w fun e w' => e = .returned (.bool true) ∧ Below w.heap.size w w' := by
  have c0 := int_bd w0
  have c1 := int_bd w1
  clear w0 w1
  have R0 := Lib.hid hw; clear hw
  have ham := fun W => amount_any a0 W c0.1 c0.2
  have han := fun W => amount_any a1 W c1.1 c1.2
  have hbd := amount_bd a0
  have hbe := amount_bd a1
  generalize a0 % 2000000000000001 - 1000000000000000 = a at *
  generalize a1 % 2000000000000001 - 1000000000000000 = b at *
  have hra : Mo.rt a = true := (Mo.rt_iff a).2 hbd
  have hrb : Mo.rt b = true := (Mo.rt_iff b).2 hbe
  have q1 := fun W hW => text_is a (Mo.tx a) W hW (by rw [Mo.txV, Mo.txE, hra]; exact ⟨rfl, rfl⟩)
  have q2 := fun W hW => text_is b (Mo.tx b) W hW (by rw [Mo.txV, Mo.txE, hrb]; exact ⟨rfl, rfl⟩)
  have la := Mo.tx_len a hra
  have lb := Mo.tx_len b hrb
  have q3 := fun W hW => read_is (Mo.tx a) a 0 W hW (by omega) (.inl ⟨rfl, hra, rfl⟩)
  have heq := Mo.tx_eq a b hra hrb
  have hor := Mo.tx_order a b
  have A0 := Lib.hid ham; have A1 := Lib.hid han
  have Q1 := Lib.hid q1; have Q2 := Lib.hid q2; have Q3 := Lib.hid q3
  generalize Mo.tx a = s at *
  generalize Mo.tx b = t at *
  have hx : ((s == t) = true ∧ (a == b) = true) ∨ ((s == t) = false ∧ (a == b) = false) := by
    by_cases c : a = b
    · exact .inl ⟨by rw [heq]; exact decide_eq_true c, by rw [beq_iff_eq]; exact c⟩
    · exact .inr ⟨by rw [heq]; exact decide_eq_false c, by rw [beq_eq_false_iff_ne]; exact c⟩
  have HO := Lib.hid hor
  clear q1 q2 q3 ham han heq hor hra hrb c0 c1
  obtain ⟨a0', a1'⟩ := hbd
  obtain ⟨b0', b1'⟩ := hbe
  rcases hx with ⟨x1', x2'⟩ | ⟨x1', x2'⟩
  all_goals
    go_enter Tryd.func9, Tryd.ntmps9
    go_wp2_with (first
      | (go_at_call 11; refine (awake_any _ R0.out).mono ?_; rintro e x1 ⟨rfl, hb⟩; have R1 := Lib.hid (R0.out.below hb); have B1 := Lib.hid hb; clear hb)
      | (go_at_call 13; (with_reducible refine (A0.out _).mono ?_); rintro e w' ⟨rfl, rfl⟩)
      | (go_at_call 13; (with_reducible refine (A1.out _).mono ?_); rintro e w' ⟨rfl, rfl⟩)
      | (go_at_call 21; (with_reducible refine (Q1.out _ R1.out.p10).mono ?_); rintro e x2 ⟨rfl, hb⟩; have R2 := Lib.hid (R1.out.below hb); have B2 := Lib.hid (B1.out.trans (hb.mono B1.out.size)); clear hb)
      | (go_at_call 21; (with_reducible refine (Q2.out _ R2.out.p10).mono ?_); rintro e x3 ⟨rfl, hb⟩; have R3 := Lib.hid (R2.out.below hb); have B3 := Lib.hid (B2.out.trans (hb.mono B2.out.size)); clear hb)
      | (go_at_call 22; (with_reducible refine (Q3.out _ R3.out).mono ?_); rintro e x4 ⟨rfl, hb⟩; have B4 := Lib.hid (B3.out.trans (hb.mono B3.out.size)); clear hb))
    all_goals
      go_ret
      first
        | exact ⟨rfl, B4.out⟩
        | exact ⟨ret_bool (by rw [HO.out (by omega) (by omega) (by omega)]; simp), B4.out⟩

end Go.Proofs.YtbbmpjndalkgbaaDoor
