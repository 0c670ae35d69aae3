/-
  The reference's Cost at any arguments; the law's costs.
-/
import Derived.Test.YtdbkgchekhgbkaaEdiRefCost
namespace Go.Proofs.Ytdbkgchekhgbkaa
open Go.RowKit Go.Shelf
set_option linter.unusedVariables false
set_option linter.unusedSimpArgs false

set_option maxRecDepth 100000 in
set_option maxHeartbeats 4000000 in
theorem refCost_long (A : Option Addr) (len cap : Nat) (c : Ed.Cst) (w : World) (hc : c.ok) (h120 : 120 < len) :
    Calls Try.prog 10 #[.slice A len cap, cstV c] w fun e w' => e = .returned (.tuple #[.int .i64 0, .int .i64 3]) ∧ Below w.heap.size w w' := by
  obtain ⟨W1, hW1, hb1, hq1, hcb⟩ := cboxR w c
  have rt := fun V => refRight_any c V
  have hr : ∀ V, Calls Try.prog 21 #[cstV c] V fun e w' => e = .returned (.bool true) ∧ Below V.heap.size V w' := fun V => (rt V).mono fun e w' ⟨h1, h2⟩ => ⟨by rw [h1, decide_eq_true hc], h2⟩
  unfold cstV at hr ⊢
  have L0 := Lib.hid (show LS w W1 w.heap.size c from ⟨hb1, hcb⟩)
  have HR := Lib.hid hr
  obtain ⟨q0, q1, q2, q3⟩ := hcb
  have i2 : decide ((120 : Int) < (len : Int)) = true := decide_eq_true (by omega)
  clear hr rt hb1 hc h120
  go_enter Try.func10, Try.ntmps10
  go_wp2_with fail
  rw [← hW1]
  clear hW1
  go_wp2_with (go_at_call 21; (with_reducible refine (HR.out _).mono ?_); rintro e V2 ⟨rfl, hb⟩; have L2 := Lib.hid (L0.out.next hb); clear hb q0 q1 q2 q3)
  go_ret2
  exact ⟨rfl, L2.out.bel⟩
set_option maxRecDepth 100000 in
set_option maxHeartbeats 4000000 in
theorem refCost_bad (A : Option Addr) (len cap : Nat) (c : Ed.Cst) (w : World) (hc : ¬ c.ok) :
    Calls Try.prog 10 #[.slice A len cap, cstV c] w fun e w' => e = .returned (.tuple #[.int .i64 0, .int .i64 2]) ∧ Below w.heap.size w w' := by
  obtain ⟨W1, hW1, hb1, hq1, hcb⟩ := cboxR w c
  have rt := fun V => refRight_any c V
  have hr : ∀ V, Calls Try.prog 21 #[cstV c] V fun e w' => e = .returned (.bool false) ∧ Below V.heap.size V w' := fun V => (rt V).mono fun e w' ⟨h1, h2⟩ => ⟨by rw [h1, decide_eq_false hc], h2⟩
  unfold cstV at hr ⊢
  have L0 := Lib.hid (show LS w W1 w.heap.size c from ⟨hb1, hcb⟩)
  have HR := Lib.hid hr
  obtain ⟨q0, q1, q2, q3⟩ := hcb
  clear hr rt hb1 hc
  go_enter Try.func10, Try.ntmps10
  go_wp2_with fail
  rw [← hW1]
  clear hW1
  go_wp2_with (go_at_call 21; (with_reducible refine (HR.out _).mono ?_); rintro e V2 ⟨rfl, hb⟩; have L2 := Lib.hid (L0.out.next hb); clear hb q0 q1 q2 q3)
  go_ret2
  exact ⟨rfl, L2.out.bel⟩
theorem refCost_any (A : Option Addr) (len cap : Nat) (l : List (Nat × Nat)) (c : Ed.Cst) (w : World) (hl : l.length = len) (hrd : RdO w A l) : Calls Try.prog 10 #[.slice A len cap, cstV c] w (PostC c l w) := by
  unfold PostC costR costE
  by_cases hc : c.ok
  · rw [if_pos hc, if_pos hc]
    by_cases h : 120 < l.length
    · rw [if_pos h, if_pos h]; exact refCost_long A len cap c w hc (by omega)
    · rw [if_neg h, if_neg h]; exact refCost_in A len cap l c w hc hl (by omega) hrd
  · rw [if_neg hc, if_neg hc]; exact refCost_bad A len cap c w hc

set_option maxRecDepth 100000 in
theorem costs_any (c : Ed.Cst) (w : World) : Calls Try.prog 11 #[cstV c] w fun e w' => e = .returned (cstV c) ∧ Below w.heap.size w w' := by
  unfold cstV
  go_enter Try.func11, Try.ntmps11
  go_wp2
  have hb := (below_new w (.cells #[.int .i64 c.ins, .int .i64 c.del, .int .i64 c.chg, .int .i64 c.swp] 24)).alloc (below_new w _).size (.cells #[.int .i64 c.ins, .int .i64 c.del, .int .i64 c.chg, .int .i64 c.swp] 38)
  have hh := heap_alloc_new (w.alloc (.cells #[.int .i64 c.ins, .int .i64 c.del, .int .i64 c.chg, .int .i64 c.swp] 24)) (.cells #[.int .i64 c.ins, .int .i64 c.del, .int .i64 c.chg, .int .i64 c.swp] 38)
  refine bodyPost_ret (results_cell_row (fn := Try.f11) (p := 2) (ty := 38) rfl _ _ (w.heap.size + 1) 38 _ (0, 0) _ (by first | rfl | simp) (by simpa using hh) Try.underlying38 rfl (by kernel_rfl)) rfl ⟨rfl, by first | exact hb | simpa using hb⟩
end Go.Proofs.Ytdbkgchekhgbkaa
