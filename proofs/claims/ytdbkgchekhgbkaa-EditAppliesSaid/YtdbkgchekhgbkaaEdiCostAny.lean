/-
  Cost at any arguments.
-/
import Derived.Test.YtdbkgchekhgbkaaEdiCostAll
namespace Go.Proofs.Ytdbkgchekhgbkaa
open Go.RowKit Go.Shelf
set_option linter.unusedVariables false
set_option linter.unusedSimpArgs false

def costR (c : Ed.Cst) (l : List (Nat × Nat)) : Int := if c.ok then if 120 < l.length then 0 else if kok l = true then Ed.price c l else 0 else 0
def costE (c : Ed.Cst) (l : List (Nat × Nat)) : Int := if c.ok then if 120 < l.length then 3 else if kok l = true then 0 else 60 else 2
def PostC (c : Ed.Cst) (l : List (Nat × Nat)) (w : World) (e : Ending) (w' : World) : Prop := e = .returned (.tuple #[.int .i64 (costR c l), .int .i64 (costE c l)]) ∧ Below w.heap.size w w'
set_option maxRecDepth 100000 in
set_option maxHeartbeats 4000000 in
theorem cost_long (A : Option Addr) (len cap : Nat) (c : Ed.Cst) (w : World) (hc : c.ok) (h120 : 120 < len) :
    Calls Try.prog 9 #[.slice A len cap, cstV c] w fun e w' => e = .returned (.tuple #[.int .i64 0, .int .i64 3]) ∧ Below w.heap.size w w' := by
  obtain ⟨W1, hW1, hb1, hq1, hcb⟩ := cbox w c
  have rt := fun V => right_any c V
  have hr : ∀ V, Calls Try.prog 19 #[cstV c] V fun e w' => e = .returned (.bool true) ∧ Below V.heap.size V w' := fun V => (rt V).mono fun e w' ⟨h1, h2⟩ => ⟨by rw [h1, decide_eq_true hc], h2⟩
  unfold cstV at hr ⊢
  have L0 := Lib.hid (show LS w W1 w.heap.size c from ⟨hb1, hcb⟩)
  have HR := Lib.hid hr
  obtain ⟨q0, q1, q2, q3⟩ := hcb
  have i2 : decide ((120 : Int) < (len : Int)) = true := decide_eq_true (by omega)
  clear hr rt hb1 hc h120
  go_enter Try.func9, Try.ntmps9
  go_wp2_with fail
  rw [← hW1]
  clear hW1
  go_wp2_with (go_at_call 19; (with_reducible refine (HR.out _).mono ?_); rintro e V2 ⟨rfl, hb⟩; have L2 := Lib.hid (L0.out.next hb); clear hb q0 q1 q2 q3)
  go_ret2
  exact ⟨rfl, L2.out.bel⟩
set_option maxRecDepth 100000 in
set_option maxHeartbeats 4000000 in
theorem cost_bad (A : Option Addr) (len cap : Nat) (c : Ed.Cst) (w : World) (hc : ¬ c.ok) :
    Calls Try.prog 9 #[.slice A len cap, cstV c] w fun e w' => e = .returned (.tuple #[.int .i64 0, .int .i64 2]) ∧ Below w.heap.size w w' := by
  obtain ⟨W1, hW1, hb1, hq1, hcb⟩ := cbox w c
  have rt := fun V => right_any c V
  have hr : ∀ V, Calls Try.prog 19 #[cstV c] V fun e w' => e = .returned (.bool false) ∧ Below V.heap.size V w' := fun V => (rt V).mono fun e w' ⟨h1, h2⟩ => ⟨by rw [h1, decide_eq_false hc], h2⟩
  unfold cstV at hr ⊢
  have L0 := Lib.hid (show LS w W1 w.heap.size c from ⟨hb1, hcb⟩)
  have HR := Lib.hid hr
  obtain ⟨q0, q1, q2, q3⟩ := hcb
  clear hr rt hb1 hc
  go_enter Try.func9, Try.ntmps9
  go_wp2_with fail
  rw [← hW1]
  clear hW1
  go_wp2_with (go_at_call 19; (with_reducible refine (HR.out _).mono ?_); rintro e V2 ⟨rfl, hb⟩; have L2 := Lib.hid (L0.out.next hb); clear hb q0 q1 q2 q3)
  go_ret2
  exact ⟨rfl, L2.out.bel⟩
theorem cost_any (A : Option Addr) (len cap : Nat) (l : List (Nat × Nat)) (c : Ed.Cst) (w : World) (hl : l.length = len) (hrd : RdO w A l) : Calls Try.prog 9 #[.slice A len cap, cstV c] w (PostC c l w) := by
  unfold PostC costR costE
  by_cases hc : c.ok
  · rw [if_pos hc, if_pos hc]
    by_cases h : 120 < l.length
    · rw [if_pos h, if_pos h]; exact cost_long A len cap c w hc (by omega)
    · rw [if_neg h, if_neg h]; exact cost_run A len cap l c w hc hl (by omega) hrd
  · rw [if_neg hc, if_neg hc]; exact cost_bad A len cap c w hc

/-- the reference's box of costs -/
theorem cboxR (w : World) (c : Ed.Cst) : ∃ W, W = w.alloc (.cells #[.int .i64 c.ins, .int .i64 c.del, .int .i64 c.chg, .int .i64 c.swp] 38) ∧ Below w.heap.size w W ∧ w.heap.size < W.heap.size ∧ CB W w.heap.size c :=
  ⟨_, rfl, below_new w _, by simp, box4 (heap_alloc_new w _)⟩
set_option maxRecDepth 100000 in
set_option maxHeartbeats 4000000 in
theorem refRight_any (c : Ed.Cst) (w : World) : Calls Try.prog 21 #[cstV c] w (PostB (decide c.ok) w) := by
  have hok : c.ok ↔ 1 ≤ c.ins ∧ c.ins ≤ 1000 ∧ 1 ≤ c.del ∧ c.del ≤ 1000 ∧ 1 ≤ c.chg ∧ c.chg ≤ 1000 ∧ 1 ≤ c.swp ∧ c.swp ≤ 1000 := by
    unfold Ed.Cst.ok
    constructor <;> intro h <;> omega
  unfold cstV
  rcases (show (¬ 1 ≤ c.ins) ∨ (1 ≤ c.ins ∧ ¬ c.ins ≤ 1000) ∨ (1 ≤ c.ins ∧ c.ins ≤ 1000 ∧ ¬ 1 ≤ c.del) ∨ (1 ≤ c.ins ∧ c.ins ≤ 1000 ∧ 1 ≤ c.del ∧ ¬ c.del ≤ 1000) ∨ (1 ≤ c.ins ∧ c.ins ≤ 1000 ∧ 1 ≤ c.del ∧ c.del ≤ 1000 ∧ ¬ 1 ≤ c.chg) ∨ (1 ≤ c.ins ∧ c.ins ≤ 1000 ∧ 1 ≤ c.del ∧ c.del ≤ 1000 ∧ 1 ≤ c.chg ∧ ¬ c.chg ≤ 1000) ∨ (1 ≤ c.ins ∧ c.ins ≤ 1000 ∧ 1 ≤ c.del ∧ c.del ≤ 1000 ∧ 1 ≤ c.chg ∧ c.chg ≤ 1000 ∧ ¬ 1 ≤ c.swp) ∨ (1 ≤ c.ins ∧ c.ins ≤ 1000 ∧ 1 ≤ c.del ∧ c.del ≤ 1000 ∧ 1 ≤ c.chg ∧ c.chg ≤ 1000 ∧ 1 ≤ c.swp ∧ ¬ c.swp ≤ 1000) ∨ (1 ≤ c.ins ∧ c.ins ≤ 1000 ∧ 1 ≤ c.del ∧ c.del ≤ 1000 ∧ 1 ≤ c.chg ∧ c.chg ≤ 1000 ∧ 1 ≤ c.swp ∧ c.swp ≤ 1000) by omega) with an | ⟨a0, an⟩ | ⟨a0, a1, an⟩ | ⟨a0, a1, a2, an⟩ | ⟨a0, a1, a2, a3, an⟩ | ⟨a0, a1, a2, a3, a4, an⟩ | ⟨a0, a1, a2, a3, a4, a5, an⟩ | ⟨a0, a1, a2, a3, a4, a5, a6, an⟩ | ⟨a0, a1, a2, a3, a4, a5, a6, a7⟩
  all_goals
    first
      | rw [decide_eq_false (show ¬ c.ok from fun h => by have := hok.1 h; omega)]
      | rw [decide_eq_true (hok.2 (by omega))]
    clear hok
    go_enter Try.func21, Try.ntmps21
    go_wp2
    go_ret
    exact ⟨rfl, below_new w _⟩
end Go.Proofs.Ytdbkgchekhgbkaa
