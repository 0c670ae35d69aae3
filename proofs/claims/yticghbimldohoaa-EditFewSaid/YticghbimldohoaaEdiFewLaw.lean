/-
  EditFew at any arguments: the law.
-/
import Derived.Test.YticghbimldohoaaEdiFew
namespace Go.Proofs.Yticghbimldohoaa
open Go.RowKit Go.Shelf
set_option linter.unusedVariables false
set_option linter.unusedSimpArgs false

set_option maxRecDepth 100000 in
set_option maxHeartbeats 4000000 in
theorem walk_editFew (a : ByteArray) (wa : a.size ≤ maxLen) (b : ByteArray) (wb : b.size ≤ maxLen) (c : Ed.Cst) (w : World) :
    Calls Try.prog 10 #[.string a, .string b, cstV c] w (PostB true w) := by
  by_cases h1 : a.size ≤ 60
  · by_cases h2 : b.size ≤ 60
    · by_cases hc : c.ok
      · exact few_in a b h1 h2 c hc w
      · obtain ⟨W1, hW1, hb1, hq1, hcb⟩ := cbox w c
        have aw := awake_any W1
        have rt := fun V => right_any c V
        have hr : ∀ V, Calls Try.prog 18 #[cstV c] V fun e w' => e = .returned (.bool false) ∧ Below V.heap.size V w' := fun V => (rt V).mono fun e w' ⟨h1, h2⟩ => ⟨by rw [h1, decide_eq_false hc], h2⟩
        have g1 : decide ((60 : Int) < (a.size : Int)) = false := decide_eq_false (by omega)
        have g2 : decide ((60 : Int) < (b.size : Int)) = false := decide_eq_false (by omega)
        unfold cstV at hr ⊢
        have AW := Lib.hid aw; have L0 := Lib.hid (show LS w W1 w.heap.size c from ⟨hb1, hcb⟩); have HR := Lib.hid hr
        clear hr rt aw hcb hc hb1 h1 h2
        go_enter Try.func10, Try.ntmps10
        go_wp2_with fail
        rw [← hW1]
        clear hW1
        go_wp2_with (first
          | (go_at_call 11; (with_reducible refine AW.out.mono ?_); rintro e V ⟨rfl, hb⟩; have h1 := L0.out.next hb; have L1 := Lib.hid h1; obtain ⟨q0, q1, q2, q3⟩ := h1.cb; clear hb h1)
          | (go_at_call 18; (with_reducible refine (HR.out _).mono ?_); rintro e V2 ⟨rfl, hb⟩; have L2 := Lib.hid (L1.out.next hb); clear hb))
        go_ret
        exact ⟨rfl, L2.out.bel⟩
    · have g1 : decide ((60 : Int) < (a.size : Int)) = false := decide_eq_false (by omega)
      have g2 : decide ((60 : Int) < (b.size : Int)) = true := decide_eq_true (by omega)
      obtain ⟨W1, hW1, hb1, hq1, hcb⟩ := cbox w c
      have aw := awake_any W1
      unfold cstV
      have AW := Lib.hid aw; have L0 := Lib.hid (show LS w W1 w.heap.size c from ⟨hb1, hcb⟩)
      clear aw hcb hb1 h1 h2
      go_enter Try.func10, Try.ntmps10
      go_wp2_with fail
      rw [← hW1]
      clear hW1
      go_wp2_with (go_at_call 11; (with_reducible refine AW.out.mono ?_); rintro e V ⟨rfl, hb⟩; have h1 := L0.out.next hb; have L1 := Lib.hid h1; obtain ⟨q0, q1, q2, q3⟩ := h1.cb; clear hb h1)
      go_ret
      exact ⟨rfl, L1.out.bel⟩
  · have g1 : decide ((60 : Int) < (a.size : Int)) = true := decide_eq_true (by omega)
    obtain ⟨W1, hW1, hb1, hq1, hcb⟩ := cbox w c
    have aw := awake_any W1
    unfold cstV
    have AW := Lib.hid aw; have L0 := Lib.hid (show LS w W1 w.heap.size c from ⟨hb1, hcb⟩)
    clear aw hcb hb1 h1
    go_enter Try.func10, Try.ntmps10
    go_wp2_with fail
    rw [← hW1]
    clear hW1
    go_wp2_with (go_at_call 11; (with_reducible refine AW.out.mono ?_); rintro e V ⟨rfl, hb⟩; have h1 := L0.out.next hb; have L1 := Lib.hid h1; obtain ⟨q0, q1, q2, q3⟩ := h1.cb; clear hb h1)
    go_ret
    exact ⟨rfl, L1.out.bel⟩
end Go.Proofs.Yticghbimldohoaa
