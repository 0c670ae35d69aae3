/-
  The walk of the law StatsBounds.
-/
import Derived.Test.YtgbifcfdbelfpaaStaRef7
import Derived.Test.YtgbifcfdbelfpaaStaAwake
namespace Go.Proofs.Ytgbifcfdbelfpaa
open Go.RowKit
set_option linter.unusedVariables false

theorem nat_of {n k : Int} {r : Bool} (h : trErr n k r = 0) : ∃ a b : Nat, n = a ∧ k = b ∧ b ≤ a ∧ a ≤ 500 ∧ r = true := by
  obtain ⟨h1, h2, h3, h4⟩ := trErr_zero h
  exact ⟨n.toNat, k.toNat, by omega, by omega, by omega, by omega, h4⟩
/-- the law without its examples -/
def PostT' (W : World) (e : Ending) (w' : World) : Prop := e = .returned (.bool true) ∧ Below W.heap.size W w'
set_option maxRecDepth 100000 in
set_option maxHeartbeats 4000000 in
theorem bounds_any (n k r : Int) (w : World) : Calls Try.prog 16 #[.int .i64 n, .int .i64 k, .int .i64 r] w (PostT' w) := by
  by_cases hm : 40 < n ∧ n ≤ 500
  · obtain ⟨i0, i1⟩ := hm
    go_enter Try.func16, Try.ntmps16
    go_wp2
    go_ret
    exact ⟨rfl, Below.refl _ _⟩
  · have hs : ∃ (x y E : Int), (∀ V, Calls Try.prog 23 #[.int .i64 n, .int .i64 k, .int .i64 r] V fun e V' => e = .returned (.tuple #[.int .i64 x, .int .i64 E]) ∧ Below V.heap.size V V') ∧
        (∀ V, Calls Try.prog 45 #[.int .i64 n, .int .i64 k, .int .i64 r] V fun e V' => e = .returned (.tuple #[.int .i64 x, .int .i64 E]) ∧ Below V.heap.size V V') ∧
        (∀ V, Calls Try.prog 24 #[.int .i64 n, .int .i64 k, .int .i64 r] V fun e V' => e = .returned (.tuple #[.int .i64 y, .int .i64 E]) ∧ Below V.heap.size V V') ∧
        (∀ V, Calls Try.prog 46 #[.int .i64 n, .int .i64 k, .int .i64 r] V fun e V' => e = .returned (.tuple #[.int .i64 y, .int .i64 E]) ∧ Below V.heap.size V V') := by
      by_cases hE : trErr n k (riskB r) = 0
      · obtain ⟨a, b, rfl, rfl, h1, h2, h3⟩ := nat_of hE
        obtain ⟨h4, h5⟩ := riskB_iff.1 h3
        have h6 : a ≤ 300 := by omega
        exact ⟨_, _, 0, fun V => least_ok a b r V h4 h5 h2 h1, fun V => rleast_ok a b r V h4 h5 h6 h1, fun V => greatest_ok a b r V h4 h5 h2 h1, fun V => rgreatest_ok a b r V h4 h5 h6 h1⟩
      · have h0 : (trErr n k (riskB r) != 0) = true := by simp [hE]
        exact ⟨0, 0, _, fun V => least_err n k r _ V rfl h0, fun V => rleast_err n k r _ V rfl h0, fun V => greatest_err n k r _ V rfl h0, fun V => rgreatest_err n k r _ V rfl h0⟩
    obtain ⟨x, y, E, h1, h2, h3, h4⟩ := hs
    have H1 := Lib.hid h1; have H2 := Lib.hid h2; have H3 := Lib.hid h3; have H4 := Lib.hid h4
    clear h1 h2 h3 h4
    have hc : (decide (40 < n) && decide (n ≤ 500)) = false := by
      rw [Bool.and_eq_false_iff, decide_eq_false_iff_not, decide_eq_false_iff_not]
      omega
    by_cases i0 : 40 < n
    · have i1 : 500 < n := by omega
      clear hm hc
      go_enter Try.func16, Try.ntmps16
      go_wp2_with (first
        | (go_at_call 23; (with_reducible refine (H1.out _).mono ?_); rintro e w1 ⟨rfl, b1⟩; have B1 := Lib.hid b1; clear b1)
        | (go_at_call 45; (with_reducible refine (H2.out _).mono ?_); rintro e w2 ⟨rfl, b2⟩; have B2 := Lib.hid (B1.out.trans (b2.mono B1.out.size)); clear b2)
        | (go_at_call 24; (with_reducible refine (H3.out _).mono ?_); rintro e w3 ⟨rfl, b3⟩; have B3 := Lib.hid (B2.out.trans (b3.mono B2.out.size)); clear b3)
        | (go_at_call 46; (with_reducible refine (H4.out _).mono ?_); rintro e w4 ⟨rfl, b4⟩; have B4 := Lib.hid (B3.out.trans (b4.mono B3.out.size)); clear b4))
      go_ret
      exact ⟨rfl, B4.out⟩
    · have i1 : n ≤ 40 := by omega
      clear hm hc
      go_enter Try.func16, Try.ntmps16
      go_wp2_with (first
        | (go_at_call 23; (with_reducible refine (H1.out _).mono ?_); rintro e w1 ⟨rfl, b1⟩; have B1 := Lib.hid b1; clear b1)
        | (go_at_call 45; (with_reducible refine (H2.out _).mono ?_); rintro e w2 ⟨rfl, b2⟩; have B2 := Lib.hid (B1.out.trans (b2.mono B1.out.size)); clear b2)
        | (go_at_call 24; (with_reducible refine (H3.out _).mono ?_); rintro e w3 ⟨rfl, b3⟩; have B3 := Lib.hid (B2.out.trans (b3.mono B2.out.size)); clear b3)
        | (go_at_call 46; (with_reducible refine (H4.out _).mono ?_); rintro e w4 ⟨rfl, b4⟩; have B4 := Lib.hid (B3.out.trans (b4.mono B3.out.size)); clear b4))
      go_ret
      exact ⟨rfl, B4.out⟩

theorem walk_statsBounds (a0 : Int) (w0 : (Lit.int .i64 a0).wf = true) (a1 : Int) (w1 : (Lit.int .i64 a1).wf = true) (a2 : Int) (w2 : (Lit.int .i64 a2).wf = true) (w : World) :
    Calls Try.prog 4 #[.int .i64 a0, .int .i64 a1, .int .i64 a2] w fun e w' => e = .returned (.bool true) ∧ Below w.heap.size w w' := by
  have AW := Lib.hid (awake_any w)
  have QA := Lib.hid (fun V => bounds_any a0 a1 a2 V)
  go_enter Try.func4, Try.ntmps4
  go_wp2_with (first
    | (go_at_call 14; (with_reducible refine (AW.out).mono ?_); rintro e x1 ⟨rfl, hb⟩; have B1 := Lib.hid hb; clear hb)
    | (go_at_call 16; (with_reducible refine (QA.out _).mono ?_); rintro e x2 ⟨rfl, hb⟩; have B2 := Lib.hid (B1.out.trans (hb.mono B1.out.size)); clear hb))
  go_ret
  exact ⟨rfl, B2.out⟩

end Go.Proofs.Ytgbifcfdbelfpaa
