/-
  The walks of stats' upper, Choose, Chance, Upper, Lower.
-/
import Derived.Test.YtgbifcfdbelfpaaStaLow
namespace Go.Proofs.Ytgbifcfdbelfpaa
open Go.RowKit
set_option linter.unusedVariables false

/-- the upper chance of k -/
def upc (n k : Nat) (p : Int) : Int := Sb.ls n (10000 - p) p (n - k + 1)
/-- the lower chance of k -/
def lwc (n k : Nat) (p : Int) : Int := Sb.ls n p (10000 - p) (k + 1)

theorem upper_any (n k : Nat) (p : Int) (w : World) (hp : 0 ≤ p) (hp1 : p ≤ 10000) (hn : n ≤ 500) (hk : k ≤ n) :
    Calls Try.prog 56 #[.int .i64 n, .int .i64 k, .int .i64 p] w (PostNum (upc n k p) w) := by
  have hl := lower_any n (n - k) (10000 - p) w (by omega) (by omega) hn (by omega)
  rw [show (10000 : Int) - (10000 - p) = p by omega, show ((n - k : Nat) : Int) = (n : Int) - (k : Int) by omega] at hl
  have HL := Lib.hid hl
  clear hl
  have i0 : (0 : Int) ≤ (n : Int) := by omega
  have i1 : (n : Int) ≤ 500 := by omega
  have i2 : (0 : Int) ≤ (k : Int) := by omega
  have i3 : (k : Int) ≤ (n : Int) := by omega
  go_enter Try.func56, Try.ntmps56
  go_wp2_with (go_at_call 58; (with_reducible refine HL.out.mono ?_); rintro e w1 ⟨A1, c1, l1, rfl, h, hb⟩; have B1 := Lib.hid hb; have N1 := Lib.hid h; clear h hb)
  go_ret
  exact ⟨_, _, l1, rfl, N1.out, B1.out⟩

theorem check_is {n k : Int} {r : Bool} {E : Int} (h : trErr n k r = E) (w : World) : Calls Try.prog 50 #[.int .i64 n, .int .i64 k, .bool r] w fun e w' => e = .returned (.int .i64 E) ∧ w = w' := h ▸ check_any n k r w

theorem choose_ok (n k : Nat) (w : World) (hn : n ≤ 500) (hk : k ≤ n) : Calls Try.prog 32 #[.int .i64 n, .int .i64 k] w (PostNumE (Sb.bin n k) w) := by
  have C := Lib.hid (check_is (trErr_ok (n := n) (k := k) (by omega) (by omega) (by omega)) w)
  have c0 := chanceOf_any n k 1 1 w (by omega) (by omega) (by omega) (by omega) hn hk
  rw [Sb.cn_11] at c0
  have C0 := Lib.hid c0
  clear c0
  go_enter Try.func32, Try.ntmps32
  go_wp2_with (first
    | (go_at_call 50; (with_reducible refine C.out.mono ?_); rintro e w1 ⟨rfl, rfl⟩)
    | (go_at_call 52; (with_reducible refine C0.out.mono ?_); rintro e w1 ⟨A1, c1, l1, rfl, h, hb⟩; have B1 := Lib.hid hb; have N1 := Lib.hid h; clear h hb))
  go_ret2
  exact ⟨_, _, l1, rfl, N1.out, B1.out⟩
theorem choose_err (n k E : Int) (w : World) (h : trErr n k true = E) (h0 : (E != 0) = true) : Calls Try.prog 32 #[.int .i64 n, .int .i64 k] w (PostErr E w) := by
  have C := Lib.hid (check_is h w)
  clear h
  go_enter Try.func32, Try.ntmps32
  go_wp2_with (go_at_call 50; (with_reducible refine C.out.mono ?_); rintro e w1 ⟨rfl, rfl⟩)
  go_ret2
  exact ⟨rfl, Below.refl _ _⟩

theorem chance_ok (n k : Nat) (p : Int) (w : World) (hp : 0 ≤ p) (hp1 : p ≤ 10000) (hn : n ≤ 500) (hk : k ≤ n) : Calls Try.prog 22 #[.int .i64 n, .int .i64 k, .int .i64 p] w (PostNumE (Sb.cn n k p (10000 - p)) w) := by
  have C := Lib.hid (check_is (trErr_ok (n := n) (k := k) (by omega) (by omega) (by omega)) w)
  have s0 := isShare_any p w
  rw [shareB_yes hp hp1] at s0
  have S0 := Lib.hid s0
  have m1 : IntKind.i64.wrap (10000 - p) = 10000 - p := IntWalk.i64_in _ (by omega)
  have C0 := Lib.hid (chanceOf_any n k p (10000 - p) w hp hp1 (by omega) (by omega) hn hk)
  clear s0
  go_enter Try.func22, Try.ntmps22
  go_wp2_with (first
    | (go_at_call 51; (with_reducible refine S0.out.mono ?_); rintro e w1 ⟨rfl, rfl⟩)
    | (go_at_call 50; (with_reducible refine C.out.mono ?_); rintro e w1 ⟨rfl, rfl⟩)
    | (go_at_call 52; (with_reducible refine C0.out.mono ?_); rintro e w1 ⟨A1, c1, l1, rfl, h, hb⟩; have B1 := Lib.hid hb; have N1 := Lib.hid h; clear h hb))
  go_ret2
  exact ⟨_, _, l1, rfl, N1.out, B1.out⟩
theorem chance_err (n k p E : Int) (w : World) (h : trErr n k (shareB p) = E) (h0 : (E != 0) = true) : Calls Try.prog 22 #[.int .i64 n, .int .i64 k, .int .i64 p] w (PostErr E w) := by
  have C := Lib.hid (check_is h w)
  have S0 := Lib.hid (isShare_any p w)
  clear h
  go_enter Try.func22, Try.ntmps22
  go_wp2_with (first
    | (go_at_call 51; (with_reducible refine S0.out.mono ?_); rintro e w1 ⟨rfl, rfl⟩)
    | (go_at_call 50; (with_reducible refine C.out.mono ?_); rintro e w1 ⟨rfl, rfl⟩))
  go_ret2
  exact ⟨rfl, Below.refl _ _⟩

theorem upper_ok (n k : Nat) (p : Int) (w : World) (hp : 0 ≤ p) (hp1 : p ≤ 10000) (hn : n ≤ 500) (hk : k ≤ n) : Calls Try.prog 28 #[.int .i64 n, .int .i64 k, .int .i64 p] w (PostNumE (upc n k p) w) := by
  have C := Lib.hid (check_is (trErr_ok (n := n) (k := k) (by omega) (by omega) (by omega)) w)
  have s0 := isShare_any p w
  rw [shareB_yes hp hp1] at s0
  have S0 := Lib.hid s0
  have C0 := Lib.hid (upper_any n k p w hp hp1 hn hk)
  clear s0
  go_enter Try.func28, Try.ntmps28
  go_wp2_with (first
    | (go_at_call 51; (with_reducible refine S0.out.mono ?_); rintro e w1 ⟨rfl, rfl⟩)
    | (go_at_call 50; (with_reducible refine C.out.mono ?_); rintro e w1 ⟨rfl, rfl⟩)
    | (go_at_call 56; (with_reducible refine C0.out.mono ?_); rintro e w1 ⟨A1, c1, l1, rfl, h, hb⟩; have B1 := Lib.hid hb; have N1 := Lib.hid h; clear h hb))
  go_ret2
  exact ⟨_, _, l1, rfl, N1.out, B1.out⟩
theorem upper_err (n k p E : Int) (w : World) (h : trErr n k (shareB p) = E) (h0 : (E != 0) = true) : Calls Try.prog 28 #[.int .i64 n, .int .i64 k, .int .i64 p] w (PostErr E w) := by
  have C := Lib.hid (check_is h w)
  have S0 := Lib.hid (isShare_any p w)
  clear h
  go_enter Try.func28, Try.ntmps28
  go_wp2_with (first
    | (go_at_call 51; (with_reducible refine S0.out.mono ?_); rintro e w1 ⟨rfl, rfl⟩)
    | (go_at_call 50; (with_reducible refine C.out.mono ?_); rintro e w1 ⟨rfl, rfl⟩))
  go_ret2
  exact ⟨rfl, Below.refl _ _⟩

theorem lower_ok (n k : Nat) (p : Int) (w : World) (hp : 0 ≤ p) (hp1 : p ≤ 10000) (hn : n ≤ 500) (hk : k ≤ n) : Calls Try.prog 29 #[.int .i64 n, .int .i64 k, .int .i64 p] w (PostNumE (lwc n k p) w) := by
  have C := Lib.hid (check_is (trErr_ok (n := n) (k := k) (by omega) (by omega) (by omega)) w)
  have s0 := isShare_any p w
  rw [shareB_yes hp hp1] at s0
  have S0 := Lib.hid s0
  have C0 := Lib.hid (show Calls Try.prog 58 #[.int .i64 n, .int .i64 k, .int .i64 p] w (PostNum (lwc n k p) w) from lower_any n k p w hp hp1 hn hk)
  clear s0
  go_enter Try.func29, Try.ntmps29
  go_wp2_with (first
    | (go_at_call 51; (with_reducible refine S0.out.mono ?_); rintro e w1 ⟨rfl, rfl⟩)
    | (go_at_call 50; (with_reducible refine C.out.mono ?_); rintro e w1 ⟨rfl, rfl⟩)
    | (go_at_call 58; (with_reducible refine C0.out.mono ?_); rintro e w1 ⟨A1, c1, l1, rfl, h, hb⟩; have B1 := Lib.hid hb; have N1 := Lib.hid h; clear h hb))
  go_ret2
  exact ⟨_, _, l1, rfl, N1.out, B1.out⟩
theorem lower_err (n k p E : Int) (w : World) (h : trErr n k (shareB p) = E) (h0 : (E != 0) = true) : Calls Try.prog 29 #[.int .i64 n, .int .i64 k, .int .i64 p] w (PostErr E w) := by
  have C := Lib.hid (check_is h w)
  have S0 := Lib.hid (isShare_any p w)
  clear h
  go_enter Try.func29, Try.ntmps29
  go_wp2_with (first
    | (go_at_call 51; (with_reducible refine S0.out.mono ?_); rintro e w1 ⟨rfl, rfl⟩)
    | (go_at_call 50; (with_reducible refine C.out.mono ?_); rintro e w1 ⟨rfl, rfl⟩))
  go_ret2
  exact ⟨rfl, Below.refl _ _⟩
end Go.Proofs.Ytgbifcfdbelfpaa
