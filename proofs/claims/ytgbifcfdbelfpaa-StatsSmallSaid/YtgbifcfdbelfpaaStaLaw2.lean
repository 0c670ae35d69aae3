/-
  What the laws say of chances, in plain arithmetic.
-/
import Derived.Test.YtgbifcfdbelfpaaStaLaw
namespace Go.Proofs.Ytgbifcfdbelfpaa
open Go.RowKit
set_option linter.unusedVariables false

theorem trials_nat (x y : Int) (m : Nat) (hm : m ≤ 1000) : ∃ n k : Nat, n ≤ m ∧ k ≤ n ∧ ∀ W, Calls Try.prog 27 #[.int .i64 x, .int .i64 y, .int .i64 m] W fun e W' => e = .returned (.tuple #[.int .i64 n, .int .i64 k]) ∧ W = W' := by
  have j0 : 0 ≤ x % ((m : Int) + 1) := Int.emod_nonneg _ (by omega)
  have j1 : x % ((m : Int) + 1) < (m : Int) + 1 := Int.emod_lt_of_pos _ (by omega)
  have i0 : 0 ≤ y % (x % ((m : Int) + 1) + 1) := Int.emod_nonneg _ (by omega)
  have i1 : y % (x % ((m : Int) + 1) + 1) < x % ((m : Int) + 1) + 1 := Int.emod_lt_of_pos _ (by omega)
  refine ⟨(x % ((m : Int) + 1)).toNat, (y % (x % ((m : Int) + 1) + 1)).toNat, by omega, by omega, fun W => ?_⟩
  rw [Int.toNat_of_nonneg j0, Int.toNat_of_nonneg i0]
  exact trials_any x y m W (by omega) (by omega)

theorem whole_is (n k : Nat) (p : Int) (hk : k ≤ n) (hl : 0 < k) : upc n k p + lwc n (k - 1) p = 10000 ^ n := by
  have h := Sb.ls_both n p (10000 - p) (k := k) (by omega)
  unfold upc lwc
  rw [show n - k + 1 = n + 1 - k by omega, show k - 1 + 1 = k by omega, Int.add_comm, h, show p + (10000 - p) = 10000 by omega]
theorem whole_zero (n k : Nat) (p : Int) (h : k = 0) : upc n k p + 0 = 10000 ^ n := by
  subst h
  unfold upc
  rw [Int.add_zero, Sb.ls_all n _ _ (by omega), show 10000 - p + p = 10000 by omega]
theorem step_is (n k : Nat) (p : Int) (h : k < n) : upc n (k + 1) p + Sb.cn n k p (10000 - p) = upc n k p := by
  unfold upc
  rw [Sb.cn_symm (show k ≤ n by omega), show n - (k + 1) + 1 = n - k by omega, show Sb.ls n (10000 - p) p (n - k + 1) = Sb.ls n (10000 - p) p (n - k) + Sb.cn n (n - k) (10000 - p) p from rfl]
theorem step_end (n k : Nat) (p : Int) (h : k = n) : 0 + Sb.cn n k p (10000 - p) = upc n k p := by
  subst h
  unfold upc
  rw [Nat.sub_self, Sb.ls, Sb.ls, Sb.cn_first, Sb.cn_last]
theorem chance_half (n k : Nat) (W : World) (hn : n ≤ 500) (hk : k ≤ n) : Calls Try.prog 22 #[.int .i64 n, .int .i64 k, .int .i64 5000] W (PostNumE (Sb.cn n k 5000 5000) W) := chance_ok n k 5000 W (by omega) (by omega) hn hk
theorem half_is (n k : Nat) (hk : k ≤ n) : (Sb.bin n k : Int) * 5000 ^ n = Sb.cn n k 5000 5000 := by
  obtain ⟨d, rfl⟩ := Nat.exists_eq_add_of_le hk
  rw [Sb.cn, show k + d - k = d by omega, Int.pow_add, Int.mul_assoc]
theorem half_fit (n k : Nat) (hn : n ≤ 200) (hk : k ≤ n) : Sb.cn n k 5000 5000 < Na.Bp 1024 := by
  have h := Sb.cn_le (p := 5000) (q := 5000) (by omega) (by omega) n k
  exact fit_pow (n := n) h (by omega)
theorem lower_pred (n k : Nat) (p : Int) (W : World) (p0 : 0 ≤ p) (p1 : p ≤ 10000) (hn : n ≤ 500) (hk : k ≤ n) (hl : 0 < k) : Calls Try.prog 29 #[.int .i64 n, .int .i64 ((k : Int) - 1), .int .i64 p] W (PostNumE (lwc n (k - 1) p) W) := by
  have h := lower_ok n (k - 1) p W p0 p1 hn (by omega)
  rwa [show ((k - 1 : Nat) : Int) = (k : Int) - 1 by omega] at h
theorem add_er (A B : Option Addr) (ca : Nat) (l : List Int) (x z : Int) (n : Nat) (w : World) (hr : Num w A l x) (h : x + 0 = z) (hz : z ≤ 10000 ^ n) (hn : n ≤ 1000) :
    Calls Try.prog 25 #[.slice A l.length ca, .slice B 0 0] w (PostNumE z w) := add_to A B ca 0 l [] x 0 z n w hr (num_empty _ _) h hz hn
theorem add_el (A B : Option Addr) (cb : Nat) (m : List Int) (y z : Int) (n : Nat) (w : World) (hs : Num w B m y) (h : 0 + y = z) (hz : z ≤ 10000 ^ n) (hn : n ≤ 1000) :
    Calls Try.prog 25 #[.slice A 0 0, .slice B m.length cb] w (PostNumE z w) := add_to A B 0 cb [] m 0 y z n w (num_empty _ _) hs h hz hn
end Go.Proofs.Ytgbifcfdbelfpaa
