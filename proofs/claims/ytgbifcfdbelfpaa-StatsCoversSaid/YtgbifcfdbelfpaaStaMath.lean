/-
  What the laws say of bounds, in plain arithmetic.
-/
import Derived.Test.YtgbifcfdbelfpaaStaLaw2
namespace Go.Proofs.Ytgbifcfdbelfpaa
open Go.RowKit
set_option linter.unusedVariables false

theorem low_le_of {n k : Nat} {r : Int} (hr : r ≤ 2000) {s : Nat} (h : exB n r (upc n k (s : Nat)) = true) : lowB n k r ≤ s := by
  rcases Nat.lt_or_ge s (lowB n k r) with h1 | h1
  · have := (lowB_spec n k hr).2.2 s (by omega) (by omega)
    rw [h] at this; cases this
  · exact h1
theorem upc_step (n k : Nat) (p : Int) (h : k < n) : upc n k p = upc n (k + 1) p + Sb.cn n k p (10000 - p) := (step_is n k p h).symm
theorem upc_fewer (n k : Nat) {p : Int} (h : k < n) (p0 : 0 ≤ p) (p1 : p ≤ 10000) : upc n (k + 1) p ≤ upc n k p := by
  have := Sb.cn_nn p0 (show 0 ≤ 10000 - p by omega) n k
  rw [upc_step n k p h]; omega
theorem low_more (n k : Nat) {r : Int} (h : k < n) (hr : r ≤ 2000) : lowB n k r ≤ lowB n (k + 1) r := by
  have h1 := lowB_spec n (k + 1) hr
  refine low_le_of hr (exB_mono (upc_fewer n k h (by omega) (by omega)) h1.2.1)
theorem exB_risk {n : Nat} {r s x : Int} (h : r ≤ s) (hx : exB n s x = true) : exB n r x = true := by
  unfold exB at *
  rw [decide_eq_true_eq] at *
  have : (10000 : Int) ^ n * r ≤ 10000 ^ n * s := Int.mul_le_mul_of_nonneg_left h (Sb.pow_nn (by omega) n)
  omega
theorem low_risk (n k : Nat) {r s : Int} (h : r ≤ s) (hs : s ≤ 2000) : lowB n k r ≤ lowB n k s :=
  low_le_of (by omega) (exB_risk h (lowB_spec n k hs).2.1)
theorem exB_no {n : Nat} {r x : Int} (h : exB n r x = false) : x * 10000 ≤ 10000 ^ n * r := by
  unfold exB at h
  rw [decide_eq_false_iff_not] at h
  omega
theorem lwc_up (n k : Nat) (p : Int) (hk : k ≤ n) : lwc n k p = upc n (n - k) (10000 - p) := by
  unfold lwc upc
  rw [show 10000 - (10000 - p) = p by omega, show n - (n - k) = k by omega]

/-- both bounds leave room -/
theorem low_low (n k : Nat) {r : Int} (hn : n ≤ 500) (hk : k ≤ n) (hr : r ≤ 2000) : lowB n k r + lowB n (n - k) r ≤ 10000 := by
  rcases Nat.lt_or_ge 10000 (lowB n k r + lowB n (n - k) r) with h | h
  · exfalso
    have s1 := lowB_spec n k hr
    have s2 := lowB_spec n (n - k) hr
    generalize lowB n k r = a at *
    generalize lowB n (n - k) r = b at *
    have e1 := exB_no (s1.2.2 ((a : Int) - 1) (by omega) (by omega))
    have e2 := exB_no (s2.2.2 (10000 - (a : Int)) (by omega) (by omega))
    have w1 : upc n k ((a : Int) - 1) + Sb.ls n ((a : Int) - 1) (10000 - ((a : Int) - 1)) k = 10000 ^ n := by
      have h1 := Sb.ls_both n ((a : Int) - 1) (10000 - ((a : Int) - 1)) (k := k) (by omega)
      unfold upc
      rw [show n - k + 1 = n + 1 - k by omega, Int.add_comm, h1, show (a : Int) - 1 + (10000 - ((a : Int) - 1)) = 10000 by omega]
    have w2 := Sb.ls_little (p := (a : Int) - 1) (q := 10000 - ((a : Int) - 1)) (by omega) (by omega) n k
    rw [show (a : Int) - 1 + (10000 - ((a : Int) - 1)) = 10000 by omega, show (a : Int) - 1 + 1 = a by omega, show 10000 - ((a : Int) - 1) - 1 = 10000 - a by omega] at w2
    have w3 : Sb.ls n (a : Int) (10000 - a) k ≤ upc n (n - k) (10000 - (a : Int)) := by
      have h1 := Sb.ls_mono (p := (a : Int)) (q := 10000 - a) (by omega) (by omega) n (show k ≤ k + 1 by omega)
      have h2 := lwc_up n k a hk
      unfold lwc at h2
      omega
    have x0 := Sb.pow_pos (show (0 : Int) < 10000 by omega) n
    generalize (10000 : Int) ^ n = X at *
    generalize upc n k ((a : Int) - 1) = u1 at *
    generalize upc n (n - k) (10000 - (a : Int)) = u2 at *
    generalize Sb.ls n ((a : Int) - 1) (10000 - ((a : Int) - 1)) k = l1 at *
    generalize Sb.ls n (a : Int) (10000 - a) k = l2 at *
    have x1 : X * r ≤ X * 2000 := Int.mul_le_mul_of_nonneg_left hr (by omega)
    have x2 : (n : Int) * X ≤ 500 * X := Int.mul_le_mul_of_nonneg_right (by omega) (by omega)
    omega
  · exact h

/-! the observed share: where the mean of n trials is at least k, a fifth of the chances are those of k or more -/
/-- three chances, with the number of subsets given -/
def three (n k c : Nat) : Nat :=
  let t := (10000 * k + n - 1) / n
  let q := 10000 - t
  let c1 := c * (n - k) / (k + 1)
  let c2 := c1 * (n - (k + 1)) / (k + 2)
  c * t ^ k * q ^ (n - k) + c1 * t ^ (k + 1) * q ^ (n - (k + 1)) + c2 * t ^ (k + 2) * q ^ (n - (k + 2))
/-- the rest of a row, from k on: m to go -/
def rowOk (n : Nat) : Nat → Nat → Nat → Bool
  | 0, _, _ => true
  | m + 1, k, c => Nat.blt (10000 ^ n) (5 * three n k c) && rowOk n m (k + 1) (c * (n - k) / (k + 1))
def rowsOk : Nat → Bool
  | 0 => true
  | n + 1 => rowOk (n + 1) (n + 2) 0 1 && rowsOk n
theorem rows_100 : rowsOk 100 = true := by decide +kernel
theorem bin_next (n k : Nat) (h : k ≤ n) : Sb.bin n k * (n - k) / (k + 1) = Sb.bin n (k + 1) := by
  rw [← Sb.bin_step n k h, Nat.mul_div_cancel _ (by omega)]
theorem rowOk_at (n : Nat) : ∀ (m k : Nat), k + m = n + 1 → rowOk n m k (Sb.bin n k) = true → ∀ j, k ≤ j → j ≤ n → 10000 ^ n < 5 * three n j (Sb.bin n j)
  | 0, k, hm, _, j, h1, h2 => by omega
  | m + 1, k, hm, h, j, h1, h2 => by
    rw [rowOk, Bool.and_eq_true, bin_next n k (by omega)] at h
    rcases Nat.eq_or_lt_of_le h1 with rfl | h3
    · have := h.1
      rwa [Nat.blt_eq] at this
    · exact rowOk_at n m (k + 1) (by omega) h.2 j h3 h2
theorem rowsOk_at : ∀ (N n : Nat), rowsOk N = true → 0 < n → n ≤ N → rowOk n (n + 1) 0 1 = true
  | 0, n, _, h1, h2 => by omega
  | N + 1, n, h, h1, h2 => by
    rw [rowsOk, Bool.and_eq_true] at h
    rcases Nat.eq_or_lt_of_le h2 with rfl | h3
    · exact h.1
    · exact rowsOk_at N n h.2 h1 (by omega)
theorem three_ok (n k : Nat) (h0 : 0 < n) (hn : n ≤ 100) (hk : k ≤ n) : 10000 ^ n < 5 * three n k (Sb.bin n k) := by
  have h := rowsOk_at 100 n rows_100 h0 hn
  exact rowOk_at n (n + 1) 0 (by omega) (by rw [Sb.bin_zero]; exact h) k (by omega) hk
theorem upc_one (n k : Nat) {p : Int} (hk : k ≤ n) (p0 : 0 ≤ p) (p1 : p ≤ 10000) : Sb.cn n k p (10000 - p) ≤ upc n k p := by
  rcases Nat.lt_or_eq_of_le hk with h | h
  · have := upc_nn n (k + 1) p0 p1
    rw [upc_step n k p h]; omega
  · have := step_end n k p h
    omega
theorem upc_three (n k : Nat) {p : Int} (hk : k ≤ n) (p0 : 0 ≤ p) (p1 : p ≤ 10000) : Sb.cn n k p (10000 - p) + Sb.cn n (k + 1) p (10000 - p) + Sb.cn n (k + 2) p (10000 - p) ≤ upc n k p := by
  rcases Nat.lt_or_eq_of_le hk with h | h
  · rw [upc_step n k p h]
    rcases Nat.lt_or_eq_of_le (show k + 1 ≤ n from h) with h2 | h2
    · rw [upc_step n (k + 1) p h2]
      have h3 : Sb.cn n (k + 2) p (10000 - p) ≤ upc n (k + 1 + 1) p := upc_one n (k + 2) (show k + 2 ≤ n from h2) p0 p1
      omega
    · have h3 := upc_one n (k + 1) (show k + 1 ≤ n from h) p0 p1
      rw [Sb.cn_gt (show n < k + 2 by omega)]
      omega
  · have := upc_one n k hk p0 p1
    rw [Sb.cn_gt (show n < k + 1 by omega), Sb.cn_gt (show n < k + 2 by omega)]
    omega
theorem three_is (n k : Nat) (h0 : 0 < n) (hk : k ≤ n) : (10000 * k + n - 1) / n ≤ 10000 ∧ ((three n k (Sb.bin n k) : Nat) : Int) ≤ upc n k (((10000 * k + n - 1) / n : Nat) : Int) := by
  have ht : (10000 * k + n - 1) / n ≤ 10000 := by
    have h1 : 10000 * k + n - 1 < (10000 + 1) * n := by
      have : 10000 * k ≤ 10000 * n := Nat.mul_le_mul_left _ hk
      omega
    exact Nat.le_of_lt_succ (Nat.div_lt_of_lt_mul (show 10000 * k + n - 1 < n * (10000 + 1) by rw [Nat.mul_comm n]; exact h1))
  refine ⟨ht, ?_⟩
  have h := upc_three n k (p := (((10000 * k + n - 1) / n : Nat) : Int)) hk (Int.natCast_nonneg _) (Int.ofNat_le.2 ht)
  unfold three
  simp only
  generalize (10000 * k + n - 1) / n = t at *
  rw [bin_next n k hk]
  have e2 : Sb.bin n (k + 1) * (n - (k + 1)) / (k + 2) = Sb.bin n (k + 2) := by
    rcases Nat.lt_or_ge n (k + 1) with h3 | h3
    · rw [Sb.bin_gt n (k + 1) h3, Sb.bin_gt n (k + 2) (by omega)]; simp
    · exact bin_next n (k + 1) h3
  rw [e2]
  have e3 : (10000 : Int) - (t : Int) = ((10000 - t : Nat) : Int) := by omega
  rw [e3] at h
  generalize 10000 - t = q at *
  unfold Sb.cn at h
  rw [Int.natCast_add, Int.natCast_add, Int.natCast_mul, Int.natCast_mul, Int.natCast_mul, Int.natCast_mul, Int.natCast_mul, Int.natCast_mul]
  simp only [Int.natCast_pow]
  exact h
/-- a share that is no less than the observed one has a fifth of the chances at k or more -/
theorem fifth (n k : Nat) {t : Int} (h0 : 0 < n) (hn : n ≤ 100) (hk : k ≤ n) (t1 : t ≤ 10000) (h : 10000 * k ≤ t * n) : 10000 ^ n < 5 * upc n k t := by
  obtain ⟨h1, h2⟩ := three_is n k h0 hk
  have h3 := three_ok n k h0 hn hk
  have h4 : (10000 : Int) ^ n < 5 * ((three n k (Sb.bin n k) : Nat) : Int) := by
    have := Int.ofNat_lt.2 h3
    simpa [Int.natCast_pow] using this
  generalize ht : (10000 * k + n - 1) / n = s at *
  have h5 : (s : Int) ≤ t := by
    rcases Int.lt_or_le t s with h6 | h6
    · exfalso
      have h7 : s * n ≤ 10000 * k + n - 1 := by rw [← ht]; exact Nat.div_mul_le_self _ _
      have h8 : t * (n : Int) ≤ ((s : Int) - 1) * n := Int.mul_le_mul_of_nonneg_right (by omega) (by omega)
      have h9 : ((s : Int) - 1) * n = (s : Int) * n - n := by grind
      have h10 : ((s * n : Nat) : Int) = (s : Int) * n := Int.natCast_mul _ _
      omega
    · exact h6
  have h6 := upc_mono n k (show (0 : Int) ≤ s by omega) h5 t1
  omega
/-- the lower bound is not above the observed share, up to rounding -/
theorem low_seen (n k : Nat) {r : Int} (h0 : 0 < n) (hn : n ≤ 100) (hk : k ≤ n) (hr : r ≤ 2000) : ((lowB n k r : Int) - 1) * n < 10000 * k := by
  rcases Int.lt_or_le (((lowB n k r : Int) - 1) * n) (10000 * k) with h | h
  · exact h
  · exfalso
    have s1 := lowB_spec n k hr
    generalize lowB n k r = a at *
    by_cases ha : a = 0
    · subst ha
      have : ((0 : Nat) : Int) - 1 = -1 := by omega
      rw [this] at h
      omega
    · have e1 := exB_no (s1.2.2 ((a : Int) - 1) (by omega) (by omega))
      have e2 := fifth n k h0 hn hk (by omega) h
      have x0 := Sb.pow_pos (show (0 : Int) < 10000 by omega) n
      generalize (10000 : Int) ^ n = X at *
      have x1 : X * r ≤ X * 2000 := Int.mul_le_mul_of_nonneg_left hr (by omega)
      omega
theorem high_seen (n k : Nat) {r : Int} (h0 : 0 < n) (hn : n ≤ 100) (hk : k ≤ n) (hr : r ≤ 2000) : 10000 * (k : Int) < (10000 - (lowB n (n - k) r : Int) + 1) * n := by
  have h := low_seen n (n - k) h0 hn (by omega) hr
  generalize (lowB n (n - k) r : Int) = b at *
  rw [show ((n - k : Nat) : Int) = (n : Int) - k by omega] at h
  have e : (10000 - b + 1) * (n : Int) = 10000 * n - (b - 1) * n := by grind
  omega
theorem lower_turn (n k : Nat) (p : Int) (W : World) (p0 : 0 ≤ p) (p1 : p ≤ 10000) (hn : n ≤ 500) (hk : k ≤ n) : Calls Try.prog 29 #[.int .i64 n, .int .i64 ((n : Int) - k), .int .i64 (10000 - p)] W (PostNumE (upc n k p) W) := by
  have h := lower_ok n (n - k) (10000 - p) W (by omega) (by omega) hn (by omega)
  rwa [lwc_up n (n - k) _ (by omega), show n - (n - k) = k by omega, show 10000 - (10000 - p) = p by omega, show ((n - k : Nat) : Int) = (n : Int) - k by omega] at h
theorem choose_turn (n k : Nat) (W : World) (hn : n ≤ 500) (hk : k ≤ n) : Calls Try.prog 32 #[.int .i64 n, .int .i64 ((n : Int) - k)] W (PostNumE (Sb.bin n k) W) := by
  have h := choose_ok n (n - k) W hn (by omega)
  rwa [← Sb.bin_symm n k hk, show ((n - k : Nat) : Int) = (n : Int) - k by omega] at h
theorem great_turn (n k : Nat) (r : Int) (W : World) (r0 : 1 ≤ r) (r1 : r ≤ 2000) (hn : n ≤ 500) (hk : k ≤ n) : Calls Try.prog 24 #[.int .i64 n, .int .i64 ((n : Int) - k), .int .i64 r] W (PostIntE (10000 - lowB n k r) W) := by
  have h := greatest_ok n (n - k) r W r0 r1 hn (by omega)
  rwa [show n - (n - k) = k by omega, show ((n - k : Nat) : Int) = (n : Int) - k by omega] at h
end Go.Proofs.Ytgbifcfdbelfpaa
