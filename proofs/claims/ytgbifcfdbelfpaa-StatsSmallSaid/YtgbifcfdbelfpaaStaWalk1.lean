/-
  The walks of stats' small functions: isShare, isRisk, checkTrials, power, product, quotient.
-/
import Derived.Test.YtgbifcfdbelfpaaStaTold
import Derived.Test.YtgbifcfdbelfpaaStaPlain
namespace Go.Proofs.Ytgbifcfdbelfpaa
open Go.RowKit
set_option linter.unusedVariables false

def shareB (n : Int) : Bool := decide (0 ≤ n) && decide (n ≤ 10000)
def riskB (n : Int) : Bool := decide (1 ≤ n) && decide (n ≤ 2000)
theorem shareB_yes {n : Int} (h : 0 ≤ n) (h' : n ≤ 10000) : shareB n = true := by simp [shareB, h, h']
theorem shareB_no {n : Int} (h : n < 0 ∨ 10000 < n) : shareB n = false := by simp [shareB]; omega
theorem shareB_iff {n : Int} : shareB n = true ↔ 0 ≤ n ∧ n ≤ 10000 := by simp [shareB]
theorem riskB_yes {n : Int} (h : 1 ≤ n) (h' : n ≤ 2000) : riskB n = true := by simp [riskB, h, h']
theorem riskB_no {n : Int} (h : n < 1 ∨ 2000 < n) : riskB n = false := by simp [riskB]; omega
theorem riskB_iff {n : Int} : riskB n = true ↔ 1 ≤ n ∧ n ≤ 2000 := by simp [riskB]

theorem isShare_any (n : Int) (w : World) : Calls Try.prog 51 #[.int .i64 n] w fun e w' => e = .returned (.bool (shareB n)) ∧ w = w' := by
  by_cases h : 0 ≤ n
  · by_cases h2 : n ≤ 10000
    · have H := Lib.hid (shareB_yes h h2)
      go_enter Try.func51, Try.ntmps51
      go_wp2
      go_ret
      exact ⟨ret_bool (by rw [H.out]), rfl⟩
    · have H := Lib.hid (shareB_no (n := n) (by omega))
      have h3 : decide (n ≤ 10000) = false := by simpa using h2
      go_enter Try.func51, Try.ntmps51
      go_wp2
      go_ret
      exact ⟨ret_bool (by rw [H.out]), rfl⟩
  · have H := Lib.hid (shareB_no (n := n) (by omega))
    have h3 : decide (0 ≤ n) = false := by simpa using h
    go_enter Try.func51, Try.ntmps51
    go_wp2
    go_ret
    exact ⟨ret_bool (by rw [H.out]), rfl⟩
theorem isRisk_any (n : Int) (w : World) : Calls Try.prog 53 #[.int .i64 n] w fun e w' => e = .returned (.bool (riskB n)) ∧ w = w' := by
  by_cases h : 1 ≤ n
  · by_cases h2 : n ≤ 2000
    · have H := Lib.hid (riskB_yes h h2)
      go_enter Try.func53, Try.ntmps53
      go_wp2
      go_ret
      exact ⟨ret_bool (by rw [H.out]), rfl⟩
    · have H := Lib.hid (riskB_no (n := n) (by omega))
      have h3 : decide (n ≤ 2000) = false := by simpa using h2
      go_enter Try.func53, Try.ntmps53
      go_wp2
      go_ret
      exact ⟨ret_bool (by rw [H.out]), rfl⟩
  · have H := Lib.hid (riskB_no (n := n) (by omega))
    have h3 : decide (1 ≤ n) = false := by simpa using h
    go_enter Try.func53, Try.ntmps53
    go_wp2
    go_ret
    exact ⟨ret_bool (by rw [H.out]), rfl⟩

/-- the error of trials -/
def trErr (n k : Int) (r : Bool) : Int := if k < 0 ∨ n < k ∨ r = false then 2 else if 500 < n then 3 else 0
theorem trErr_arg {n k : Int} {r : Bool} (h : k < 0 ∨ n < k ∨ r = false) : trErr n k r = 2 := by rw [trErr, if_pos h]
theorem trErr_long {n k : Int} (h : 0 ≤ k) (h2 : k ≤ n) (h3 : 500 < n) : trErr n k true = 3 := by rw [trErr, if_neg (by simp; omega), if_pos h3]
theorem trErr_ok {n k : Int} (h : 0 ≤ k) (h2 : k ≤ n) (h3 : n ≤ 500) : trErr n k true = 0 := by rw [trErr, if_neg (by simp; omega), if_neg (by omega)]
theorem trErr_zero {n k : Int} {r : Bool} (h : trErr n k r = 0) : 0 ≤ k ∧ k ≤ n ∧ n ≤ 500 ∧ r = true := by
  unfold trErr at h
  split at h
  · omega
  · split at h
    · omega
    · rename_i h1 h2
      cases r with
      | false => simp at h1
      | true => simp at h1; exact ⟨by omega, by omega, by omega, rfl⟩
theorem check_any (n k : Int) (r : Bool) (w : World) : Calls Try.prog 50 #[.int .i64 n, .int .i64 k, .bool r] w fun e w' => e = .returned (.int .i64 (trErr n k r)) ∧ w = w' := by
  by_cases h : k < 0
  · have H := Lib.hid (trErr_arg (n := n) (r := r) (Or.inl h))
    have h3 : decide (k < 0) = true := by simpa using h
    go_enter Try.func50, Try.ntmps50
    go_wp2
    go_ret
    exact ⟨ret_int (by rw [H.out]), rfl⟩
  · have h3 : decide (k < 0) = false := by simpa using h
    by_cases h2 : n < k
    · have H := Lib.hid (trErr_arg (n := n) (r := r) (Or.inr (Or.inl h2)))
      have h4 : decide (n < k) = true := by simpa using h2
      go_enter Try.func50, Try.ntmps50
      go_wp2
      go_ret
      exact ⟨ret_int (by rw [H.out]), rfl⟩
    · have h4 : decide (n < k) = false := by simpa using h2
      cases r with
      | false =>
        have H := Lib.hid (trErr_arg (n := n) (k := k) (r := false) (by simp))
        go_enter Try.func50, Try.ntmps50
        go_wp2
        go_ret
        exact ⟨ret_int (by rw [H.out]), rfl⟩
      | true =>
        by_cases h5 : 500 < n
        · have H := Lib.hid (trErr_long (n := n) (k := k) (by omega) (by omega) h5)
          go_enter Try.func50, Try.ntmps50
          go_wp2
          go_ret
          exact ⟨ret_int (by rw [H.out]), rfl⟩
        · have H := Lib.hid (trErr_ok (n := n) (k := k) (by omega) (by omega) (by omega))
          go_enter Try.func50, Try.ntmps50
          go_wp2
          go_ret
          exact ⟨ret_int (by rw [H.out]), rfl⟩

/-! numbers that are no greater than a power of 10000, and a word times that -/
theorem pw_eq (x : Int) (n : Nat) : pw x n = x ^ n := by
  induction n with
  | zero => rw [pw, Int.pow_zero]
  | succ n ih => rw [pw, ih, Int.pow_succ]
theorem bp_one : Na.Bp 1 = 4294967296 := by decide
theorem pow_bp {x : Int} (h0 : 0 ≤ x) (h1 : x ≤ 4294967296) (n : Nat) : x ^ n ≤ Na.Bp n := by
  induction n with
  | zero => rw [Int.pow_zero]; decide
  | succ n ih =>
    rw [Int.pow_succ, Na.Bp_add, bp_one]
    have h2 : x ^ n * x ≤ Na.Bp n * x := Int.mul_le_mul_of_nonneg_right ih h0
    have h3 : Na.Bp n * x ≤ Na.Bp n * 4294967296 := Int.mul_le_mul_of_nonneg_left h1 (by have := Na.Bp_pos n; omega)
    omega
theorem fit_pow {x : Int} {n : Nat} (h : x ≤ 10000 ^ n) (hn : n ≤ 1000) : x < Na.Bp 1024 := by
  have h1 := pow_bp (x := 10000) (by omega) (by omega) n
  have h2 := Na.Bp_lt (show n < 1024 by omega)
  omega
theorem fit_mul {x c : Int} {n : Nat} (h : x ≤ 10000 ^ n) (h0 : 0 ≤ x) (hc : 0 ≤ c) (hc' : c < 4294967296) (hn : n ≤ 1000) : x * c < Na.Bp 1024 := by
  have h1 := pow_bp (x := 10000) (by omega) (by omega) n
  have h2 : x * c ≤ Na.Bp n * c := Int.mul_le_mul_of_nonneg_right (by omega) hc
  have h3 : Na.Bp n * c < Na.Bp n * 4294967296 := Int.mul_lt_mul_of_pos_left hc' (Na.Bp_pos n)
  have h4 := Na.Bp_add n 1
  rw [bp_one] at h4
  have h5 := Na.Bp_le (show n + 1 ≤ 1024 by omega)
  omega
theorem i64_u64 {x : Int} (h0 : 0 ≤ x) (h1 : x ≤ 9223372036854775807) : IntKind.u64.wrap x = x := u64_in x h0 (by omega)

set_option maxHeartbeats 1000000 in
theorem power_any (x : Int) (n : Nat) (w : World) (h0 : 0 ≤ x) (h1 : x ≤ 10000) (hn : n ≤ 1000) :
    Calls Try.prog 79 #[.int .i64 x, .int .i64 n] w (PostNum (x ^ n) w) := by
  have f1 : IntKind.u64.wrap x = x := i64_u64 h0 (by omega)
  have O := Lib.hid (of_any x w h0 (by omega))
  have hz : pw x n < Na.Bp 1024 := by
    rw [pw_eq]
    have h2 := pow_bp h0 (by omega) n
    have h3 := Na.Bp_lt (show n < 1024 by omega)
    omega
  have P := Lib.hid (fun A c l W (h : Num W A l x) => show Calls Try.prog 33 #[.slice A l.length c, .int .i64 n] W (PostNumE (x ^ n) W) from by
    rw [← pw_eq]
    refine (pow_any A c n l x W h (by omega)).mono ?_
    rintro e w' (⟨-, k⟩ | ⟨k, -⟩)
    · exact k
    · exact absurd hz k)
  clear hz
  go_enter Try.func79, Try.ntmps79
  go_wp2_with (first
    | (go_at_call 34; (with_reducible refine O.out.mono ?_); rintro e w1 ⟨A1, c1, l1, rfl, h, hb⟩; have B1 := Lib.hid hb; have N1 := Lib.hid h; clear h hb)
    | (go_at_call 33; (with_reducible refine (P.out A1 c1 l1 w1 N1.out).mono ?_); rintro e w2 ⟨A2, c2, l2, rfl, h, hb⟩; have B2 := Lib.hid (B1.out.trans (hb.mono B1.out.size)); have N2 := Lib.hid h; clear h hb))
  go_ret
  exact ⟨_, _, l2, rfl, N2.out, B2.out⟩

set_option maxHeartbeats 1000000 in
theorem product_any (A : Option Addr) (c : Nat) (l : List Int) (x y : Int) (w : World) (hr : Num w A l x) (h0 : 0 ≤ y) (h1 : y ≤ 9223372036854775807) (hz : x * y < Na.Bp 1024) :
    Calls Try.prog 78 #[.slice A l.length c, .int .i64 y] w (PostNum (x * y) w) := by
  have f1 : IntKind.u64.wrap y = y := i64_u64 h0 (by omega)
  have O := Lib.hid (of_any y w h0 (by omega))
  have P := Lib.hid (fun A1 c1 l1 W (hb : Below w.heap.size w W) (h : Num W A1 l1 y) => show Calls Try.prog 35 #[.slice A l.length c, .slice A1 l1.length c1] W (PostNumE (x * y) W) from
    mul_fit A A1 c c1 l l1 x y W (hr.below hb) h hz)
  clear hz hr
  go_enter Try.func78, Try.ntmps78
  go_wp2_with (first
    | (go_at_call 34; (with_reducible refine O.out.mono ?_); rintro e w1 ⟨A1, c1, l1, rfl, h, hb⟩; have B1 := Lib.hid hb; have N1 := Lib.hid h; clear h hb)
    | (go_at_call 35; (with_reducible refine (P.out A1 c1 l1 w1 B1.out N1.out).mono ?_); rintro e w2 ⟨A2, c2, l2, rfl, h, hb⟩; have B2 := Lib.hid (B1.out.trans (hb.mono B1.out.size)); have N2 := Lib.hid h; clear h hb))
  go_ret
  exact ⟨_, _, l2, rfl, N2.out, B2.out⟩

set_option maxHeartbeats 1000000 in
theorem quotient_any (A : Option Addr) (c : Nat) (l : List Int) (x y : Int) (w : World) (hr : Num w A l x) (h0 : 0 < y) (h1 : y ≤ 9223372036854775807) :
    Calls Try.prog 93 #[.slice A l.length c, .int .i64 y] w (PostNum (x / y) w) := by
  have f1 : IntKind.u64.wrap y = y := i64_u64 (by omega) (by omega)
  have O := Lib.hid (of_any y w (by omega) (by omega))
  have P := Lib.hid (fun A1 c1 l1 W (hb : Below w.heap.size w W) (h : Num W A1 l1 y) => show Calls Try.prog 97 #[.slice A l.length c, .slice A1 l1.length c1] W (PostDiv x y W) from
    divmod_yes A A1 c c1 l l1 x y W (hr.below hb) h h0)
  clear hr
  go_enter Try.func93, Try.ntmps93
  go_wp2_with (first
    | (go_at_call 34; (with_reducible refine O.out.mono ?_); rintro e w1 ⟨A1, c1, l1, rfl, h, hb⟩; have B1 := Lib.hid hb; have N1 := Lib.hid h; clear h hb)
    | (go_at_call 97; (with_reducible refine (P.out A1 c1 l1 w1 B1.out N1.out).mono ?_); rintro e w2 ⟨A2, c2, l2, A3, c3, l3, rfl, h, h', hb⟩; have B2 := Lib.hid (B1.out.trans (hb.mono B1.out.size)); have N2 := Lib.hid h; clear h h' hb))
  go_ret
  exact ⟨_, _, l2, rfl, N2.out, B2.out⟩
end Go.Proofs.Ytgbifcfdbelfpaa
