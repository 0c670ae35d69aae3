/-
  The walk of the law StatsExact.
-/
import Derived.Test.YtgbifcfdbelfpaaStaMath
namespace Go.Proofs.Ytgbifcfdbelfpaa
open Go.RowKit
set_option linter.unusedVariables false

theorem lwc_le (n k : Nat) {p : Int} (p0 : 0 ≤ p) (p1 : p ≤ 10000) : lwc n k p ≤ 10000 ^ n := by
  have h := Sb.ls_le (p := p) (q := 10000 - p) p0 (by omega) n (k + 1)
  rw [show p + (10000 - p) = 10000 by omega] at h
  exact h
set_option maxRecDepth 100000 in
set_option maxHeartbeats 8000000 in
theorem exact_111 (a0 a1 a2 : Int) (n k : Nat) (r z v : Int) (w : World) (hn : n ≤ 100) (hk : k ≤ n) (r0 : 1 ≤ r) (r1 : r ≤ 2000) (z0 : 0 ≤ z) (zv : z ≤ v) (v1 : v ≤ 10000) (hz : 0 < z) (hv : v < 10000) (hn0 : 0 < n)
    (TR : Hid (∀ W, Calls Try.prog 27 #[.int .i64 a0, .int .i64 a1, .int .i64 100] W fun e W' => e = .returned (.tuple #[.int .i64 n, .int .i64 k]) ∧ W = W'))
    (RK : Hid (∀ W, Calls Try.prog 21 #[.int .i64 a2] W fun e W' => e = .returned (.int .i64 r) ∧ W = W'))
    (LS : Hid (∀ W, Calls Try.prog 23 #[.int .i64 n, .int .i64 k, .int .i64 r] W (PostIntE z W)))
    (GR : Hid (∀ W, Calls Try.prog 24 #[.int .i64 n, .int .i64 k, .int .i64 r] W (PostIntE v W)))
    (X1 : Hid (exB n r (upc n k z) = true)) (X2 : Hid (exB n r (lwc n k v) = true)) (X3 : Hid (0 < z → exB n r (upc n k (z - 1)) = false)) (X4 : Hid (v < 10000 → exB n r (lwc n k (v + 1)) = false))
    (Y1 : Hid (0 < n → (z - 1) * n < 10000 * k)) (Y2 : Hid (0 < n → 10000 * (k : Int) < (v + 1) * n)) :
    Calls Try.prog 11 #[.int .i64 a0, .int .i64 a1, .int .i64 a2] w fun e w' => e = .returned (.bool true) ∧ Below w.heap.size w w' := by
  have AW := Lib.hid (awake_any w)
  have UP := Lib.hid (fun W => upper_ok n k z W z0 (by omega) (by omega) hk)
  have LW := Lib.hid (fun W => lower_ok n k v W (by omega) v1 (by omega) hk)
  have U1 := Lib.hid (upc_le n k z0 (show z ≤ 10000 by omega))
  have U2 := Lib.hid (lwc_le n k (show 0 ≤ v by omega) v1)
  have UQ := Lib.hid (fun W => upper_ok n k (z - 1) W (by omega) (by omega) (by omega) hk)
  have U3 := Lib.hid (upc_le n k (show 0 ≤ z - 1 by omega) (show z - 1 ≤ 10000 by omega))
  have X3' := Lib.hid (X3.out hz)
  have c1 : decide (0 < z) = true := decide_eq_true hz
  have LQ := Lib.hid (fun W => lower_ok n k (v + 1) W (by omega) (by omega) (by omega) hk)
  have U4 := Lib.hid (lwc_le n k (show 0 ≤ v + 1 by omega) (show v + 1 ≤ 10000 by omega))
  have X4' := Lib.hid (X4.out hv)
  have c2 : decide (v < 10000) = true := decide_eq_true hv
  have c3 : decide (v < z) = false := decide_eq_false (by omega)
  have c4 : decide (z < 0) = false := decide_eq_false (by omega)
  have c5 : decide (10000 < v) = false := decide_eq_false (by omega)
  have n0 : (0 : Int) ≤ (n : Int) := by omega
  have n1 : (n : Int) ≤ 100 := by omega
  have k0 : (0 : Int) ≤ (k : Int) := by omega
  have k1 : (k : Int) ≤ (n : Int) := by omega
  have g1 : ((n : Int) == 0) = false := by rw [beq_eq_false_iff_ne]; omega
  have g1' : (n == 0) = false := by rw [beq_eq_false_iff_ne]; omega
  have y1 := Y1.out hn0
  have y2 := Y2.out hn0
  have b1 : (z - 1) * (n : Int) ≤ 10000 * 100 := Int.le_trans (Int.mul_le_mul_of_nonneg_right (show z - 1 ≤ 10000 by omega) n0) (Int.mul_le_mul_of_nonneg_left n1 (by omega))
  have b2 : -100 ≤ (z - 1) * (n : Int) := by have := Int.mul_le_mul_of_nonneg_right (show -1 ≤ z - 1 by omega) n0; omega
  have b3 : (v + 1) * (n : Int) ≤ 10001 * 100 := Int.le_trans (Int.mul_le_mul_of_nonneg_right (show v + 1 ≤ 10001 by omega) n0) (Int.mul_le_mul_of_nonneg_left n1 (by omega))
  have b4 : 0 ≤ (v + 1) * (n : Int) := Int.mul_nonneg (by omega) n0
  have t0 : ∃ t, (z - 1) * (n : Int) = t := ⟨_, rfl⟩
  obtain ⟨t, ht⟩ := t0
  have u0 : ∃ u, (v + 1) * (n : Int) = u := ⟨_, rfl⟩
  obtain ⟨u, hu⟩ := u0
  rw [ht] at y1 b1 b2
  rw [hu] at y2 b3 b4
  have d1 : decide (t < 10000 * (k : Int)) = true := decide_eq_true y1
  have d2 : decide (10000 * (k : Int) < u) = true := decide_eq_true y2
  go_enter Try.func11, Try.ntmps11
  go_wp2_with (first
    | (go_at_call 14; (with_reducible refine (AW.out).mono ?_); rintro e x1 ⟨rfl, hb⟩; have Bx1 := Lib.hid hb; clear hb)
    | (go_at_call 27; (with_reducible refine (TR.out _).mono ?_); rintro e _y1 ⟨rfl, rfl⟩)
    | (go_at_call 21; (with_reducible refine (RK.out _).mono ?_); rintro e _y2 ⟨rfl, rfl⟩)
    | (go_at_call 23; (with_reducible refine (LS.out x1).mono ?_); rintro e x2 ⟨rfl, hb⟩; have Bx2 := Lib.hid (Bx1.out.trans (hb.mono Bx1.out.size)); clear Bx1 hb)
    | (go_at_call 24; (with_reducible refine (GR.out x2).mono ?_); rintro e x3 ⟨rfl, hb⟩; have Bx3 := Lib.hid (Bx2.out.trans (hb.mono Bx2.out.size)); clear Bx2 hb)
    | (go_at_call 28; (with_reducible refine (UP.out x3).mono ?_); rintro e x4 ⟨Ax, cx, lx, rfl, h, hb⟩; have Bx4 := Lib.hid (Bx3.out.trans (hb.mono Bx3.out.size)); have Nx_x4 := Lib.hid h; clear Bx3 h hb)
    | (go_at_call 29; (with_reducible refine (LW.out x4).mono ?_); rintro e x5 ⟨Ay, cy, ly, rfl, h, hb⟩; have Bx5 := Lib.hid (Bx4.out.trans (hb.mono Bx4.out.size)); have Nx_x5 := Lib.hid (Nx_x4.out.below hb); have Ny_x5 := Lib.hid h; clear Bx4 Nx_x4 h hb)
    | (go_at_call 26; (with_reducible refine (exceedsT Ax cx lx _ r n true x5 Nx_x5.out U1.out (by omega) (by omega) r1 X1.out).mono ?_); rintro e x6 ⟨rfl, hb⟩; have Bx6 := Lib.hid (Bx5.out.trans (hb.mono Bx5.out.size)); have Ny_x6 := Lib.hid (Ny_x5.out.below hb); clear Bx5 Nx_x5 Ny_x5 hb)
    | (go_at_call 26; (with_reducible refine (exceedsT Ay cy ly _ r n true x6 Ny_x6.out U2.out (by omega) (by omega) r1 X2.out).mono ?_); rintro e x7 ⟨rfl, hb⟩; have Bx7 := Lib.hid (Bx6.out.trans (hb.mono Bx6.out.size)); clear Bx6 Ny_x6 hb)
    | (go_at_call 28; (with_reducible refine (UQ.out x7).mono ?_); rintro e x8 ⟨Axx, cxx, lxx, rfl, h, hb⟩; have Bx8 := Lib.hid (Bx7.out.trans (hb.mono Bx7.out.size)); have Nxx_x8 := Lib.hid h; clear Bx7 h hb)
    | (go_at_call 26; (with_reducible refine (exceedsT Axx cxx lxx _ r n false x8 Nxx_x8.out U3.out (by omega) (by omega) r1 X3'.out).mono ?_); rintro e x9 ⟨rfl, hb⟩; have Bx9 := Lib.hid (Bx8.out.trans (hb.mono Bx8.out.size)); clear Bx8 Nxx_x8 hb)
    | (go_at_call 29; (with_reducible refine (LQ.out x9).mono ?_); rintro e x10 ⟨Ayy, cyy, lyy, rfl, h, hb⟩; have Bx10 := Lib.hid (Bx9.out.trans (hb.mono Bx9.out.size)); have Nyy_x10 := Lib.hid h; clear Bx9 h hb)
    | (go_at_call 26; (with_reducible refine (exceedsT Ayy cyy lyy _ r n false x10 Nyy_x10.out U4.out (by omega) (by omega) r1 X4'.out).mono ?_); rintro e x11 ⟨rfl, hb⟩; have Bx11 := Lib.hid (Bx10.out.trans (hb.mono Bx10.out.size)); clear Bx10 Nyy_x10 hb))
  go_ret
  exact ⟨rfl, Bx11.out⟩

set_option maxRecDepth 100000 in
set_option maxHeartbeats 8000000 in
theorem exact_110 (a0 a1 a2 : Int) (n k : Nat) (r z v : Int) (w : World) (hn : n ≤ 100) (hk : k ≤ n) (r0 : 1 ≤ r) (r1 : r ≤ 2000) (z0 : 0 ≤ z) (zv : z ≤ v) (v1 : v ≤ 10000) (hz : 0 < z) (hv : v < 10000) (hn0 : n = 0)
    (TR : Hid (∀ W, Calls Try.prog 27 #[.int .i64 a0, .int .i64 a1, .int .i64 100] W fun e W' => e = .returned (.tuple #[.int .i64 n, .int .i64 k]) ∧ W = W'))
    (RK : Hid (∀ W, Calls Try.prog 21 #[.int .i64 a2] W fun e W' => e = .returned (.int .i64 r) ∧ W = W'))
    (LS : Hid (∀ W, Calls Try.prog 23 #[.int .i64 n, .int .i64 k, .int .i64 r] W (PostIntE z W)))
    (GR : Hid (∀ W, Calls Try.prog 24 #[.int .i64 n, .int .i64 k, .int .i64 r] W (PostIntE v W)))
    (X1 : Hid (exB n r (upc n k z) = true)) (X2 : Hid (exB n r (lwc n k v) = true)) (X3 : Hid (0 < z → exB n r (upc n k (z - 1)) = false)) (X4 : Hid (v < 10000 → exB n r (lwc n k (v + 1)) = false))
    (Y1 : Hid (0 < n → (z - 1) * n < 10000 * k)) (Y2 : Hid (0 < n → 10000 * (k : Int) < (v + 1) * n)) :
    Calls Try.prog 11 #[.int .i64 a0, .int .i64 a1, .int .i64 a2] w fun e w' => e = .returned (.bool true) ∧ Below w.heap.size w w' := by
  have AW := Lib.hid (awake_any w)
  have UP := Lib.hid (fun W => upper_ok n k z W z0 (by omega) (by omega) hk)
  have LW := Lib.hid (fun W => lower_ok n k v W (by omega) v1 (by omega) hk)
  have U1 := Lib.hid (upc_le n k z0 (show z ≤ 10000 by omega))
  have U2 := Lib.hid (lwc_le n k (show 0 ≤ v by omega) v1)
  have UQ := Lib.hid (fun W => upper_ok n k (z - 1) W (by omega) (by omega) (by omega) hk)
  have U3 := Lib.hid (upc_le n k (show 0 ≤ z - 1 by omega) (show z - 1 ≤ 10000 by omega))
  have X3' := Lib.hid (X3.out hz)
  have c1 : decide (0 < z) = true := decide_eq_true hz
  have LQ := Lib.hid (fun W => lower_ok n k (v + 1) W (by omega) (by omega) (by omega) hk)
  have U4 := Lib.hid (lwc_le n k (show 0 ≤ v + 1 by omega) (show v + 1 ≤ 10000 by omega))
  have X4' := Lib.hid (X4.out hv)
  have c2 : decide (v < 10000) = true := decide_eq_true hv
  have c3 : decide (v < z) = false := decide_eq_false (by omega)
  have c4 : decide (z < 0) = false := decide_eq_false (by omega)
  have c5 : decide (10000 < v) = false := decide_eq_false (by omega)
  have n0 : (0 : Int) ≤ (n : Int) := by omega
  have n1 : (n : Int) ≤ 100 := by omega
  have k0 : (0 : Int) ≤ (k : Int) := by omega
  have k1 : (k : Int) ≤ (n : Int) := by omega
  have g1 : ((n : Int) == 0) = true := by rw [beq_iff_eq]; omega
  have g1' : (n == 0) = true := by rw [beq_iff_eq]; omega
  have HN0 := Lib.hid hn0; clear hn0
  go_enter Try.func11, Try.ntmps11
  go_wp2_with (first
    | (go_at_call 14; (with_reducible refine (AW.out).mono ?_); rintro e x1 ⟨rfl, hb⟩; have Bx1 := Lib.hid hb; clear hb)
    | (go_at_call 27; (with_reducible refine (TR.out _).mono ?_); rintro e _y1 ⟨rfl, rfl⟩)
    | (go_at_call 21; (with_reducible refine (RK.out _).mono ?_); rintro e _y2 ⟨rfl, rfl⟩)
    | (go_at_call 23; (with_reducible refine (LS.out x1).mono ?_); rintro e x2 ⟨rfl, hb⟩; have Bx2 := Lib.hid (Bx1.out.trans (hb.mono Bx1.out.size)); clear Bx1 hb)
    | (go_at_call 24; (with_reducible refine (GR.out x2).mono ?_); rintro e x3 ⟨rfl, hb⟩; have Bx3 := Lib.hid (Bx2.out.trans (hb.mono Bx2.out.size)); clear Bx2 hb)
    | (go_at_call 28; (with_reducible refine (UP.out x3).mono ?_); rintro e x4 ⟨Ax, cx, lx, rfl, h, hb⟩; have Bx4 := Lib.hid (Bx3.out.trans (hb.mono Bx3.out.size)); have Nx_x4 := Lib.hid h; clear Bx3 h hb)
    | (go_at_call 29; (with_reducible refine (LW.out x4).mono ?_); rintro e x5 ⟨Ay, cy, ly, rfl, h, hb⟩; have Bx5 := Lib.hid (Bx4.out.trans (hb.mono Bx4.out.size)); have Nx_x5 := Lib.hid (Nx_x4.out.below hb); have Ny_x5 := Lib.hid h; clear Bx4 Nx_x4 h hb)
    | (go_at_call 26; (with_reducible refine (exceedsT Ax cx lx _ r n true x5 Nx_x5.out U1.out (by omega) (by omega) r1 X1.out).mono ?_); rintro e x6 ⟨rfl, hb⟩; have Bx6 := Lib.hid (Bx5.out.trans (hb.mono Bx5.out.size)); have Ny_x6 := Lib.hid (Ny_x5.out.below hb); clear Bx5 Nx_x5 Ny_x5 hb)
    | (go_at_call 26; (with_reducible refine (exceedsT Ay cy ly _ r n true x6 Ny_x6.out U2.out (by omega) (by omega) r1 X2.out).mono ?_); rintro e x7 ⟨rfl, hb⟩; have Bx7 := Lib.hid (Bx6.out.trans (hb.mono Bx6.out.size)); clear Bx6 Ny_x6 hb)
    | (go_at_call 28; (with_reducible refine (UQ.out x7).mono ?_); rintro e x8 ⟨Axx, cxx, lxx, rfl, h, hb⟩; have Bx8 := Lib.hid (Bx7.out.trans (hb.mono Bx7.out.size)); have Nxx_x8 := Lib.hid h; clear Bx7 h hb)
    | (go_at_call 26; (with_reducible refine (exceedsT Axx cxx lxx _ r n false x8 Nxx_x8.out U3.out (by omega) (by omega) r1 X3'.out).mono ?_); rintro e x9 ⟨rfl, hb⟩; have Bx9 := Lib.hid (Bx8.out.trans (hb.mono Bx8.out.size)); clear Bx8 Nxx_x8 hb)
    | (go_at_call 29; (with_reducible refine (LQ.out x9).mono ?_); rintro e x10 ⟨Ayy, cyy, lyy, rfl, h, hb⟩; have Bx10 := Lib.hid (Bx9.out.trans (hb.mono Bx9.out.size)); have Nyy_x10 := Lib.hid h; clear Bx9 h hb)
    | (go_at_call 26; (with_reducible refine (exceedsT Ayy cyy lyy _ r n false x10 Nyy_x10.out U4.out (by omega) (by omega) r1 X4'.out).mono ?_); rintro e x11 ⟨rfl, hb⟩; have Bx11 := Lib.hid (Bx10.out.trans (hb.mono Bx10.out.size)); clear Bx10 Nyy_x10 hb))
  go_ret
  exact ⟨rfl, Bx11.out⟩

set_option maxRecDepth 100000 in
set_option maxHeartbeats 8000000 in
theorem exact_101 (a0 a1 a2 : Int) (n k : Nat) (r z v : Int) (w : World) (hn : n ≤ 100) (hk : k ≤ n) (r0 : 1 ≤ r) (r1 : r ≤ 2000) (z0 : 0 ≤ z) (zv : z ≤ v) (v1 : v ≤ 10000) (hz : 0 < z) (hv : v = 10000) (hn0 : 0 < n)
    (TR : Hid (∀ W, Calls Try.prog 27 #[.int .i64 a0, .int .i64 a1, .int .i64 100] W fun e W' => e = .returned (.tuple #[.int .i64 n, .int .i64 k]) ∧ W = W'))
    (RK : Hid (∀ W, Calls Try.prog 21 #[.int .i64 a2] W fun e W' => e = .returned (.int .i64 r) ∧ W = W'))
    (LS : Hid (∀ W, Calls Try.prog 23 #[.int .i64 n, .int .i64 k, .int .i64 r] W (PostIntE z W)))
    (GR : Hid (∀ W, Calls Try.prog 24 #[.int .i64 n, .int .i64 k, .int .i64 r] W (PostIntE v W)))
    (X1 : Hid (exB n r (upc n k z) = true)) (X2 : Hid (exB n r (lwc n k v) = true)) (X3 : Hid (0 < z → exB n r (upc n k (z - 1)) = false)) (X4 : Hid (v < 10000 → exB n r (lwc n k (v + 1)) = false))
    (Y1 : Hid (0 < n → (z - 1) * n < 10000 * k)) (Y2 : Hid (0 < n → 10000 * (k : Int) < (v + 1) * n)) :
    Calls Try.prog 11 #[.int .i64 a0, .int .i64 a1, .int .i64 a2] w fun e w' => e = .returned (.bool true) ∧ Below w.heap.size w w' := by
  have AW := Lib.hid (awake_any w)
  have UP := Lib.hid (fun W => upper_ok n k z W z0 (by omega) (by omega) hk)
  have LW := Lib.hid (fun W => lower_ok n k v W (by omega) v1 (by omega) hk)
  have U1 := Lib.hid (upc_le n k z0 (show z ≤ 10000 by omega))
  have U2 := Lib.hid (lwc_le n k (show 0 ≤ v by omega) v1)
  have UQ := Lib.hid (fun W => upper_ok n k (z - 1) W (by omega) (by omega) (by omega) hk)
  have U3 := Lib.hid (upc_le n k (show 0 ≤ z - 1 by omega) (show z - 1 ≤ 10000 by omega))
  have X3' := Lib.hid (X3.out hz)
  have c1 : decide (0 < z) = true := decide_eq_true hz
  have c2 : decide (v < 10000) = false := decide_eq_false (by omega)
  have HV := Lib.hid hv; clear hv
  have c3 : decide (v < z) = false := decide_eq_false (by omega)
  have c4 : decide (z < 0) = false := decide_eq_false (by omega)
  have c5 : decide (10000 < v) = false := decide_eq_false (by omega)
  have n0 : (0 : Int) ≤ (n : Int) := by omega
  have n1 : (n : Int) ≤ 100 := by omega
  have k0 : (0 : Int) ≤ (k : Int) := by omega
  have k1 : (k : Int) ≤ (n : Int) := by omega
  have g1 : ((n : Int) == 0) = false := by rw [beq_eq_false_iff_ne]; omega
  have g1' : (n == 0) = false := by rw [beq_eq_false_iff_ne]; omega
  have y1 := Y1.out hn0
  have y2 := Y2.out hn0
  have b1 : (z - 1) * (n : Int) ≤ 10000 * 100 := Int.le_trans (Int.mul_le_mul_of_nonneg_right (show z - 1 ≤ 10000 by omega) n0) (Int.mul_le_mul_of_nonneg_left n1 (by omega))
  have b2 : -100 ≤ (z - 1) * (n : Int) := by have := Int.mul_le_mul_of_nonneg_right (show -1 ≤ z - 1 by omega) n0; omega
  have b3 : (v + 1) * (n : Int) ≤ 10001 * 100 := Int.le_trans (Int.mul_le_mul_of_nonneg_right (show v + 1 ≤ 10001 by omega) n0) (Int.mul_le_mul_of_nonneg_left n1 (by omega))
  have b4 : 0 ≤ (v + 1) * (n : Int) := Int.mul_nonneg (by omega) n0
  have t0 : ∃ t, (z - 1) * (n : Int) = t := ⟨_, rfl⟩
  obtain ⟨t, ht⟩ := t0
  have u0 : ∃ u, (v + 1) * (n : Int) = u := ⟨_, rfl⟩
  obtain ⟨u, hu⟩ := u0
  rw [ht] at y1 b1 b2
  rw [hu] at y2 b3 b4
  have d1 : decide (t < 10000 * (k : Int)) = true := decide_eq_true y1
  have d2 : decide (10000 * (k : Int) < u) = true := decide_eq_true y2
  go_enter Try.func11, Try.ntmps11
  go_wp2_with (first
    | (go_at_call 14; (with_reducible refine (AW.out).mono ?_); rintro e x1 ⟨rfl, hb⟩; have Bx1 := Lib.hid hb; clear hb)
    | (go_at_call 27; (with_reducible refine (TR.out _).mono ?_); rintro e _y1 ⟨rfl, rfl⟩)
    | (go_at_call 21; (with_reducible refine (RK.out _).mono ?_); rintro e _y2 ⟨rfl, rfl⟩)
    | (go_at_call 23; (with_reducible refine (LS.out x1).mono ?_); rintro e x2 ⟨rfl, hb⟩; have Bx2 := Lib.hid (Bx1.out.trans (hb.mono Bx1.out.size)); clear Bx1 hb)
    | (go_at_call 24; (with_reducible refine (GR.out x2).mono ?_); rintro e x3 ⟨rfl, hb⟩; have Bx3 := Lib.hid (Bx2.out.trans (hb.mono Bx2.out.size)); clear Bx2 hb)
    | (go_at_call 28; (with_reducible refine (UP.out x3).mono ?_); rintro e x4 ⟨Ax, cx, lx, rfl, h, hb⟩; have Bx4 := Lib.hid (Bx3.out.trans (hb.mono Bx3.out.size)); have Nx_x4 := Lib.hid h; clear Bx3 h hb)
    | (go_at_call 29; (with_reducible refine (LW.out x4).mono ?_); rintro e x5 ⟨Ay, cy, ly, rfl, h, hb⟩; have Bx5 := Lib.hid (Bx4.out.trans (hb.mono Bx4.out.size)); have Nx_x5 := Lib.hid (Nx_x4.out.below hb); have Ny_x5 := Lib.hid h; clear Bx4 Nx_x4 h hb)
    | (go_at_call 26; (with_reducible refine (exceedsT Ax cx lx _ r n true x5 Nx_x5.out U1.out (by omega) (by omega) r1 X1.out).mono ?_); rintro e x6 ⟨rfl, hb⟩; have Bx6 := Lib.hid (Bx5.out.trans (hb.mono Bx5.out.size)); have Ny_x6 := Lib.hid (Ny_x5.out.below hb); clear Bx5 Nx_x5 Ny_x5 hb)
    | (go_at_call 26; (with_reducible refine (exceedsT Ay cy ly _ r n true x6 Ny_x6.out U2.out (by omega) (by omega) r1 X2.out).mono ?_); rintro e x7 ⟨rfl, hb⟩; have Bx7 := Lib.hid (Bx6.out.trans (hb.mono Bx6.out.size)); clear Bx6 Ny_x6 hb)
    | (go_at_call 28; (with_reducible refine (UQ.out x7).mono ?_); rintro e x8 ⟨Axx, cxx, lxx, rfl, h, hb⟩; have Bx8 := Lib.hid (Bx7.out.trans (hb.mono Bx7.out.size)); have Nxx_x8 := Lib.hid h; clear Bx7 h hb)
    | (go_at_call 26; (with_reducible refine (exceedsT Axx cxx lxx _ r n false x8 Nxx_x8.out U3.out (by omega) (by omega) r1 X3'.out).mono ?_); rintro e x9 ⟨rfl, hb⟩; have Bx9 := Lib.hid (Bx8.out.trans (hb.mono Bx8.out.size)); clear Bx8 Nxx_x8 hb))
  go_ret
  exact ⟨rfl, Bx9.out⟩

set_option maxRecDepth 100000 in
set_option maxHeartbeats 8000000 in
theorem exact_100 (a0 a1 a2 : Int) (n k : Nat) (r z v : Int) (w : World) (hn : n ≤ 100) (hk : k ≤ n) (r0 : 1 ≤ r) (r1 : r ≤ 2000) (z0 : 0 ≤ z) (zv : z ≤ v) (v1 : v ≤ 10000) (hz : 0 < z) (hv : v = 10000) (hn0 : n = 0)
    (TR : Hid (∀ W, Calls Try.prog 27 #[.int .i64 a0, .int .i64 a1, .int .i64 100] W fun e W' => e = .returned (.tuple #[.int .i64 n, .int .i64 k]) ∧ W = W'))
    (RK : Hid (∀ W, Calls Try.prog 21 #[.int .i64 a2] W fun e W' => e = .returned (.int .i64 r) ∧ W = W'))
    (LS : Hid (∀ W, Calls Try.prog 23 #[.int .i64 n, .int .i64 k, .int .i64 r] W (PostIntE z W)))
    (GR : Hid (∀ W, Calls Try.prog 24 #[.int .i64 n, .int .i64 k, .int .i64 r] W (PostIntE v W)))
    (X1 : Hid (exB n r (upc n k z) = true)) (X2 : Hid (exB n r (lwc n k v) = true)) (X3 : Hid (0 < z → exB n r (upc n k (z - 1)) = false)) (X4 : Hid (v < 10000 → exB n r (lwc n k (v + 1)) = false))
    (Y1 : Hid (0 < n → (z - 1) * n < 10000 * k)) (Y2 : Hid (0 < n → 10000 * (k : Int) < (v + 1) * n)) :
    Calls Try.prog 11 #[.int .i64 a0, .int .i64 a1, .int .i64 a2] w fun e w' => e = .returned (.bool true) ∧ Below w.heap.size w w' := by
  have AW := Lib.hid (awake_any w)
  have UP := Lib.hid (fun W => upper_ok n k z W z0 (by omega) (by omega) hk)
  have LW := Lib.hid (fun W => lower_ok n k v W (by omega) v1 (by omega) hk)
  have U1 := Lib.hid (upc_le n k z0 (show z ≤ 10000 by omega))
  have U2 := Lib.hid (lwc_le n k (show 0 ≤ v by omega) v1)
  have UQ := Lib.hid (fun W => upper_ok n k (z - 1) W (by omega) (by omega) (by omega) hk)
  have U3 := Lib.hid (upc_le n k (show 0 ≤ z - 1 by omega) (show z - 1 ≤ 10000 by omega))
  have X3' := Lib.hid (X3.out hz)
  have c1 : decide (0 < z) = true := decide_eq_true hz
  have c2 : decide (v < 10000) = false := decide_eq_false (by omega)
  have HV := Lib.hid hv; clear hv
  have c3 : decide (v < z) = false := decide_eq_false (by omega)
  have c4 : decide (z < 0) = false := decide_eq_false (by omega)
  have c5 : decide (10000 < v) = false := decide_eq_false (by omega)
  have n0 : (0 : Int) ≤ (n : Int) := by omega
  have n1 : (n : Int) ≤ 100 := by omega
  have k0 : (0 : Int) ≤ (k : Int) := by omega
  have k1 : (k : Int) ≤ (n : Int) := by omega
  have g1 : ((n : Int) == 0) = true := by rw [beq_iff_eq]; omega
  have g1' : (n == 0) = true := by rw [beq_iff_eq]; omega
  have HN0 := Lib.hid hn0; clear hn0
  go_enter Try.func11, Try.ntmps11
  go_wp2_with (first
    | (go_at_call 14; (with_reducible refine (AW.out).mono ?_); rintro e x1 ⟨rfl, hb⟩; have Bx1 := Lib.hid hb; clear hb)
    | (go_at_call 27; (with_reducible refine (TR.out _).mono ?_); rintro e _y1 ⟨rfl, rfl⟩)
    | (go_at_call 21; (with_reducible refine (RK.out _).mono ?_); rintro e _y2 ⟨rfl, rfl⟩)
    | (go_at_call 23; (with_reducible refine (LS.out x1).mono ?_); rintro e x2 ⟨rfl, hb⟩; have Bx2 := Lib.hid (Bx1.out.trans (hb.mono Bx1.out.size)); clear Bx1 hb)
    | (go_at_call 24; (with_reducible refine (GR.out x2).mono ?_); rintro e x3 ⟨rfl, hb⟩; have Bx3 := Lib.hid (Bx2.out.trans (hb.mono Bx2.out.size)); clear Bx2 hb)
    | (go_at_call 28; (with_reducible refine (UP.out x3).mono ?_); rintro e x4 ⟨Ax, cx, lx, rfl, h, hb⟩; have Bx4 := Lib.hid (Bx3.out.trans (hb.mono Bx3.out.size)); have Nx_x4 := Lib.hid h; clear Bx3 h hb)
    | (go_at_call 29; (with_reducible refine (LW.out x4).mono ?_); rintro e x5 ⟨Ay, cy, ly, rfl, h, hb⟩; have Bx5 := Lib.hid (Bx4.out.trans (hb.mono Bx4.out.size)); have Nx_x5 := Lib.hid (Nx_x4.out.below hb); have Ny_x5 := Lib.hid h; clear Bx4 Nx_x4 h hb)
    | (go_at_call 26; (with_reducible refine (exceedsT Ax cx lx _ r n true x5 Nx_x5.out U1.out (by omega) (by omega) r1 X1.out).mono ?_); rintro e x6 ⟨rfl, hb⟩; have Bx6 := Lib.hid (Bx5.out.trans (hb.mono Bx5.out.size)); have Ny_x6 := Lib.hid (Ny_x5.out.below hb); clear Bx5 Nx_x5 Ny_x5 hb)
    | (go_at_call 26; (with_reducible refine (exceedsT Ay cy ly _ r n true x6 Ny_x6.out U2.out (by omega) (by omega) r1 X2.out).mono ?_); rintro e x7 ⟨rfl, hb⟩; have Bx7 := Lib.hid (Bx6.out.trans (hb.mono Bx6.out.size)); clear Bx6 Ny_x6 hb)
    | (go_at_call 28; (with_reducible refine (UQ.out x7).mono ?_); rintro e x8 ⟨Axx, cxx, lxx, rfl, h, hb⟩; have Bx8 := Lib.hid (Bx7.out.trans (hb.mono Bx7.out.size)); have Nxx_x8 := Lib.hid h; clear Bx7 h hb)
    | (go_at_call 26; (with_reducible refine (exceedsT Axx cxx lxx _ r n false x8 Nxx_x8.out U3.out (by omega) (by omega) r1 X3'.out).mono ?_); rintro e x9 ⟨rfl, hb⟩; have Bx9 := Lib.hid (Bx8.out.trans (hb.mono Bx8.out.size)); clear Bx8 Nxx_x8 hb))
  go_ret
  exact ⟨rfl, Bx9.out⟩

set_option maxRecDepth 100000 in
set_option maxHeartbeats 8000000 in
theorem exact_011 (a0 a1 a2 : Int) (n k : Nat) (r z v : Int) (w : World) (hn : n ≤ 100) (hk : k ≤ n) (r0 : 1 ≤ r) (r1 : r ≤ 2000) (z0 : 0 ≤ z) (zv : z ≤ v) (v1 : v ≤ 10000) (hz : z = 0) (hv : v < 10000) (hn0 : 0 < n)
    (TR : Hid (∀ W, Calls Try.prog 27 #[.int .i64 a0, .int .i64 a1, .int .i64 100] W fun e W' => e = .returned (.tuple #[.int .i64 n, .int .i64 k]) ∧ W = W'))
    (RK : Hid (∀ W, Calls Try.prog 21 #[.int .i64 a2] W fun e W' => e = .returned (.int .i64 r) ∧ W = W'))
    (LS : Hid (∀ W, Calls Try.prog 23 #[.int .i64 n, .int .i64 k, .int .i64 r] W (PostIntE z W)))
    (GR : Hid (∀ W, Calls Try.prog 24 #[.int .i64 n, .int .i64 k, .int .i64 r] W (PostIntE v W)))
    (X1 : Hid (exB n r (upc n k z) = true)) (X2 : Hid (exB n r (lwc n k v) = true)) (X3 : Hid (0 < z → exB n r (upc n k (z - 1)) = false)) (X4 : Hid (v < 10000 → exB n r (lwc n k (v + 1)) = false))
    (Y1 : Hid (0 < n → (z - 1) * n < 10000 * k)) (Y2 : Hid (0 < n → 10000 * (k : Int) < (v + 1) * n)) :
    Calls Try.prog 11 #[.int .i64 a0, .int .i64 a1, .int .i64 a2] w fun e w' => e = .returned (.bool true) ∧ Below w.heap.size w w' := by
  have AW := Lib.hid (awake_any w)
  have UP := Lib.hid (fun W => upper_ok n k z W z0 (by omega) (by omega) hk)
  have LW := Lib.hid (fun W => lower_ok n k v W (by omega) v1 (by omega) hk)
  have U1 := Lib.hid (upc_le n k z0 (show z ≤ 10000 by omega))
  have U2 := Lib.hid (lwc_le n k (show 0 ≤ v by omega) v1)
  have c1 : decide (0 < z) = false := decide_eq_false (by omega)
  have HZ := Lib.hid hz; clear hz
  have LQ := Lib.hid (fun W => lower_ok n k (v + 1) W (by omega) (by omega) (by omega) hk)
  have U4 := Lib.hid (lwc_le n k (show 0 ≤ v + 1 by omega) (show v + 1 ≤ 10000 by omega))
  have X4' := Lib.hid (X4.out hv)
  have c2 : decide (v < 10000) = true := decide_eq_true hv
  have c3 : decide (v < z) = false := decide_eq_false (by omega)
  have c4 : decide (z < 0) = false := decide_eq_false (by omega)
  have c5 : decide (10000 < v) = false := decide_eq_false (by omega)
  have n0 : (0 : Int) ≤ (n : Int) := by omega
  have n1 : (n : Int) ≤ 100 := by omega
  have k0 : (0 : Int) ≤ (k : Int) := by omega
  have k1 : (k : Int) ≤ (n : Int) := by omega
  have g1 : ((n : Int) == 0) = false := by rw [beq_eq_false_iff_ne]; omega
  have g1' : (n == 0) = false := by rw [beq_eq_false_iff_ne]; omega
  have y1 := Y1.out hn0
  have y2 := Y2.out hn0
  have b1 : (z - 1) * (n : Int) ≤ 10000 * 100 := Int.le_trans (Int.mul_le_mul_of_nonneg_right (show z - 1 ≤ 10000 by omega) n0) (Int.mul_le_mul_of_nonneg_left n1 (by omega))
  have b2 : -100 ≤ (z - 1) * (n : Int) := by have := Int.mul_le_mul_of_nonneg_right (show -1 ≤ z - 1 by omega) n0; omega
  have b3 : (v + 1) * (n : Int) ≤ 10001 * 100 := Int.le_trans (Int.mul_le_mul_of_nonneg_right (show v + 1 ≤ 10001 by omega) n0) (Int.mul_le_mul_of_nonneg_left n1 (by omega))
  have b4 : 0 ≤ (v + 1) * (n : Int) := Int.mul_nonneg (by omega) n0
  have t0 : ∃ t, (z - 1) * (n : Int) = t := ⟨_, rfl⟩
  obtain ⟨t, ht⟩ := t0
  have u0 : ∃ u, (v + 1) * (n : Int) = u := ⟨_, rfl⟩
  obtain ⟨u, hu⟩ := u0
  rw [ht] at y1 b1 b2
  rw [hu] at y2 b3 b4
  have d1 : decide (t < 10000 * (k : Int)) = true := decide_eq_true y1
  have d2 : decide (10000 * (k : Int) < u) = true := decide_eq_true y2
  go_enter Try.func11, Try.ntmps11
  go_wp2_with (first
    | (go_at_call 14; (with_reducible refine (AW.out).mono ?_); rintro e x1 ⟨rfl, hb⟩; have Bx1 := Lib.hid hb; clear hb)
    | (go_at_call 27; (with_reducible refine (TR.out _).mono ?_); rintro e _y1 ⟨rfl, rfl⟩)
    | (go_at_call 21; (with_reducible refine (RK.out _).mono ?_); rintro e _y2 ⟨rfl, rfl⟩)
    | (go_at_call 23; (with_reducible refine (LS.out x1).mono ?_); rintro e x2 ⟨rfl, hb⟩; have Bx2 := Lib.hid (Bx1.out.trans (hb.mono Bx1.out.size)); clear Bx1 hb)
    | (go_at_call 24; (with_reducible refine (GR.out x2).mono ?_); rintro e x3 ⟨rfl, hb⟩; have Bx3 := Lib.hid (Bx2.out.trans (hb.mono Bx2.out.size)); clear Bx2 hb)
    | (go_at_call 28; (with_reducible refine (UP.out x3).mono ?_); rintro e x4 ⟨Ax, cx, lx, rfl, h, hb⟩; have Bx4 := Lib.hid (Bx3.out.trans (hb.mono Bx3.out.size)); have Nx_x4 := Lib.hid h; clear Bx3 h hb)
    | (go_at_call 29; (with_reducible refine (LW.out x4).mono ?_); rintro e x5 ⟨Ay, cy, ly, rfl, h, hb⟩; have Bx5 := Lib.hid (Bx4.out.trans (hb.mono Bx4.out.size)); have Nx_x5 := Lib.hid (Nx_x4.out.below hb); have Ny_x5 := Lib.hid h; clear Bx4 Nx_x4 h hb)
    | (go_at_call 26; (with_reducible refine (exceedsT Ax cx lx _ r n true x5 Nx_x5.out U1.out (by omega) (by omega) r1 X1.out).mono ?_); rintro e x6 ⟨rfl, hb⟩; have Bx6 := Lib.hid (Bx5.out.trans (hb.mono Bx5.out.size)); have Ny_x6 := Lib.hid (Ny_x5.out.below hb); clear Bx5 Nx_x5 Ny_x5 hb)
    | (go_at_call 26; (with_reducible refine (exceedsT Ay cy ly _ r n true x6 Ny_x6.out U2.out (by omega) (by omega) r1 X2.out).mono ?_); rintro e x7 ⟨rfl, hb⟩; have Bx7 := Lib.hid (Bx6.out.trans (hb.mono Bx6.out.size)); clear Bx6 Ny_x6 hb)
    | (go_at_call 29; (with_reducible refine (LQ.out x7).mono ?_); rintro e x8 ⟨Ayy, cyy, lyy, rfl, h, hb⟩; have Bx8 := Lib.hid (Bx7.out.trans (hb.mono Bx7.out.size)); have Nyy_x8 := Lib.hid h; clear Bx7 h hb)
    | (go_at_call 26; (with_reducible refine (exceedsT Ayy cyy lyy _ r n false x8 Nyy_x8.out U4.out (by omega) (by omega) r1 X4'.out).mono ?_); rintro e x9 ⟨rfl, hb⟩; have Bx9 := Lib.hid (Bx8.out.trans (hb.mono Bx8.out.size)); clear Bx8 Nyy_x8 hb))
  go_ret
  exact ⟨rfl, Bx9.out⟩

set_option maxRecDepth 100000 in
set_option maxHeartbeats 8000000 in
theorem exact_010 (a0 a1 a2 : Int) (n k : Nat) (r z v : Int) (w : World) (hn : n ≤ 100) (hk : k ≤ n) (r0 : 1 ≤ r) (r1 : r ≤ 2000) (z0 : 0 ≤ z) (zv : z ≤ v) (v1 : v ≤ 10000) (hz : z = 0) (hv : v < 10000) (hn0 : n = 0)
    (TR : Hid (∀ W, Calls Try.prog 27 #[.int .i64 a0, .int .i64 a1, .int .i64 100] W fun e W' => e = .returned (.tuple #[.int .i64 n, .int .i64 k]) ∧ W = W'))
    (RK : Hid (∀ W, Calls Try.prog 21 #[.int .i64 a2] W fun e W' => e = .returned (.int .i64 r) ∧ W = W'))
    (LS : Hid (∀ W, Calls Try.prog 23 #[.int .i64 n, .int .i64 k, .int .i64 r] W (PostIntE z W)))
    (GR : Hid (∀ W, Calls Try.prog 24 #[.int .i64 n, .int .i64 k, .int .i64 r] W (PostIntE v W)))
    (X1 : Hid (exB n r (upc n k z) = true)) (X2 : Hid (exB n r (lwc n k v) = true)) (X3 : Hid (0 < z → exB n r (upc n k (z - 1)) = false)) (X4 : Hid (v < 10000 → exB n r (lwc n k (v + 1)) = false))
    (Y1 : Hid (0 < n → (z - 1) * n < 10000 * k)) (Y2 : Hid (0 < n → 10000 * (k : Int) < (v + 1) * n)) :
    Calls Try.prog 11 #[.int .i64 a0, .int .i64 a1, .int .i64 a2] w fun e w' => e = .returned (.bool true) ∧ Below w.heap.size w w' := by
  have AW := Lib.hid (awake_any w)
  have UP := Lib.hid (fun W => upper_ok n k z W z0 (by omega) (by omega) hk)
  have LW := Lib.hid (fun W => lower_ok n k v W (by omega) v1 (by omega) hk)
  have U1 := Lib.hid (upc_le n k z0 (show z ≤ 10000 by omega))
  have U2 := Lib.hid (lwc_le n k (show 0 ≤ v by omega) v1)
  have c1 : decide (0 < z) = false := decide_eq_false (by omega)
  have HZ := Lib.hid hz; clear hz
  have LQ := Lib.hid (fun W => lower_ok n k (v + 1) W (by omega) (by omega) (by omega) hk)
  have U4 := Lib.hid (lwc_le n k (show 0 ≤ v + 1 by omega) (show v + 1 ≤ 10000 by omega))
  have X4' := Lib.hid (X4.out hv)
  have c2 : decide (v < 10000) = true := decide_eq_true hv
  have c3 : decide (v < z) = false := decide_eq_false (by omega)
  have c4 : decide (z < 0) = false := decide_eq_false (by omega)
  have c5 : decide (10000 < v) = false := decide_eq_false (by omega)
  have n0 : (0 : Int) ≤ (n : Int) := by omega
  have n1 : (n : Int) ≤ 100 := by omega
  have k0 : (0 : Int) ≤ (k : Int) := by omega
  have k1 : (k : Int) ≤ (n : Int) := by omega
  have g1 : ((n : Int) == 0) = true := by rw [beq_iff_eq]; omega
  have g1' : (n == 0) = true := by rw [beq_iff_eq]; omega
  have HN0 := Lib.hid hn0; clear hn0
  go_enter Try.func11, Try.ntmps11
  go_wp2_with (first
    | (go_at_call 14; (with_reducible refine (AW.out).mono ?_); rintro e x1 ⟨rfl, hb⟩; have Bx1 := Lib.hid hb; clear hb)
    | (go_at_call 27; (with_reducible refine (TR.out _).mono ?_); rintro e _y1 ⟨rfl, rfl⟩)
    | (go_at_call 21; (with_reducible refine (RK.out _).mono ?_); rintro e _y2 ⟨rfl, rfl⟩)
    | (go_at_call 23; (with_reducible refine (LS.out x1).mono ?_); rintro e x2 ⟨rfl, hb⟩; have Bx2 := Lib.hid (Bx1.out.trans (hb.mono Bx1.out.size)); clear Bx1 hb)
    | (go_at_call 24; (with_reducible refine (GR.out x2).mono ?_); rintro e x3 ⟨rfl, hb⟩; have Bx3 := Lib.hid (Bx2.out.trans (hb.mono Bx2.out.size)); clear Bx2 hb)
    | (go_at_call 28; (with_reducible refine (UP.out x3).mono ?_); rintro e x4 ⟨Ax, cx, lx, rfl, h, hb⟩; have Bx4 := Lib.hid (Bx3.out.trans (hb.mono Bx3.out.size)); have Nx_x4 := Lib.hid h; clear Bx3 h hb)
    | (go_at_call 29; (with_reducible refine (LW.out x4).mono ?_); rintro e x5 ⟨Ay, cy, ly, rfl, h, hb⟩; have Bx5 := Lib.hid (Bx4.out.trans (hb.mono Bx4.out.size)); have Nx_x5 := Lib.hid (Nx_x4.out.below hb); have Ny_x5 := Lib.hid h; clear Bx4 Nx_x4 h hb)
    | (go_at_call 26; (with_reducible refine (exceedsT Ax cx lx _ r n true x5 Nx_x5.out U1.out (by omega) (by omega) r1 X1.out).mono ?_); rintro e x6 ⟨rfl, hb⟩; have Bx6 := Lib.hid (Bx5.out.trans (hb.mono Bx5.out.size)); have Ny_x6 := Lib.hid (Ny_x5.out.below hb); clear Bx5 Nx_x5 Ny_x5 hb)
    | (go_at_call 26; (with_reducible refine (exceedsT Ay cy ly _ r n true x6 Ny_x6.out U2.out (by omega) (by omega) r1 X2.out).mono ?_); rintro e x7 ⟨rfl, hb⟩; have Bx7 := Lib.hid (Bx6.out.trans (hb.mono Bx6.out.size)); clear Bx6 Ny_x6 hb)
    | (go_at_call 29; (with_reducible refine (LQ.out x7).mono ?_); rintro e x8 ⟨Ayy, cyy, lyy, rfl, h, hb⟩; have Bx8 := Lib.hid (Bx7.out.trans (hb.mono Bx7.out.size)); have Nyy_x8 := Lib.hid h; clear Bx7 h hb)
    | (go_at_call 26; (with_reducible refine (exceedsT Ayy cyy lyy _ r n false x8 Nyy_x8.out U4.out (by omega) (by omega) r1 X4'.out).mono ?_); rintro e x9 ⟨rfl, hb⟩; have Bx9 := Lib.hid (Bx8.out.trans (hb.mono Bx8.out.size)); clear Bx8 Nyy_x8 hb))
  go_ret
  exact ⟨rfl, Bx9.out⟩

set_option maxRecDepth 100000 in
set_option maxHeartbeats 8000000 in
theorem exact_001 (a0 a1 a2 : Int) (n k : Nat) (r z v : Int) (w : World) (hn : n ≤ 100) (hk : k ≤ n) (r0 : 1 ≤ r) (r1 : r ≤ 2000) (z0 : 0 ≤ z) (zv : z ≤ v) (v1 : v ≤ 10000) (hz : z = 0) (hv : v = 10000) (hn0 : 0 < n)
    (TR : Hid (∀ W, Calls Try.prog 27 #[.int .i64 a0, .int .i64 a1, .int .i64 100] W fun e W' => e = .returned (.tuple #[.int .i64 n, .int .i64 k]) ∧ W = W'))
    (RK : Hid (∀ W, Calls Try.prog 21 #[.int .i64 a2] W fun e W' => e = .returned (.int .i64 r) ∧ W = W'))
    (LS : Hid (∀ W, Calls Try.prog 23 #[.int .i64 n, .int .i64 k, .int .i64 r] W (PostIntE z W)))
    (GR : Hid (∀ W, Calls Try.prog 24 #[.int .i64 n, .int .i64 k, .int .i64 r] W (PostIntE v W)))
    (X1 : Hid (exB n r (upc n k z) = true)) (X2 : Hid (exB n r (lwc n k v) = true)) (X3 : Hid (0 < z → exB n r (upc n k (z - 1)) = false)) (X4 : Hid (v < 10000 → exB n r (lwc n k (v + 1)) = false))
    (Y1 : Hid (0 < n → (z - 1) * n < 10000 * k)) (Y2 : Hid (0 < n → 10000 * (k : Int) < (v + 1) * n)) :
    Calls Try.prog 11 #[.int .i64 a0, .int .i64 a1, .int .i64 a2] w fun e w' => e = .returned (.bool true) ∧ Below w.heap.size w w' := by
  have AW := Lib.hid (awake_any w)
  have UP := Lib.hid (fun W => upper_ok n k z W z0 (by omega) (by omega) hk)
  have LW := Lib.hid (fun W => lower_ok n k v W (by omega) v1 (by omega) hk)
  have U1 := Lib.hid (upc_le n k z0 (show z ≤ 10000 by omega))
  have U2 := Lib.hid (lwc_le n k (show 0 ≤ v by omega) v1)
  have c1 : decide (0 < z) = false := decide_eq_false (by omega)
  have HZ := Lib.hid hz; clear hz
  have c2 : decide (v < 10000) = false := decide_eq_false (by omega)
  have HV := Lib.hid hv; clear hv
  have c3 : decide (v < z) = false := decide_eq_false (by omega)
  have c4 : decide (z < 0) = false := decide_eq_false (by omega)
  have c5 : decide (10000 < v) = false := decide_eq_false (by omega)
  have n0 : (0 : Int) ≤ (n : Int) := by omega
  have n1 : (n : Int) ≤ 100 := by omega
  have k0 : (0 : Int) ≤ (k : Int) := by omega
  have k1 : (k : Int) ≤ (n : Int) := by omega
  have g1 : ((n : Int) == 0) = false := by rw [beq_eq_false_iff_ne]; omega
  have g1' : (n == 0) = false := by rw [beq_eq_false_iff_ne]; omega
  have y1 := Y1.out hn0
  have y2 := Y2.out hn0
  have b1 : (z - 1) * (n : Int) ≤ 10000 * 100 := Int.le_trans (Int.mul_le_mul_of_nonneg_right (show z - 1 ≤ 10000 by omega) n0) (Int.mul_le_mul_of_nonneg_left n1 (by omega))
  have b2 : -100 ≤ (z - 1) * (n : Int) := by have := Int.mul_le_mul_of_nonneg_right (show -1 ≤ z - 1 by omega) n0; omega
  have b3 : (v + 1) * (n : Int) ≤ 10001 * 100 := Int.le_trans (Int.mul_le_mul_of_nonneg_right (show v + 1 ≤ 10001 by omega) n0) (Int.mul_le_mul_of_nonneg_left n1 (by omega))
  have b4 : 0 ≤ (v + 1) * (n : Int) := Int.mul_nonneg (by omega) n0
  have t0 : ∃ t, (z - 1) * (n : Int) = t := ⟨_, rfl⟩
  obtain ⟨t, ht⟩ := t0
  have u0 : ∃ u, (v + 1) * (n : Int) = u := ⟨_, rfl⟩
  obtain ⟨u, hu⟩ := u0
  rw [ht] at y1 b1 b2
  rw [hu] at y2 b3 b4
  have d1 : decide (t < 10000 * (k : Int)) = true := decide_eq_true y1
  have d2 : decide (10000 * (k : Int) < u) = true := decide_eq_true y2
  go_enter Try.func11, Try.ntmps11
  go_wp2_with (first
    | (go_at_call 14; (with_reducible refine (AW.out).mono ?_); rintro e x1 ⟨rfl, hb⟩; have Bx1 := Lib.hid hb; clear hb)
    | (go_at_call 27; (with_reducible refine (TR.out _).mono ?_); rintro e _y1 ⟨rfl, rfl⟩)
    | (go_at_call 21; (with_reducible refine (RK.out _).mono ?_); rintro e _y2 ⟨rfl, rfl⟩)
    | (go_at_call 23; (with_reducible refine (LS.out x1).mono ?_); rintro e x2 ⟨rfl, hb⟩; have Bx2 := Lib.hid (Bx1.out.trans (hb.mono Bx1.out.size)); clear Bx1 hb)
    | (go_at_call 24; (with_reducible refine (GR.out x2).mono ?_); rintro e x3 ⟨rfl, hb⟩; have Bx3 := Lib.hid (Bx2.out.trans (hb.mono Bx2.out.size)); clear Bx2 hb)
    | (go_at_call 28; (with_reducible refine (UP.out x3).mono ?_); rintro e x4 ⟨Ax, cx, lx, rfl, h, hb⟩; have Bx4 := Lib.hid (Bx3.out.trans (hb.mono Bx3.out.size)); have Nx_x4 := Lib.hid h; clear Bx3 h hb)
    | (go_at_call 29; (with_reducible refine (LW.out x4).mono ?_); rintro e x5 ⟨Ay, cy, ly, rfl, h, hb⟩; have Bx5 := Lib.hid (Bx4.out.trans (hb.mono Bx4.out.size)); have Nx_x5 := Lib.hid (Nx_x4.out.below hb); have Ny_x5 := Lib.hid h; clear Bx4 Nx_x4 h hb)
    | (go_at_call 26; (with_reducible refine (exceedsT Ax cx lx _ r n true x5 Nx_x5.out U1.out (by omega) (by omega) r1 X1.out).mono ?_); rintro e x6 ⟨rfl, hb⟩; have Bx6 := Lib.hid (Bx5.out.trans (hb.mono Bx5.out.size)); have Ny_x6 := Lib.hid (Ny_x5.out.below hb); clear Bx5 Nx_x5 Ny_x5 hb)
    | (go_at_call 26; (with_reducible refine (exceedsT Ay cy ly _ r n true x6 Ny_x6.out U2.out (by omega) (by omega) r1 X2.out).mono ?_); rintro e x7 ⟨rfl, hb⟩; have Bx7 := Lib.hid (Bx6.out.trans (hb.mono Bx6.out.size)); clear Bx6 Ny_x6 hb))
  go_ret
  exact ⟨rfl, Bx7.out⟩

set_option maxRecDepth 100000 in
set_option maxHeartbeats 8000000 in
theorem exact_000 (a0 a1 a2 : Int) (n k : Nat) (r z v : Int) (w : World) (hn : n ≤ 100) (hk : k ≤ n) (r0 : 1 ≤ r) (r1 : r ≤ 2000) (z0 : 0 ≤ z) (zv : z ≤ v) (v1 : v ≤ 10000) (hz : z = 0) (hv : v = 10000) (hn0 : n = 0)
    (TR : Hid (∀ W, Calls Try.prog 27 #[.int .i64 a0, .int .i64 a1, .int .i64 100] W fun e W' => e = .returned (.tuple #[.int .i64 n, .int .i64 k]) ∧ W = W'))
    (RK : Hid (∀ W, Calls Try.prog 21 #[.int .i64 a2] W fun e W' => e = .returned (.int .i64 r) ∧ W = W'))
    (LS : Hid (∀ W, Calls Try.prog 23 #[.int .i64 n, .int .i64 k, .int .i64 r] W (PostIntE z W)))
    (GR : Hid (∀ W, Calls Try.prog 24 #[.int .i64 n, .int .i64 k, .int .i64 r] W (PostIntE v W)))
    (X1 : Hid (exB n r (upc n k z) = true)) (X2 : Hid (exB n r (lwc n k v) = true)) (X3 : Hid (0 < z → exB n r (upc n k (z - 1)) = false)) (X4 : Hid (v < 10000 → exB n r (lwc n k (v + 1)) = false))
    (Y1 : Hid (0 < n → (z - 1) * n < 10000 * k)) (Y2 : Hid (0 < n → 10000 * (k : Int) < (v + 1) * n)) :
    Calls Try.prog 11 #[.int .i64 a0, .int .i64 a1, .int .i64 a2] w fun e w' => e = .returned (.bool true) ∧ Below w.heap.size w w' := by
  have AW := Lib.hid (awake_any w)
  have UP := Lib.hid (fun W => upper_ok n k z W z0 (by omega) (by omega) hk)
  have LW := Lib.hid (fun W => lower_ok n k v W (by omega) v1 (by omega) hk)
  have U1 := Lib.hid (upc_le n k z0 (show z ≤ 10000 by omega))
  have U2 := Lib.hid (lwc_le n k (show 0 ≤ v by omega) v1)
  have c1 : decide (0 < z) = false := decide_eq_false (by omega)
  have HZ := Lib.hid hz; clear hz
  have c2 : decide (v < 10000) = false := decide_eq_false (by omega)
  have HV := Lib.hid hv; clear hv
  have c3 : decide (v < z) = false := decide_eq_false (by omega)
  have c4 : decide (z < 0) = false := decide_eq_false (by omega)
  have c5 : decide (10000 < v) = false := decide_eq_false (by omega)
  have n0 : (0 : Int) ≤ (n : Int) := by omega
  have n1 : (n : Int) ≤ 100 := by omega
  have k0 : (0 : Int) ≤ (k : Int) := by omega
  have k1 : (k : Int) ≤ (n : Int) := by omega
  have g1 : ((n : Int) == 0) = true := by rw [beq_iff_eq]; omega
  have g1' : (n == 0) = true := by rw [beq_iff_eq]; omega
  have HN0 := Lib.hid hn0; clear hn0
  go_enter Try.func11, Try.ntmps11
  go_wp2_with (first
    | (go_at_call 14; (with_reducible refine (AW.out).mono ?_); rintro e x1 ⟨rfl, hb⟩; have Bx1 := Lib.hid hb; clear hb)
    | (go_at_call 27; (with_reducible refine (TR.out _).mono ?_); rintro e _y1 ⟨rfl, rfl⟩)
    | (go_at_call 21; (with_reducible refine (RK.out _).mono ?_); rintro e _y2 ⟨rfl, rfl⟩)
    | (go_at_call 23; (with_reducible refine (LS.out x1).mono ?_); rintro e x2 ⟨rfl, hb⟩; have Bx2 := Lib.hid (Bx1.out.trans (hb.mono Bx1.out.size)); clear Bx1 hb)
    | (go_at_call 24; (with_reducible refine (GR.out x2).mono ?_); rintro e x3 ⟨rfl, hb⟩; have Bx3 := Lib.hid (Bx2.out.trans (hb.mono Bx2.out.size)); clear Bx2 hb)
    | (go_at_call 28; (with_reducible refine (UP.out x3).mono ?_); rintro e x4 ⟨Ax, cx, lx, rfl, h, hb⟩; have Bx4 := Lib.hid (Bx3.out.trans (hb.mono Bx3.out.size)); have Nx_x4 := Lib.hid h; clear Bx3 h hb)
    | (go_at_call 29; (with_reducible refine (LW.out x4).mono ?_); rintro e x5 ⟨Ay, cy, ly, rfl, h, hb⟩; have Bx5 := Lib.hid (Bx4.out.trans (hb.mono Bx4.out.size)); have Nx_x5 := Lib.hid (Nx_x4.out.below hb); have Ny_x5 := Lib.hid h; clear Bx4 Nx_x4 h hb)
    | (go_at_call 26; (with_reducible refine (exceedsT Ax cx lx _ r n true x5 Nx_x5.out U1.out (by omega) (by omega) r1 X1.out).mono ?_); rintro e x6 ⟨rfl, hb⟩; have Bx6 := Lib.hid (Bx5.out.trans (hb.mono Bx5.out.size)); have Ny_x6 := Lib.hid (Ny_x5.out.below hb); clear Bx5 Nx_x5 Ny_x5 hb)
    | (go_at_call 26; (with_reducible refine (exceedsT Ay cy ly _ r n true x6 Ny_x6.out U2.out (by omega) (by omega) r1 X2.out).mono ?_); rintro e x7 ⟨rfl, hb⟩; have Bx7 := Lib.hid (Bx6.out.trans (hb.mono Bx6.out.size)); clear Bx6 Ny_x6 hb))
  go_ret
  exact ⟨rfl, Bx7.out⟩

theorem walk_statsExact (a0 : Int) (w0 : (Lit.int .i64 a0).wf = true) (a1 : Int) (w1 : (Lit.int .i64 a1).wf = true) (a2 : Int) (w2 : (Lit.int .i64 a2).wf = true) (w : World) :
    Calls Try.prog 11 #[.int .i64 a0, .int .i64 a1, .int .i64 a2] w fun e w' => e = .returned (.bool true) ∧ Below w.heap.size w w' := by
  obtain ⟨n, k, hn, hk, tr⟩ := trials_nat a0 a1 100 (by omega)
  have r0 : 1 ≤ 1 + a2 % 2000 := by omega
  have r1 : 1 + a2 % 2000 ≤ 2000 := by omega
  have rk := fun W => risk_any a2 W
  generalize 1 + a2 % 2000 = r at *
  have LS := Lib.hid (fun W => least_ok n k r W r0 r1 (by omega) hk)
  have GR := Lib.hid (fun W => greatest_ok n k r W r0 r1 (by omega) hk)
  have s1 := lowB_spec n k r1
  have s2 := lowB_spec n (n - k) r1
  have hl := low_low n k (show n ≤ 500 by omega) hk r1
  have y1 := fun h => low_seen n k h hn hk r1
  have y2 := fun h => high_seen n k h hn hk r1
  have X2 : exB n r (lwc n k (10000 - (lowB n (n - k) r : Int))) = true := by
    rw [lwc_up n k _ hk, show 10000 - (10000 - (lowB n (n - k) r : Int)) = lowB n (n - k) r by omega]; exact s2.2.1
  have X4 : 10000 - (lowB n (n - k) r : Int) < 10000 → exB n r (lwc n k (10000 - (lowB n (n - k) r : Int) + 1)) = false := fun h => by
    rw [lwc_up n k _ hk, show 10000 - (10000 - (lowB n (n - k) r : Int) + 1) = lowB n (n - k) r - 1 by omega]
    exact s2.2.2 _ (by omega) (by omega)
  have X3 : 0 < (lowB n k r : Int) → exB n r (upc n k ((lowB n k r : Int) - 1)) = false := fun h => s1.2.2 _ (by omega) (by omega)
  have X1 := s1.2.1
  have b1 := s1.1
  have b2 := s2.1
  have Y1 := Lib.hid y1; have Y2 := Lib.hid y2
  have hz : 0 < (lowB n k r : Int) ∨ (lowB n k r : Int) = 0 := by omega
  have hv : 10000 - (lowB n (n - k) r : Int) < 10000 ∨ 10000 - (lowB n (n - k) r : Int) = 10000 := by omega
  have hn0 : 0 < n ∨ n = 0 := by omega
  rcases hz with hz | hz <;> rcases hv with hv | hv <;> rcases hn0 with hn0 | hn0
  · exact exact_111 a0 a1 a2 n k r _ _ w hn hk r0 r1 (by omega) (by omega) (by omega) hz hv hn0 (Lib.hid tr) (Lib.hid rk) LS GR (Lib.hid X1) (Lib.hid X2) (Lib.hid X3) (Lib.hid X4) Y1 Y2
  · exact exact_110 a0 a1 a2 n k r _ _ w hn hk r0 r1 (by omega) (by omega) (by omega) hz hv hn0 (Lib.hid tr) (Lib.hid rk) LS GR (Lib.hid X1) (Lib.hid X2) (Lib.hid X3) (Lib.hid X4) Y1 Y2
  · exact exact_101 a0 a1 a2 n k r _ _ w hn hk r0 r1 (by omega) (by omega) (by omega) hz hv hn0 (Lib.hid tr) (Lib.hid rk) LS GR (Lib.hid X1) (Lib.hid X2) (Lib.hid X3) (Lib.hid X4) Y1 Y2
  · exact exact_100 a0 a1 a2 n k r _ _ w hn hk r0 r1 (by omega) (by omega) (by omega) hz hv hn0 (Lib.hid tr) (Lib.hid rk) LS GR (Lib.hid X1) (Lib.hid X2) (Lib.hid X3) (Lib.hid X4) Y1 Y2
  · exact exact_011 a0 a1 a2 n k r _ _ w hn hk r0 r1 (by omega) (by omega) (by omega) hz hv hn0 (Lib.hid tr) (Lib.hid rk) LS GR (Lib.hid X1) (Lib.hid X2) (Lib.hid X3) (Lib.hid X4) Y1 Y2
  · exact exact_010 a0 a1 a2 n k r _ _ w hn hk r0 r1 (by omega) (by omega) (by omega) hz hv hn0 (Lib.hid tr) (Lib.hid rk) LS GR (Lib.hid X1) (Lib.hid X2) (Lib.hid X3) (Lib.hid X4) Y1 Y2
  · exact exact_001 a0 a1 a2 n k r _ _ w hn hk r0 r1 (by omega) (by omega) (by omega) hz hv hn0 (Lib.hid tr) (Lib.hid rk) LS GR (Lib.hid X1) (Lib.hid X2) (Lib.hid X3) (Lib.hid X4) Y1 Y2
  · exact exact_000 a0 a1 a2 n k r _ _ w hn hk r0 r1 (by omega) (by omega) (by omega) hz hv hn0 (Lib.hid tr) (Lib.hid rk) LS GR (Lib.hid X1) (Lib.hid X2) (Lib.hid X3) (Lib.hid X4) Y1 Y2
end Go.Proofs.Ytgbifcfdbelfpaa
