/-
  The walk of the law StatsGrows.
-/
import Derived.Test.YtgbifcfdbelfpaaStaMath
namespace Go.Proofs.Ytgbifcfdbelfpaa
open Go.RowKit
set_option linter.unusedVariables false

set_option maxRecDepth 100000 in
set_option maxHeartbeats 8000000 in
theorem grows_m (a0 a1 a2 a3 a4 : Int) (n k : Nat) (s1 s2 r1 r2 p q a b : Int) (w : World) (hn : n ≤ 100) (hk : k ≤ n) (hm : k < n) (p0 : 0 ≤ p) (pq : p ≤ q) (q1 : q ≤ 10000) (ha : 1 ≤ a) (ab : a ≤ b) (hb : b ≤ 2000)
    (TR : Hid (∀ W, Calls Try.prog 27 #[.int .i64 a0, .int .i64 a1, .int .i64 100] W fun e W' => e = .returned (.tuple #[.int .i64 n, .int .i64 k]) ∧ W = W'))
    (SH : Hid (∀ W, Calls Try.prog 20 #[.int .i64 a2] W fun e W' => e = .returned (.int .i64 s1) ∧ W = W'))
    (SH2 : Hid (∀ W, Calls Try.prog 20 #[.int .i64 a4] W fun e W' => e = .returned (.int .i64 s2) ∧ W = W'))
    (RK : Hid (∀ W, Calls Try.prog 21 #[.int .i64 a3] W fun e W' => e = .returned (.int .i64 r1) ∧ W = W'))
    (RK2 : Hid (∀ W, Calls Try.prog 21 #[.int .i64 a4] W fun e W' => e = .returned (.int .i64 r2) ∧ W = W'))
    (e1 : min s1 s2 = p) (e2 : max s1 s2 = q) (e3 : min r1 r2 = a) (e4 : max r1 r2 = b) :
    Calls Try.prog 10 #[.int .i64 a0, .int .i64 a1, .int .i64 a2, .int .i64 a3, .int .i64 a4] w fun e w' => e = .returned (.bool true) ∧ Below w.heap.size w w' := by
  have AW := Lib.hid (awake_any w)
  have UP := Lib.hid (fun W => upper_ok n k p W p0 (by omega) (by omega) hk)
  have UQ := Lib.hid (fun W => upper_ok n k q W (by omega) q1 (by omega) hk)
  obtain ⟨d, hd, hd2⟩ := cmp_gt (upc n k p) (upc n k q)
  have c1 : decide (0 < d) = false := by
    rw [hd2, decide_eq_false_iff_not]
    have := upc_mono n k p0 pq q1
    omega
  have HD := Lib.hid hd
  have la := fun W => least_ok n k a W ha (by omega) (by omega) hk
  have lb := fun W => least_ok n k b W (by omega) hb (by omega) hk
  have z1 : (lowB n k a : Int) ≤ (lowB n k b : Int) := Int.ofNat_le.2 (low_risk n k ab hb)
  have lc := fun W => show Calls Try.prog 23 #[.int .i64 n, .int .i64 ((k : Int) + 1), .int .i64 a] W (PostIntE (lowB n (k + 1) a) W) from least_ok n (k + 1) a W ha (by omega) (by omega) (by omega)
  have z2 : (lowB n k a : Int) ≤ (lowB n (k + 1) a : Int) := Int.ofNat_le.2 (low_more n k hm (by omega))
  have UM := Lib.hid (fun W => show Calls Try.prog 28 #[.int .i64 n, .int .i64 ((k : Int) + 1), .int .i64 p] W (PostNumE (upc n (k + 1) p) W) from upper_ok n (k + 1) p W p0 (by omega) (by omega) (by omega))
  obtain ⟨d', hd', hd2'⟩ := cmp_gt (upc n (k + 1) p) (upc n k p)
  have c2 : decide (d' ≤ 0) = true := by
    have := upc_fewer n k hm p0 (by omega)
    have h : decide (0 < d') = false := by
      rw [hd2', decide_eq_false_iff_not]; omega
    rw [decide_eq_true_eq]
    rw [decide_eq_false_iff_not] at h
    omega
  have HD' := Lib.hid hd'
  generalize (lowB n (k + 1) a : Int) = v3 at *
  have f1 : ((k : Int) == (n : Int)) = false := by rw [beq_eq_false_iff_ne]; omega
  have f1' : (k == n) = false := by rw [beq_eq_false_iff_ne]; omega
  have LC := Lib.hid lc
  clear hd' hd2' lc
  generalize (lowB n k a : Int) = v1 at *
  generalize (lowB n k b : Int) = v2 at *
  have LA := Lib.hid la; have LB := Lib.hid lb
  have c3 : decide (v2 < v1) = false := decide_eq_false (by omega)
  have c4 : decide (v1 ≤ v3) = true := decide_eq_true z2
  have n0 : (0 : Int) ≤ (n : Int) := by omega
  have n1 : (n : Int) ≤ 100 := by omega
  have k0 : (0 : Int) ≤ (k : Int) := by omega
  have k1 : (k : Int) ≤ (n : Int) := by omega
  clear hd hd2 la lb
  go_enter Try.func10, Try.ntmps10
  go_wp2_with (first
    | (go_at_call 14; (with_reducible refine (AW.out).mono ?_); rintro e x1 ⟨rfl, hb⟩; have Bx1 := Lib.hid hb; clear hb)
    | (go_at_call 27; (with_reducible refine (TR.out _).mono ?_); rintro e _y1 ⟨rfl, rfl⟩)
    | (go_at_call 20; (with_reducible refine (SH.out _).mono ?_); rintro e _y2 ⟨rfl, rfl⟩)
    | (go_at_call 20; (with_reducible refine (SH2.out _).mono ?_); rintro e _y3 ⟨rfl, rfl⟩)
    | (go_at_call 21; (with_reducible refine (RK.out _).mono ?_); rintro e _y4 ⟨rfl, rfl⟩)
    | (go_at_call 21; (with_reducible refine (RK2.out _).mono ?_); rintro e _y5 ⟨rfl, rfl⟩)
    | (go_at_call 28; (with_reducible refine (UP.out x1).mono ?_); rintro e x2 ⟨Ax, cx, lx, rfl, h, hb⟩; have Bx2 := Lib.hid (Bx1.out.trans (hb.mono Bx1.out.size)); have Nx_x2 := Lib.hid h; clear Bx1 h hb)
    | (go_at_call 28; (with_reducible refine (UQ.out x2).mono ?_); rintro e x3 ⟨Ay, cy, ly, rfl, h, hb⟩; have Bx3 := Lib.hid (Bx2.out.trans (hb.mono Bx2.out.size)); have Nx_x3 := Lib.hid (Nx_x2.out.below hb); have Ny_x3 := Lib.hid h; clear Bx2 Nx_x2 h hb)
    | (go_at_call 36; (with_reducible refine (cmp_is Ax Ay cx cy lx ly _ _ d x3 Nx_x3.out Ny_x3.out HD.out).mono ?_); rintro e x4 ⟨rfl, hb⟩; have Bx4 := Lib.hid (Bx3.out.trans (hb.mono Bx3.out.size)); have Nx_x4 := Lib.hid (Nx_x3.out.below hb); clear Bx3 Nx_x3 Ny_x3 hb)
    | (go_at_call 23; (with_reducible refine (LA.out x4).mono ?_); rintro e x5 ⟨rfl, hb⟩; have Bx5 := Lib.hid (Bx4.out.trans (hb.mono Bx4.out.size)); have Nx_x5 := Lib.hid (Nx_x4.out.below hb); clear Bx4 Nx_x4 hb)
    | (go_at_call 23; (with_reducible refine (LB.out x5).mono ?_); rintro e x6 ⟨rfl, hb⟩; have Bx6 := Lib.hid (Bx5.out.trans (hb.mono Bx5.out.size)); have Nx_x6 := Lib.hid (Nx_x5.out.below hb); clear Bx5 Nx_x5 hb)
    | (go_at_call 28; (with_reducible refine (UM.out x6).mono ?_); rintro e x7 ⟨Az, cz, lz, rfl, h, hb⟩; have Bx7 := Lib.hid (Bx6.out.trans (hb.mono Bx6.out.size)); have Nx_x7 := Lib.hid (Nx_x6.out.below hb); have Nz_x7 := Lib.hid h; clear Bx6 Nx_x6 h hb)
    | (go_at_call 23; (with_reducible refine (LC.out x7).mono ?_); rintro e x8 ⟨rfl, hb⟩; have Bx8 := Lib.hid (Bx7.out.trans (hb.mono Bx7.out.size)); have Nx_x8 := Lib.hid (Nx_x7.out.below hb); have Nz_x8 := Lib.hid (Nz_x7.out.below hb); clear Bx7 Nx_x7 Nz_x7 hb)
    | (go_at_call 36; (with_reducible refine (cmp_is Az Ax cz cx lz lx _ _ d' x8 Nz_x8.out Nx_x8.out HD'.out).mono ?_); rintro e x9 ⟨rfl, hb⟩; have Bx9 := Lib.hid (Bx8.out.trans (hb.mono Bx8.out.size)); clear Bx8 Nx_x8 Nz_x8 hb))
  go_ret
  exact ⟨rfl, Bx9.out⟩

set_option maxRecDepth 100000 in
set_option maxHeartbeats 8000000 in
theorem grows_n (a0 a1 a2 a3 a4 : Int) (n k : Nat) (s1 s2 r1 r2 p q a b : Int) (w : World) (hn : n ≤ 100) (hk : k ≤ n) (hm : k = n) (p0 : 0 ≤ p) (pq : p ≤ q) (q1 : q ≤ 10000) (ha : 1 ≤ a) (ab : a ≤ b) (hb : b ≤ 2000)
    (TR : Hid (∀ W, Calls Try.prog 27 #[.int .i64 a0, .int .i64 a1, .int .i64 100] W fun e W' => e = .returned (.tuple #[.int .i64 n, .int .i64 k]) ∧ W = W'))
    (SH : Hid (∀ W, Calls Try.prog 20 #[.int .i64 a2] W fun e W' => e = .returned (.int .i64 s1) ∧ W = W'))
    (SH2 : Hid (∀ W, Calls Try.prog 20 #[.int .i64 a4] W fun e W' => e = .returned (.int .i64 s2) ∧ W = W'))
    (RK : Hid (∀ W, Calls Try.prog 21 #[.int .i64 a3] W fun e W' => e = .returned (.int .i64 r1) ∧ W = W'))
    (RK2 : Hid (∀ W, Calls Try.prog 21 #[.int .i64 a4] W fun e W' => e = .returned (.int .i64 r2) ∧ W = W'))
    (e1 : min s1 s2 = p) (e2 : max s1 s2 = q) (e3 : min r1 r2 = a) (e4 : max r1 r2 = b) :
    Calls Try.prog 10 #[.int .i64 a0, .int .i64 a1, .int .i64 a2, .int .i64 a3, .int .i64 a4] w fun e w' => e = .returned (.bool true) ∧ Below w.heap.size w w' := by
  have AW := Lib.hid (awake_any w)
  have UP := Lib.hid (fun W => upper_ok n k p W p0 (by omega) (by omega) hk)
  have UQ := Lib.hid (fun W => upper_ok n k q W (by omega) q1 (by omega) hk)
  obtain ⟨d, hd, hd2⟩ := cmp_gt (upc n k p) (upc n k q)
  have c1 : decide (0 < d) = false := by
    rw [hd2, decide_eq_false_iff_not]
    have := upc_mono n k p0 pq q1
    omega
  have HD := Lib.hid hd
  have la := fun W => least_ok n k a W ha (by omega) (by omega) hk
  have lb := fun W => least_ok n k b W (by omega) hb (by omega) hk
  have z1 : (lowB n k a : Int) ≤ (lowB n k b : Int) := Int.ofNat_le.2 (low_risk n k ab hb)
  have f1 : ((k : Int) == (n : Int)) = true := by rw [beq_iff_eq]; omega
  have f1' : (k == n) = true := by rw [beq_iff_eq]; omega
  have HM := Lib.hid hm
  clear hm
  generalize (lowB n k a : Int) = v1 at *
  generalize (lowB n k b : Int) = v2 at *
  have LA := Lib.hid la; have LB := Lib.hid lb
  have c3 : decide (v2 < v1) = false := decide_eq_false (by omega)
  have n0 : (0 : Int) ≤ (n : Int) := by omega
  have n1 : (n : Int) ≤ 100 := by omega
  have k0 : (0 : Int) ≤ (k : Int) := by omega
  have k1 : (k : Int) ≤ (n : Int) := by omega
  clear hd hd2 la lb
  go_enter Try.func10, Try.ntmps10
  go_wp2_with (first
    | (go_at_call 14; (with_reducible refine (AW.out).mono ?_); rintro e x1 ⟨rfl, hb⟩; have Bx1 := Lib.hid hb; clear hb)
    | (go_at_call 27; (with_reducible refine (TR.out _).mono ?_); rintro e _y1 ⟨rfl, rfl⟩)
    | (go_at_call 20; (with_reducible refine (SH.out _).mono ?_); rintro e _y2 ⟨rfl, rfl⟩)
    | (go_at_call 20; (with_reducible refine (SH2.out _).mono ?_); rintro e _y3 ⟨rfl, rfl⟩)
    | (go_at_call 21; (with_reducible refine (RK.out _).mono ?_); rintro e _y4 ⟨rfl, rfl⟩)
    | (go_at_call 21; (with_reducible refine (RK2.out _).mono ?_); rintro e _y5 ⟨rfl, rfl⟩)
    | (go_at_call 28; (with_reducible refine (UP.out x1).mono ?_); rintro e x2 ⟨Ax, cx, lx, rfl, h, hb⟩; have Bx2 := Lib.hid (Bx1.out.trans (hb.mono Bx1.out.size)); have Nx_x2 := Lib.hid h; clear Bx1 h hb)
    | (go_at_call 28; (with_reducible refine (UQ.out x2).mono ?_); rintro e x3 ⟨Ay, cy, ly, rfl, h, hb⟩; have Bx3 := Lib.hid (Bx2.out.trans (hb.mono Bx2.out.size)); have Nx_x3 := Lib.hid (Nx_x2.out.below hb); have Ny_x3 := Lib.hid h; clear Bx2 Nx_x2 h hb)
    | (go_at_call 36; (with_reducible refine (cmp_is Ax Ay cx cy lx ly _ _ d x3 Nx_x3.out Ny_x3.out HD.out).mono ?_); rintro e x4 ⟨rfl, hb⟩; have Bx4 := Lib.hid (Bx3.out.trans (hb.mono Bx3.out.size)); clear Bx3 Nx_x3 Ny_x3 hb)
    | (go_at_call 23; (with_reducible refine (LA.out x4).mono ?_); rintro e x5 ⟨rfl, hb⟩; have Bx5 := Lib.hid (Bx4.out.trans (hb.mono Bx4.out.size)); clear Bx4 hb)
    | (go_at_call 23; (with_reducible refine (LB.out x5).mono ?_); rintro e x6 ⟨rfl, hb⟩; have Bx6 := Lib.hid (Bx5.out.trans (hb.mono Bx5.out.size)); clear Bx5 hb))
  go_ret
  exact ⟨rfl, Bx6.out⟩

theorem walk_statsGrows (a0 : Int) (w0 : (Lit.int .i64 a0).wf = true) (a1 : Int) (w1 : (Lit.int .i64 a1).wf = true) (a2 : Int) (w2 : (Lit.int .i64 a2).wf = true) (a3 : Int) (w3 : (Lit.int .i64 a3).wf = true) (a4 : Int) (w4 : (Lit.int .i64 a4).wf = true) (w : World) :
    Calls Try.prog 10 #[.int .i64 a0, .int .i64 a1, .int .i64 a2, .int .i64 a3, .int .i64 a4] w fun e w' => e = .returned (.bool true) ∧ Below w.heap.size w w' := by
  obtain ⟨n, k, hn, hk, tr⟩ := trials_nat a0 a1 100 (by omega)
  rcases Nat.lt_or_eq_of_le hk with hm | hm
  · exact grows_m a0 a1 a2 a3 a4 n k (a2 % 10001) (a4 % 10001) (1 + a3 % 2000) (1 + a4 % 2000) _ _ _ _ w hn hk hm (by omega) (by omega) (by omega) (by omega) (by omega) (by omega) (Lib.hid tr) (Lib.hid (fun W => share_any a2 W)) (Lib.hid (fun W => share_any a4 W)) (Lib.hid (fun W => risk_any a3 W)) (Lib.hid (fun W => risk_any a4 W)) rfl rfl rfl rfl
  · exact grows_n a0 a1 a2 a3 a4 n k (a2 % 10001) (a4 % 10001) (1 + a3 % 2000) (1 + a4 % 2000) _ _ _ _ w hn hk hm (by omega) (by omega) (by omega) (by omega) (by omega) (by omega) (Lib.hid tr) (Lib.hid (fun W => share_any a2 W)) (Lib.hid (fun W => share_any a4 W)) (Lib.hid (fun W => risk_any a3 W)) (Lib.hid (fun W => risk_any a4 W)) rfl rfl rfl rfl
end Go.Proofs.Ytgbifcfdbelfpaa
