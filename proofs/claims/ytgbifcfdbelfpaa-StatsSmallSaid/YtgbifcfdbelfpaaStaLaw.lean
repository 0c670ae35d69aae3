/-
  The laws' helpers: trials, share, risk, all, exceeds.
-/
import Derived.Test.YtgbifcfdbelfpaaStaAwake
namespace Go.Proofs.Ytgbifcfdbelfpaa
open Go.RowKit
set_option linter.unusedVariables false

theorem share_any (x : Int) (w : World) : Calls Try.prog 20 #[.int .i64 x] w fun e w' => e = .returned (.int .i64 (x % 10001)) ∧ w = w' := by
  have P := Lib.hid (pick_any x 10001 w (by omega) (by omega))
  go_enter Try.func20, Try.ntmps20
  go_wp2_with (go_at_call 19; (with_reducible refine P.out.mono ?_); rintro e w1 ⟨rfl, rfl⟩)
  go_ret
  exact ⟨rfl, rfl⟩
theorem risk_any (x : Int) (w : World) : Calls Try.prog 21 #[.int .i64 x] w fun e w' => e = .returned (.int .i64 (1 + x % 2000)) ∧ w = w' := by
  have P := Lib.hid (pick_any x 2000 w (by omega) (by omega))
  have i0 : 0 ≤ x % 2000 := by omega
  have i1 : x % 2000 ≤ 2000 := by omega
  go_enter Try.func21, Try.ntmps21
  go_wp2_with (go_at_call 19; (with_reducible refine P.out.mono ?_); rintro e w1 ⟨rfl, rfl⟩)
  go_ret
  exact ⟨rfl, rfl⟩
theorem trials_any (x y m : Int) (w : World) (h0 : 0 ≤ m) (h1 : m ≤ 1000) : Calls Try.prog 27 #[.int .i64 x, .int .i64 y, .int .i64 m] w fun e w' => e = .returned (.tuple #[.int .i64 (x % (m + 1)), .int .i64 (y % (x % (m + 1) + 1))]) ∧ w = w' := by
  have P := Lib.hid (pick_any x (m + 1) w (by omega) (by omega))
  have j0 : 0 ≤ x % (m + 1) := Int.emod_nonneg _ (by omega)
  have j1 : x % (m + 1) < m + 1 := Int.emod_lt_of_pos _ (by omega)
  generalize x % (m + 1) = n at *
  have P2 := Lib.hid (pick_any y (n + 1) w (by omega) (by omega))
  go_enter Try.func27, Try.ntmps27
  go_wp2_with (first
    | (go_at_call 19; (with_reducible refine P.out.mono ?_); rintro e w1 ⟨rfl, rfl⟩)
    | (go_at_call 19; (with_reducible refine P2.out.mono ?_); rintro e w1 ⟨rfl, rfl⟩))
  go_ret2
  exact ⟨rfl, rfl⟩
/-- 10000 (or less) to a power, by nat -/
theorem pow_is (x : Int) (n : Nat) (A : Option Addr) (c : Nat) (l : List Int) (W : World) (h : Num W A l x) (h0 : 0 ≤ x) (h1 : x ≤ 10000) (hn : n ≤ 1000) : Calls Try.prog 33 #[.slice A l.length c, .int .i64 n] W (PostNumE (x ^ n) W) := by
  have hz : pw x n < Na.Bp 1024 := by
    rw [pw_eq]
    have h2 := pow_bp h0 (by omega) n
    have h3 := Na.Bp_lt (show n < 1024 by omega)
    omega
  rw [← pw_eq]
  refine (pow_any A c n l x W h (by omega)).mono ?_
  rintro e w' (⟨-, k⟩ | ⟨k, -⟩)
  · exact k
  · exact absurd hz k
theorem all_any (n : Nat) (w : World) (hn : n ≤ 1000) : Calls Try.prog 31 #[.int .i64 n] w (PostNum (10000 ^ n) w) := by
  have O := Lib.hid (of_any 10000 w (by omega) (by omega))
  have P := Lib.hid (fun A c l W (h : Num W A l 10000) => pow_is 10000 n A c l W h (by omega) (by omega) hn)
  go_enter Try.func31, Try.ntmps31
  go_wp2_with (first
    | (go_at_call 34; (with_reducible refine O.out.mono ?_); rintro e w1 ⟨A1, c1, l1, rfl, h, hb⟩; have B1 := Lib.hid hb; have N1 := Lib.hid h; clear h hb)
    | (go_at_call 33; (with_reducible refine (P.out A1 c1 l1 w1 N1.out).mono ?_); rintro e w2 ⟨A2, c2, l2, rfl, h, hb⟩; have B2 := Lib.hid (B1.out.trans (hb.mono B1.out.size)); have N2 := Lib.hid h; clear h hb))
  go_ret
  exact ⟨_, _, l2, rfl, N2.out, B2.out⟩

/-! what is the same, and what fits -/
theorem sameT (A B : Option Addr) (ca cb : Nat) (l m : List Int) (x y : Int) (w : World) (hr : Num w A l x) (hs : Num w B m y) (h : x = y) :
    Calls Try.prog 30 #[.slice A l.length ca, .slice B m.length cb] w fun e w' => e = .returned (.bool true) ∧ Below w.heap.size w w' := by
  have := same_num A B ca cb l m x y w hr hs
  rwa [decide_eq_true h] at this
theorem add_to (A B : Option Addr) (ca cb : Nat) (l m : List Int) (x y z : Int) (n : Nat) (w : World) (hr : Num w A l x) (hs : Num w B m y) (h : x + y = z) (hz : z ≤ 10000 ^ n) (hn : n ≤ 1000) :
    Calls Try.prog 25 #[.slice A l.length ca, .slice B m.length cb] w (PostNumE z w) := by
  subst h
  exact add_fit A B ca cb l m x y w hr hs (fit_pow hz hn)
theorem mul_to (A B : Option Addr) (ca cb : Nat) (l m : List Int) (x y z : Int) (w : World) (hr : Num w A l x) (hs : Num w B m y) (h : x * y = z) (hz : z < Na.Bp 1024) :
    Calls Try.prog 35 #[.slice A l.length ca, .slice B m.length cb] w (PostNumE z w) := by
  subst h
  exact mul_fit A B ca cb l m x y w hr hs hz
theorem num_empty (A : Option Addr) (W : World) : Num W A [] 0 := ⟨RdK.nil _ _ _, Na.Can.nil, by simp, rfl⟩

set_option maxHeartbeats 1000000 in
theorem exceeds_any (A : Option Addr) (c : Nat) (l : List Int) (x r : Int) (n : Nat) (w : World) (hr : Num w A l x) (hx : x ≤ 10000 ^ n) (hn : n ≤ 500) (r0 : 0 ≤ r) (r1 : r ≤ 2000) :
    Calls Try.prog 26 #[.slice A l.length c, .int .i64 n, .int .i64 r] w fun e w' => e = .returned (.bool (exB n r x)) ∧ Below w.heap.size w w' := by
  have f1 : IntKind.u64.wrap r = r := i64_u64 r0 (by omega)
  have O1 := Lib.hid (fun W => of_any 10000 W (by omega) (by omega))
  have O2 := Lib.hid (fun W => of_any r W (by omega) (by omega))
  have AL := Lib.hid (fun W => all_any n W (by omega))
  have Na0 := Lib.hid hr
  have x0 := hr.nn
  have F1 := Lib.hid (fit_mul hx x0 (show (0 : Int) ≤ 10000 by omega) (by omega) (by omega))
  have F2 := Lib.hid (fit_mul (n := n) (Int.le_refl (10000 ^ n)) (Sb.pow_nn (by omega) n) r0 (by omega) (by omega))
  obtain ⟨d, hd, hd2⟩ := cmp_gt (x * 10000) (10000 ^ n * r)
  have HD := Lib.hid hd; have HD2 := Lib.hid hd2
  clear hr x0 hd hd2 hx
  go_enter Try.func26, Try.ntmps26
  go_wp2_with (first
    | (go_at_call 34; (with_reducible refine (O1.out w).mono ?_); rintro e x1 ⟨Aw1, cw1, lw1, rfl, h, hb⟩; have Bx1 := Lib.hid hb; have Na_x1 := Lib.hid (Na0.out.below hb); have Nw1_x1 := Lib.hid h; clear Na0 h hb)
    | (go_at_call 35; (with_reducible refine (mul_fit A Aw1 c cw1 l lw1 _ _ x1 Na_x1.out Nw1_x1.out F1.out).mono ?_); rintro e x2 ⟨Ax1, cx1, lx1, rfl, h, hb⟩; have Bx2 := Lib.hid (Bx1.out.trans (hb.mono Bx1.out.size)); have Nx1_x2 := Lib.hid h; clear Bx1 Na_x1 Nw1_x1 h hb)
    | (go_at_call 31; (with_reducible refine (AL.out x2).mono ?_); rintro e x3 ⟨Aal, cal, lal, rfl, h, hb⟩; have Bx3 := Lib.hid (Bx2.out.trans (hb.mono Bx2.out.size)); have Nx1_x3 := Lib.hid (Nx1_x2.out.below hb); have Nal_x3 := Lib.hid h; clear Bx2 Nx1_x2 h hb)
    | (go_at_call 34; (with_reducible refine (O2.out x3).mono ?_); rintro e x4 ⟨Ar, cr, lr, rfl, h, hb⟩; have Bx4 := Lib.hid (Bx3.out.trans (hb.mono Bx3.out.size)); have Nx1_x4 := Lib.hid (Nx1_x3.out.below hb); have Nal_x4 := Lib.hid (Nal_x3.out.below hb); have Nr_x4 := Lib.hid h; clear Bx3 Nx1_x3 Nal_x3 h hb)
    | (go_at_call 35; (with_reducible refine (mul_fit Aal Ar cal cr lal lr _ _ x4 Nal_x4.out Nr_x4.out F2.out).mono ?_); rintro e x5 ⟨Ay1, cy1, ly1, rfl, h, hb⟩; have Bx5 := Lib.hid (Bx4.out.trans (hb.mono Bx4.out.size)); have Nx1_x5 := Lib.hid (Nx1_x4.out.below hb); have Ny1_x5 := Lib.hid h; clear Bx4 Nx1_x4 Nal_x4 Nr_x4 h hb)
    | (go_at_call 36; (with_reducible refine (cmp_is Ax1 Ay1 cx1 cy1 lx1 ly1 _ _ d x5 Nx1_x5.out Ny1_x5.out HD.out).mono ?_); rintro e x6 ⟨rfl, hb⟩; have Bx6 := Lib.hid (Bx5.out.trans (hb.mono Bx5.out.size)); clear Bx5 Nx1_x5 Ny1_x5 hb))
  by_cases h0 : 0 < d
  · have g1 : decide (0 < d) = true := by simpa using h0
    go_wp2
    go_ret
    exact ⟨ret_bool (by rw [show exB n r x = _ from HD2.out.symm, g1]), Bx6.out⟩
  · have g1 : decide (0 < d) = false := by simpa using h0
    go_wp2
    go_ret
    exact ⟨ret_bool (by rw [show exB n r x = _ from HD2.out.symm, g1]), Bx6.out⟩
theorem exceedsT (A : Option Addr) (c : Nat) (l : List Int) (x r : Int) (n : Nat) (b : Bool) (w : World) (hr : Num w A l x) (hx : x ≤ 10000 ^ n) (hn : n ≤ 500) (r0 : 0 ≤ r) (r1 : r ≤ 2000) (h : exB n r x = b) :
    Calls Try.prog 26 #[.slice A l.length c, .int .i64 n, .int .i64 r] w fun e w' => e = .returned (.bool b) ∧ Below w.heap.size w w' := h ▸ exceeds_any A c l x r n w hr hx hn r0 r1
end Go.Proofs.Ytgbifcfdbelfpaa
