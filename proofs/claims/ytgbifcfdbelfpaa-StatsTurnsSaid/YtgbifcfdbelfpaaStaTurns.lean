/-
  The walk of the law StatsTurns.
-/
import Derived.Test.YtgbifcfdbelfpaaStaMath
namespace Go.Proofs.Ytgbifcfdbelfpaa
open Go.RowKit
set_option linter.unusedVariables false

set_option maxRecDepth 100000 in
set_option maxHeartbeats 8000000 in
theorem walk_statsTurns (a0 : Int) (w0 : (Lit.int .i64 a0).wf = true) (a1 : Int) (w1 : (Lit.int .i64 a1).wf = true) (a2 : Int) (w2 : (Lit.int .i64 a2).wf = true) (a3 : Int) (w3 : (Lit.int .i64 a3).wf = true) (w : World) :
    Calls Try.prog 9 #[.int .i64 a0, .int .i64 a1, .int .i64 a2, .int .i64 a3] w fun e w' => e = .returned (.bool true) ∧ Below w.heap.size w w' := by
  obtain ⟨n, k, hn, hk, tr⟩ := trials_nat a0 a1 100 (by omega)
  have tr' : ∀ W, Calls Try.prog 27 #[.int .i64 a0, .int .i64 a1, .int .i64 100] W fun e W' => e = .returned (.tuple #[.int .i64 n, .int .i64 k]) ∧ W = W' := tr
  have TR := Lib.hid tr'
  clear tr tr'
  have sh := fun W => share_any a2 W
  have p0 : 0 ≤ a2 % 10001 := by omega
  have p1 : a2 % 10001 ≤ 10000 := by omega
  generalize a2 % 10001 = p at *
  have rk := fun W => risk_any a3 W
  have r0 : 1 ≤ 1 + a3 % 2000 := by omega
  have r1 : 1 + a3 % 2000 ≤ 2000 := by omega
  generalize 1 + a3 % 2000 = r at *
  have SH := Lib.hid sh; have RK := Lib.hid rk
  clear sh rk
  have AW := Lib.hid (awake_any w)
  have UP := Lib.hid (fun W => upper_ok n k p W p0 p1 (by omega) hk)
  have LW := Lib.hid (fun W => lower_turn n k p W p0 p1 (by omega) hk)
  have CC := Lib.hid (fun W => choose_ok n k W (by omega) hk)
  have CD := Lib.hid (fun W => choose_turn n k W (by omega) hk)
  have ls := fun W => least_ok n k r W r0 r1 (by omega) hk
  have gr := fun W => great_turn n k r W r0 r1 (by omega) hk
  have z0 : (0 : Int) ≤ (lowB n k r : Int) := Int.natCast_nonneg _
  have z1 : (lowB n k r : Int) ≤ 10000 := Int.ofNat_le.2 (lowB_spec n k r1).1
  generalize (lowB n k r : Int) = z at *
  have LS := Lib.hid ls; have GR := Lib.hid gr
  clear ls gr
  have n0 : (0 : Int) ≤ (n : Int) := by omega
  have n1 : (n : Int) ≤ 100 := by omega
  have k0 : (0 : Int) ≤ (k : Int) := by omega
  have k1 : (k : Int) ≤ (n : Int) := by omega
  go_enter Try.func9, Try.ntmps9
  go_wp2_with (first
    | (go_at_call 14; (with_reducible refine (AW.out).mono ?_); rintro e x1 ⟨rfl, hb⟩; have Bx1 := Lib.hid hb; clear hb)
    | (go_at_call 27; (with_reducible refine (TR.out _).mono ?_); rintro e _y1 ⟨rfl, rfl⟩)
    | (go_at_call 20; (with_reducible refine (SH.out _).mono ?_); rintro e _y2 ⟨rfl, rfl⟩)
    | (go_at_call 21; (with_reducible refine (RK.out _).mono ?_); rintro e _y3 ⟨rfl, rfl⟩)
    | (go_at_call 28; (with_reducible refine (UP.out x1).mono ?_); rintro e x2 ⟨Aup, cup, lup, rfl, h, hb⟩; have Bx2 := Lib.hid (Bx1.out.trans (hb.mono Bx1.out.size)); have Nup_x2 := Lib.hid h; clear Bx1 h hb)
    | (go_at_call 29; (with_reducible refine (LW.out x2).mono ?_); rintro e x3 ⟨Adn, cdn, ldn, rfl, h, hb⟩; have Bx3 := Lib.hid (Bx2.out.trans (hb.mono Bx2.out.size)); have Nup_x3 := Lib.hid (Nup_x2.out.below hb); have Ndn_x3 := Lib.hid h; clear Bx2 Nup_x2 h hb)
    | (go_at_call 32; (with_reducible refine (CC.out x3).mono ?_); rintro e x4 ⟨Ac, cc, lc, rfl, h, hb⟩; have Bx4 := Lib.hid (Bx3.out.trans (hb.mono Bx3.out.size)); have Nup_x4 := Lib.hid (Nup_x3.out.below hb); have Ndn_x4 := Lib.hid (Ndn_x3.out.below hb); have Nc_x4 := Lib.hid h; clear Bx3 Nup_x3 Ndn_x3 h hb)
    | (go_at_call 32; (with_reducible refine (CD.out x4).mono ?_); rintro e x5 ⟨Ad, cd, ld, rfl, h, hb⟩; have Bx5 := Lib.hid (Bx4.out.trans (hb.mono Bx4.out.size)); have Nup_x5 := Lib.hid (Nup_x4.out.below hb); have Ndn_x5 := Lib.hid (Ndn_x4.out.below hb); have Nc_x5 := Lib.hid (Nc_x4.out.below hb); have Nd_x5 := Lib.hid h; clear Bx4 Nup_x4 Ndn_x4 Nc_x4 h hb)
    | (go_at_call 30; (with_reducible refine (sameT Aup Adn cup cdn lup ldn _ _ x5 Nup_x5.out Ndn_x5.out rfl).mono ?_); rintro e x6 ⟨rfl, hb⟩; have Bx6 := Lib.hid (Bx5.out.trans (hb.mono Bx5.out.size)); have Nc_x6 := Lib.hid (Nc_x5.out.below hb); have Nd_x6 := Lib.hid (Nd_x5.out.below hb); clear Bx5 Nup_x5 Ndn_x5 Nc_x5 Nd_x5 hb)
    | (go_at_call 30; (with_reducible refine (sameT Ac Ad cc cd lc ld _ _ x6 Nc_x6.out Nd_x6.out rfl).mono ?_); rintro e x7 ⟨rfl, hb⟩; have Bx7 := Lib.hid (Bx6.out.trans (hb.mono Bx6.out.size)); clear Bx6 Nc_x6 Nd_x6 hb)
    | (go_at_call 23; (with_reducible refine (LS.out x7).mono ?_); rintro e x8 ⟨rfl, hb⟩; have Bx8 := Lib.hid (Bx7.out.trans (hb.mono Bx7.out.size)); clear Bx7 hb)
    | (go_at_call 24; (with_reducible refine (GR.out x8).mono ?_); rintro e x9 ⟨rfl, hb⟩; have Bx9 := Lib.hid (Bx8.out.trans (hb.mono Bx8.out.size)); clear Bx8 hb))
  go_ret
  exact ⟨ret_bool (show (z == 10000 - (10000 - z)) = true by rw [beq_iff_eq]; omega), Bx9.out⟩
end Go.Proofs.Ytgbifcfdbelfpaa
