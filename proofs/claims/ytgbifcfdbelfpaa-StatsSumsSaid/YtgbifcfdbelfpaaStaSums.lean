/-
  The walk of the law StatsSums.
-/
import Derived.Test.YtgbifcfdbelfpaaStaLaw2
namespace Go.Proofs.Ytgbifcfdbelfpaa
open Go.RowKit
set_option linter.unusedVariables false

set_option maxRecDepth 100000 in
set_option maxHeartbeats 8000000 in
theorem sums_ml (a0 a1 a2 : Int) (n k : Nat) (p : Int) (w : World) (hn : n ≤ 200) (hk : k ≤ n) (p0 : 0 ≤ p) (p1 : p ≤ 10000) (hm : k < n) (hl : 0 < k)
    (TR : Hid (∀ W, Calls Try.prog 27 #[.int .i64 a0, .int .i64 a1, .int .i64 200] W fun e W' => e = .returned (.tuple #[.int .i64 n, .int .i64 k]) ∧ W = W'))
    (SH : Hid (∀ W, Calls Try.prog 20 #[.int .i64 a2] W fun e W' => e = .returned (.int .i64 p) ∧ W = W')) :
    Calls Try.prog 8 #[.int .i64 a0, .int .i64 a1, .int .i64 a2] w fun e w' => e = .returned (.bool true) ∧ Below w.heap.size w w' := by
  have AW := Lib.hid (awake_any w)
  have UP := Lib.hid (fun W => upper_ok n k p W p0 p1 (by omega) hk)
  have CH := Lib.hid (fun W => chance_ok n k p W p0 p1 (by omega) hk)
  have C5 := Lib.hid (fun W => chance_half n k W (by omega) hk)
  have CC := Lib.hid (fun W => choose_ok n k W (by omega) hk)
  have AL := Lib.hid (fun W => all_any n W (by omega))
  have O5 := Lib.hid (fun W => of_any 5000 W (by omega) (by omega))
  have P5 := Lib.hid (fun A c l W (h : Num W A l 5000) => pow_is 5000 n A c l W h (by omega) (by omega) (by omega))
  have E2 := Lib.hid (half_is n k hk)
  have F2 := Lib.hid (half_fit n k hn hk)
  have UM := Lib.hid (fun W => show Calls Try.prog 28 #[.int .i64 n, .int .i64 ((k : Int) + 1), .int .i64 p] W (PostNumE (upc n (k + 1) p) W) from upper_ok n (k + 1) p W p0 p1 (by omega) (by omega))
  have ES := Lib.hid (step_is n k p hm)
  have LW := Lib.hid (fun W => lower_pred n k p W p0 p1 (by omega) hk hl)
  have EW := Lib.hid (whole_is n k p hk hl)
  have g2 : decide (0 < k) = true := decide_eq_true hl
  have FU := Lib.hid (upc_le n k p0 p1)
  have n0 : (0 : Int) ≤ (n : Int) := by omega
  have n1 : (n : Int) ≤ 200 := by omega
  have k0 : (0 : Int) ≤ (k : Int) := by omega
  have k1 : (k : Int) ≤ (n : Int) := by omega
  go_enter Try.func8, Try.ntmps8
  go_wp2_with (first
    | (go_at_call 14; (with_reducible refine (AW.out).mono ?_); rintro e x1 ⟨rfl, hb⟩; have Bx1 := Lib.hid hb; clear hb)
    | (go_at_call 27; (with_reducible refine (TR.out _).mono ?_); rintro e _y1 ⟨rfl, rfl⟩)
    | (go_at_call 20; (with_reducible refine (SH.out _).mono ?_); rintro e _y2 ⟨rfl, rfl⟩)
    | (go_at_call 28; (with_reducible refine (UP.out x1).mono ?_); rintro e x2 ⟨Aup, cup, lup, rfl, h, hb⟩; have Bx2 := Lib.hid (Bx1.out.trans (hb.mono Bx1.out.size)); have Nup_x2 := Lib.hid h; clear Bx1 h hb)
    | (go_at_call 22; (with_reducible refine (CH.out x2).mono ?_); rintro e x3 ⟨Ax, cx, lx, rfl, h, hb⟩; have Bx3 := Lib.hid (Bx2.out.trans (hb.mono Bx2.out.size)); have Nup_x3 := Lib.hid (Nup_x2.out.below hb); have Nx_x3 := Lib.hid h; clear Bx2 Nup_x2 h hb))
  obtain ⟨y, hy⟩ : ∃ y, y = (x3.alloc (.cells #[] 55)).alloc (.cells #[] 55) := ⟨_, rfl⟩
  have bz := ((Below.refl x3.heap.size x3).alloc (Nat.le_refl _) (.cells #[] 55)).alloc (by simp) (.cells #[] 55)
  rw [← hy] at bz
  have By := Lib.hid (Bx3.out.trans (bz.mono Bx3.out.size))
  have Nup := Lib.hid (Nup_x3.out.below bz); have Nx := Lib.hid (Nx_x3.out.below bz)
  rw [← hy]
  have HY := Lib.hid hy
  clear hy bz
  go_wp2_with (first
    | (go_at_call 28; (with_reducible refine (UM.out y).mono ?_); rintro e y1 ⟨Amo, cmo, lmo, rfl, h, hb⟩; have By1 := Lib.hid (By.out.trans (hb.mono By.out.size)); have Nup_y1 := Lib.hid (Nup.out.below hb); have Nx_y1 := Lib.hid (Nx.out.below hb); have Nmo_y1 := Lib.hid h; clear By Nup Nx h hb)
    | (go_at_call 29; (with_reducible refine (LW.out y1).mono ?_); rintro e y2 ⟨Ale, cle, lle, rfl, h, hb⟩; have By2 := Lib.hid (By1.out.trans (hb.mono By1.out.size)); have Nup_y2 := Lib.hid (Nup_y1.out.below hb); have Nx_y2 := Lib.hid (Nx_y1.out.below hb); have Nmo_y2 := Lib.hid (Nmo_y1.out.below hb); have Nle_y2 := Lib.hid h; clear By1 Nup_y1 Nx_y1 Nmo_y1 h hb)
    | (go_at_call 25; (with_reducible refine (add_to Aup Ale cup cle lup lle _ _ _ n y2 Nup_y2.out Nle_y2.out EW.out (Int.le_refl _) (by omega)).mono ?_); rintro e y3 ⟨Awh, cwh, lwh, rfl, h, hb⟩; have By3 := Lib.hid (By2.out.trans (hb.mono By2.out.size)); have Nup_y3 := Lib.hid (Nup_y2.out.below hb); have Nx_y3 := Lib.hid (Nx_y2.out.below hb); have Nmo_y3 := Lib.hid (Nmo_y2.out.below hb); have Nwh_y3 := Lib.hid h; clear By2 Nup_y2 Nx_y2 Nmo_y2 Nle_y2 h hb)
    | (go_at_call 25; (with_reducible refine (add_to Amo Ax cmo cx lmo lx _ _ _ n y3 Nmo_y3.out Nx_y3.out ES.out FU.out (by omega)).mono ?_); rintro e y4 ⟨Ast, cst, lst, rfl, h, hb⟩; have By4 := Lib.hid (By3.out.trans (hb.mono By3.out.size)); have Nup_y4 := Lib.hid (Nup_y3.out.below hb); have Nwh_y4 := Lib.hid (Nwh_y3.out.below hb); have Nst_y4 := Lib.hid h; clear By3 Nup_y3 Nx_y3 Nmo_y3 Nwh_y3 h hb)
    | (go_at_call 31; (with_reducible refine (AL.out y4).mono ?_); rintro e y5 ⟨Aal, cal, lal, rfl, h, hb⟩; have By5 := Lib.hid (By4.out.trans (hb.mono By4.out.size)); have Nup_y5 := Lib.hid (Nup_y4.out.below hb); have Nwh_y5 := Lib.hid (Nwh_y4.out.below hb); have Nst_y5 := Lib.hid (Nst_y4.out.below hb); have Nal_y5 := Lib.hid h; clear By4 Nup_y4 Nwh_y4 Nst_y4 h hb)
    | (go_at_call 30; (with_reducible refine (sameT Awh Aal cwh cal lwh lal _ _ y5 Nwh_y5.out Nal_y5.out rfl).mono ?_); rintro e y6 ⟨rfl, hb⟩; have By6 := Lib.hid (By5.out.trans (hb.mono By5.out.size)); have Nup_y6 := Lib.hid (Nup_y5.out.below hb); have Nst_y6 := Lib.hid (Nst_y5.out.below hb); clear By5 Nup_y5 Nwh_y5 Nst_y5 Nal_y5 hb)
    | (go_at_call 30; (with_reducible refine (sameT Ast Aup cst cup lst lup _ _ y6 Nst_y6.out Nup_y6.out rfl).mono ?_); rintro e y7 ⟨rfl, hb⟩; have By7 := Lib.hid (By6.out.trans (hb.mono By6.out.size)); clear By6 Nup_y6 Nst_y6 hb)
    | (go_at_call 22; (with_reducible refine (C5.out y7).mono ?_); rintro e y8 ⟨Aha, cha, lha, rfl, h, hb⟩; have By8 := Lib.hid (By7.out.trans (hb.mono By7.out.size)); have Nha_y8 := Lib.hid h; clear By7 h hb)
    | (go_at_call 32; (with_reducible refine (CC.out y8).mono ?_); rintro e y9 ⟨Ach, cch, lch, rfl, h, hb⟩; have By9 := Lib.hid (By8.out.trans (hb.mono By8.out.size)); have Nha_y9 := Lib.hid (Nha_y8.out.below hb); have Nch_y9 := Lib.hid h; clear By8 Nha_y8 h hb)
    | (go_at_call 34; (with_reducible refine (O5.out y9).mono ?_); rintro e y10 ⟨Ao5, co5, lo5, rfl, h, hb⟩; have By10 := Lib.hid (By9.out.trans (hb.mono By9.out.size)); have Nha_y10 := Lib.hid (Nha_y9.out.below hb); have Nch_y10 := Lib.hid (Nch_y9.out.below hb); have No5_y10 := Lib.hid h; clear By9 Nha_y9 Nch_y9 h hb)
    | (go_at_call 33; (with_reducible refine (P5.out Ao5 co5 lo5 y10 No5_y10.out).mono ?_); rintro e y11 ⟨Apw, cpw, lpw, rfl, h, hb⟩; have By11 := Lib.hid (By10.out.trans (hb.mono By10.out.size)); have Nha_y11 := Lib.hid (Nha_y10.out.below hb); have Nch_y11 := Lib.hid (Nch_y10.out.below hb); have Npw_y11 := Lib.hid h; clear By10 Nha_y10 Nch_y10 No5_y10 h hb)
    | (go_at_call 35; (with_reducible refine (mul_to Ach Apw cch cpw lch lpw _ _ _ y11 Nch_y11.out Npw_y11.out E2.out F2.out).mono ?_); rintro e y12 ⟨Awa, cwa, lwa, rfl, h, hb⟩; have By12 := Lib.hid (By11.out.trans (hb.mono By11.out.size)); have Nha_y12 := Lib.hid (Nha_y11.out.below hb); have Nwa_y12 := Lib.hid h; clear By11 Nha_y11 Nch_y11 Npw_y11 h hb)
    | (go_at_call 30; (with_reducible refine (sameT Aha Awa cha cwa lha lwa _ _ y12 Nha_y12.out Nwa_y12.out rfl).mono ?_); rintro e y13 ⟨rfl, hb⟩; have By13 := Lib.hid (By12.out.trans (hb.mono By12.out.size)); clear By12 Nha_y12 Nwa_y12 hb))
  go_ret
  exact ⟨rfl, By13.out⟩

set_option maxRecDepth 100000 in
set_option maxHeartbeats 8000000 in
theorem sums_m0 (a0 a1 a2 : Int) (n k : Nat) (p : Int) (w : World) (hn : n ≤ 200) (hk : k ≤ n) (p0 : 0 ≤ p) (p1 : p ≤ 10000) (hm : k < n) (hl : k = 0)
    (TR : Hid (∀ W, Calls Try.prog 27 #[.int .i64 a0, .int .i64 a1, .int .i64 200] W fun e W' => e = .returned (.tuple #[.int .i64 n, .int .i64 k]) ∧ W = W'))
    (SH : Hid (∀ W, Calls Try.prog 20 #[.int .i64 a2] W fun e W' => e = .returned (.int .i64 p) ∧ W = W')) :
    Calls Try.prog 8 #[.int .i64 a0, .int .i64 a1, .int .i64 a2] w fun e w' => e = .returned (.bool true) ∧ Below w.heap.size w w' := by
  have AW := Lib.hid (awake_any w)
  have UP := Lib.hid (fun W => upper_ok n k p W p0 p1 (by omega) hk)
  have CH := Lib.hid (fun W => chance_ok n k p W p0 p1 (by omega) hk)
  have C5 := Lib.hid (fun W => chance_half n k W (by omega) hk)
  have CC := Lib.hid (fun W => choose_ok n k W (by omega) hk)
  have AL := Lib.hid (fun W => all_any n W (by omega))
  have O5 := Lib.hid (fun W => of_any 5000 W (by omega) (by omega))
  have P5 := Lib.hid (fun A c l W (h : Num W A l 5000) => pow_is 5000 n A c l W h (by omega) (by omega) (by omega))
  have E2 := Lib.hid (half_is n k hk)
  have F2 := Lib.hid (half_fit n k hn hk)
  have UM := Lib.hid (fun W => show Calls Try.prog 28 #[.int .i64 n, .int .i64 ((k : Int) + 1), .int .i64 p] W (PostNumE (upc n (k + 1) p) W) from upper_ok n (k + 1) p W p0 p1 (by omega) (by omega))
  have ES := Lib.hid (step_is n k p hm)
  have EW := Lib.hid (whole_zero n k p hl)
  have g2 : decide (0 < k) = false := decide_eq_false (by omega)
  have FU := Lib.hid (upc_le n k p0 p1)
  have n0 : (0 : Int) ≤ (n : Int) := by omega
  have n1 : (n : Int) ≤ 200 := by omega
  have k0 : (0 : Int) ≤ (k : Int) := by omega
  have k1 : (k : Int) ≤ (n : Int) := by omega
  have HL := Lib.hid hl; clear hl
  go_enter Try.func8, Try.ntmps8
  go_wp2_with (first
    | (go_at_call 14; (with_reducible refine (AW.out).mono ?_); rintro e x1 ⟨rfl, hb⟩; have Bx1 := Lib.hid hb; clear hb)
    | (go_at_call 27; (with_reducible refine (TR.out _).mono ?_); rintro e _y1 ⟨rfl, rfl⟩)
    | (go_at_call 20; (with_reducible refine (SH.out _).mono ?_); rintro e _y2 ⟨rfl, rfl⟩)
    | (go_at_call 28; (with_reducible refine (UP.out x1).mono ?_); rintro e x2 ⟨Aup, cup, lup, rfl, h, hb⟩; have Bx2 := Lib.hid (Bx1.out.trans (hb.mono Bx1.out.size)); have Nup_x2 := Lib.hid h; clear Bx1 h hb)
    | (go_at_call 22; (with_reducible refine (CH.out x2).mono ?_); rintro e x3 ⟨Ax, cx, lx, rfl, h, hb⟩; have Bx3 := Lib.hid (Bx2.out.trans (hb.mono Bx2.out.size)); have Nup_x3 := Lib.hid (Nup_x2.out.below hb); have Nx_x3 := Lib.hid h; clear Bx2 Nup_x2 h hb))
  obtain ⟨y, hy⟩ : ∃ y, y = (x3.alloc (.cells #[] 55)).alloc (.cells #[] 55) := ⟨_, rfl⟩
  have bz := ((Below.refl x3.heap.size x3).alloc (Nat.le_refl _) (.cells #[] 55)).alloc (by simp) (.cells #[] 55)
  rw [← hy] at bz
  have By := Lib.hid (Bx3.out.trans (bz.mono Bx3.out.size))
  have Nup := Lib.hid (Nup_x3.out.below bz); have Nx := Lib.hid (Nx_x3.out.below bz)
  rw [← hy]
  have HY := Lib.hid hy
  clear hy bz
  go_wp2_with (first
    | (go_at_call 28; (with_reducible refine (UM.out y).mono ?_); rintro e y1 ⟨Amo, cmo, lmo, rfl, h, hb⟩; have By1 := Lib.hid (By.out.trans (hb.mono By.out.size)); have Nup_y1 := Lib.hid (Nup.out.below hb); have Nx_y1 := Lib.hid (Nx.out.below hb); have Nmo_y1 := Lib.hid h; clear By Nup Nx h hb)
    | (go_at_call 25; (with_reducible refine (add_er Aup _ cup lup _ _ n y1 Nup_y1.out EW.out (Int.le_refl _) (by omega)).mono ?_); rintro e y2 ⟨Awh, cwh, lwh, rfl, h, hb⟩; have By2 := Lib.hid (By1.out.trans (hb.mono By1.out.size)); have Nup_y2 := Lib.hid (Nup_y1.out.below hb); have Nx_y2 := Lib.hid (Nx_y1.out.below hb); have Nmo_y2 := Lib.hid (Nmo_y1.out.below hb); have Nwh_y2 := Lib.hid h; clear By1 Nup_y1 Nx_y1 Nmo_y1 h hb)
    | (go_at_call 25; (with_reducible refine (add_to Amo Ax cmo cx lmo lx _ _ _ n y2 Nmo_y2.out Nx_y2.out ES.out FU.out (by omega)).mono ?_); rintro e y3 ⟨Ast, cst, lst, rfl, h, hb⟩; have By3 := Lib.hid (By2.out.trans (hb.mono By2.out.size)); have Nup_y3 := Lib.hid (Nup_y2.out.below hb); have Nwh_y3 := Lib.hid (Nwh_y2.out.below hb); have Nst_y3 := Lib.hid h; clear By2 Nup_y2 Nx_y2 Nmo_y2 Nwh_y2 h hb)
    | (go_at_call 31; (with_reducible refine (AL.out y3).mono ?_); rintro e y4 ⟨Aal, cal, lal, rfl, h, hb⟩; have By4 := Lib.hid (By3.out.trans (hb.mono By3.out.size)); have Nup_y4 := Lib.hid (Nup_y3.out.below hb); have Nwh_y4 := Lib.hid (Nwh_y3.out.below hb); have Nst_y4 := Lib.hid (Nst_y3.out.below hb); have Nal_y4 := Lib.hid h; clear By3 Nup_y3 Nwh_y3 Nst_y3 h hb)
    | (go_at_call 30; (with_reducible refine (sameT Awh Aal cwh cal lwh lal _ _ y4 Nwh_y4.out Nal_y4.out rfl).mono ?_); rintro e y5 ⟨rfl, hb⟩; have By5 := Lib.hid (By4.out.trans (hb.mono By4.out.size)); have Nup_y5 := Lib.hid (Nup_y4.out.below hb); have Nst_y5 := Lib.hid (Nst_y4.out.below hb); clear By4 Nup_y4 Nwh_y4 Nst_y4 Nal_y4 hb)
    | (go_at_call 30; (with_reducible refine (sameT Ast Aup cst cup lst lup _ _ y5 Nst_y5.out Nup_y5.out rfl).mono ?_); rintro e y6 ⟨rfl, hb⟩; have By6 := Lib.hid (By5.out.trans (hb.mono By5.out.size)); clear By5 Nup_y5 Nst_y5 hb)
    | (go_at_call 22; (with_reducible refine (C5.out y6).mono ?_); rintro e y7 ⟨Aha, cha, lha, rfl, h, hb⟩; have By7 := Lib.hid (By6.out.trans (hb.mono By6.out.size)); have Nha_y7 := Lib.hid h; clear By6 h hb)
    | (go_at_call 32; (with_reducible refine (CC.out y7).mono ?_); rintro e y8 ⟨Ach, cch, lch, rfl, h, hb⟩; have By8 := Lib.hid (By7.out.trans (hb.mono By7.out.size)); have Nha_y8 := Lib.hid (Nha_y7.out.below hb); have Nch_y8 := Lib.hid h; clear By7 Nha_y7 h hb)
    | (go_at_call 34; (with_reducible refine (O5.out y8).mono ?_); rintro e y9 ⟨Ao5, co5, lo5, rfl, h, hb⟩; have By9 := Lib.hid (By8.out.trans (hb.mono By8.out.size)); have Nha_y9 := Lib.hid (Nha_y8.out.below hb); have Nch_y9 := Lib.hid (Nch_y8.out.below hb); have No5_y9 := Lib.hid h; clear By8 Nha_y8 Nch_y8 h hb)
    | (go_at_call 33; (with_reducible refine (P5.out Ao5 co5 lo5 y9 No5_y9.out).mono ?_); rintro e y10 ⟨Apw, cpw, lpw, rfl, h, hb⟩; have By10 := Lib.hid (By9.out.trans (hb.mono By9.out.size)); have Nha_y10 := Lib.hid (Nha_y9.out.below hb); have Nch_y10 := Lib.hid (Nch_y9.out.below hb); have Npw_y10 := Lib.hid h; clear By9 Nha_y9 Nch_y9 No5_y9 h hb)
    | (go_at_call 35; (with_reducible refine (mul_to Ach Apw cch cpw lch lpw _ _ _ y10 Nch_y10.out Npw_y10.out E2.out F2.out).mono ?_); rintro e y11 ⟨Awa, cwa, lwa, rfl, h, hb⟩; have By11 := Lib.hid (By10.out.trans (hb.mono By10.out.size)); have Nha_y11 := Lib.hid (Nha_y10.out.below hb); have Nwa_y11 := Lib.hid h; clear By10 Nha_y10 Nch_y10 Npw_y10 h hb)
    | (go_at_call 30; (with_reducible refine (sameT Aha Awa cha cwa lha lwa _ _ y11 Nha_y11.out Nwa_y11.out rfl).mono ?_); rintro e y12 ⟨rfl, hb⟩; have By12 := Lib.hid (By11.out.trans (hb.mono By11.out.size)); clear By11 Nha_y11 Nwa_y11 hb))
  go_ret
  exact ⟨rfl, By12.out⟩

set_option maxRecDepth 100000 in
set_option maxHeartbeats 8000000 in
theorem sums_nl (a0 a1 a2 : Int) (n k : Nat) (p : Int) (w : World) (hn : n ≤ 200) (hk : k ≤ n) (p0 : 0 ≤ p) (p1 : p ≤ 10000) (hm : k = n) (hl : 0 < k)
    (TR : Hid (∀ W, Calls Try.prog 27 #[.int .i64 a0, .int .i64 a1, .int .i64 200] W fun e W' => e = .returned (.tuple #[.int .i64 n, .int .i64 k]) ∧ W = W'))
    (SH : Hid (∀ W, Calls Try.prog 20 #[.int .i64 a2] W fun e W' => e = .returned (.int .i64 p) ∧ W = W')) :
    Calls Try.prog 8 #[.int .i64 a0, .int .i64 a1, .int .i64 a2] w fun e w' => e = .returned (.bool true) ∧ Below w.heap.size w w' := by
  have AW := Lib.hid (awake_any w)
  have UP := Lib.hid (fun W => upper_ok n k p W p0 p1 (by omega) hk)
  have CH := Lib.hid (fun W => chance_ok n k p W p0 p1 (by omega) hk)
  have C5 := Lib.hid (fun W => chance_half n k W (by omega) hk)
  have CC := Lib.hid (fun W => choose_ok n k W (by omega) hk)
  have AL := Lib.hid (fun W => all_any n W (by omega))
  have O5 := Lib.hid (fun W => of_any 5000 W (by omega) (by omega))
  have P5 := Lib.hid (fun A c l W (h : Num W A l 5000) => pow_is 5000 n A c l W h (by omega) (by omega) (by omega))
  have E2 := Lib.hid (half_is n k hk)
  have F2 := Lib.hid (half_fit n k hn hk)
  have ES := Lib.hid (step_end n k p hm)
  have g1 : decide (k < n) = false := decide_eq_false (by omega)
  have LW := Lib.hid (fun W => lower_pred n k p W p0 p1 (by omega) hk hl)
  have EW := Lib.hid (whole_is n k p hk hl)
  have g2 : decide (0 < k) = true := decide_eq_true hl
  have FU := Lib.hid (upc_le n k p0 p1)
  have n0 : (0 : Int) ≤ (n : Int) := by omega
  have n1 : (n : Int) ≤ 200 := by omega
  have k0 : (0 : Int) ≤ (k : Int) := by omega
  have k1 : (k : Int) ≤ (n : Int) := by omega
  have HM := Lib.hid hm; clear hm
  go_enter Try.func8, Try.ntmps8
  go_wp2_with (first
    | (go_at_call 14; (with_reducible refine (AW.out).mono ?_); rintro e x1 ⟨rfl, hb⟩; have Bx1 := Lib.hid hb; clear hb)
    | (go_at_call 27; (with_reducible refine (TR.out _).mono ?_); rintro e _y1 ⟨rfl, rfl⟩)
    | (go_at_call 20; (with_reducible refine (SH.out _).mono ?_); rintro e _y2 ⟨rfl, rfl⟩)
    | (go_at_call 28; (with_reducible refine (UP.out x1).mono ?_); rintro e x2 ⟨Aup, cup, lup, rfl, h, hb⟩; have Bx2 := Lib.hid (Bx1.out.trans (hb.mono Bx1.out.size)); have Nup_x2 := Lib.hid h; clear Bx1 h hb)
    | (go_at_call 22; (with_reducible refine (CH.out x2).mono ?_); rintro e x3 ⟨Ax, cx, lx, rfl, h, hb⟩; have Bx3 := Lib.hid (Bx2.out.trans (hb.mono Bx2.out.size)); have Nup_x3 := Lib.hid (Nup_x2.out.below hb); have Nx_x3 := Lib.hid h; clear Bx2 Nup_x2 h hb))
  obtain ⟨y, hy⟩ : ∃ y, y = (x3.alloc (.cells #[] 55)).alloc (.cells #[] 55) := ⟨_, rfl⟩
  have bz := ((Below.refl x3.heap.size x3).alloc (Nat.le_refl _) (.cells #[] 55)).alloc (by simp) (.cells #[] 55)
  rw [← hy] at bz
  have By := Lib.hid (Bx3.out.trans (bz.mono Bx3.out.size))
  have Nup := Lib.hid (Nup_x3.out.below bz); have Nx := Lib.hid (Nx_x3.out.below bz)
  rw [← hy]
  have HY := Lib.hid hy
  clear hy bz
  go_wp2_with (first
    | (go_at_call 29; (with_reducible refine (LW.out y).mono ?_); rintro e y1 ⟨Ale, cle, lle, rfl, h, hb⟩; have By1 := Lib.hid (By.out.trans (hb.mono By.out.size)); have Nup_y1 := Lib.hid (Nup.out.below hb); have Nx_y1 := Lib.hid (Nx.out.below hb); have Nle_y1 := Lib.hid h; clear By Nup Nx h hb)
    | (go_at_call 25; (with_reducible refine (add_to Aup Ale cup cle lup lle _ _ _ n y1 Nup_y1.out Nle_y1.out EW.out (Int.le_refl _) (by omega)).mono ?_); rintro e y2 ⟨Awh, cwh, lwh, rfl, h, hb⟩; have By2 := Lib.hid (By1.out.trans (hb.mono By1.out.size)); have Nup_y2 := Lib.hid (Nup_y1.out.below hb); have Nx_y2 := Lib.hid (Nx_y1.out.below hb); have Nwh_y2 := Lib.hid h; clear By1 Nup_y1 Nx_y1 Nle_y1 h hb)
    | (go_at_call 25; (with_reducible refine (add_el _ Ax cx lx _ _ n y2 Nx_y2.out ES.out FU.out (by omega)).mono ?_); rintro e y3 ⟨Ast, cst, lst, rfl, h, hb⟩; have By3 := Lib.hid (By2.out.trans (hb.mono By2.out.size)); have Nup_y3 := Lib.hid (Nup_y2.out.below hb); have Nwh_y3 := Lib.hid (Nwh_y2.out.below hb); have Nst_y3 := Lib.hid h; clear By2 Nup_y2 Nx_y2 Nwh_y2 h hb)
    | (go_at_call 31; (with_reducible refine (AL.out y3).mono ?_); rintro e y4 ⟨Aal, cal, lal, rfl, h, hb⟩; have By4 := Lib.hid (By3.out.trans (hb.mono By3.out.size)); have Nup_y4 := Lib.hid (Nup_y3.out.below hb); have Nwh_y4 := Lib.hid (Nwh_y3.out.below hb); have Nst_y4 := Lib.hid (Nst_y3.out.below hb); have Nal_y4 := Lib.hid h; clear By3 Nup_y3 Nwh_y3 Nst_y3 h hb)
    | (go_at_call 30; (with_reducible refine (sameT Awh Aal cwh cal lwh lal _ _ y4 Nwh_y4.out Nal_y4.out rfl).mono ?_); rintro e y5 ⟨rfl, hb⟩; have By5 := Lib.hid (By4.out.trans (hb.mono By4.out.size)); have Nup_y5 := Lib.hid (Nup_y4.out.below hb); have Nst_y5 := Lib.hid (Nst_y4.out.below hb); clear By4 Nup_y4 Nwh_y4 Nst_y4 Nal_y4 hb)
    | (go_at_call 30; (with_reducible refine (sameT Ast Aup cst cup lst lup _ _ y5 Nst_y5.out Nup_y5.out rfl).mono ?_); rintro e y6 ⟨rfl, hb⟩; have By6 := Lib.hid (By5.out.trans (hb.mono By5.out.size)); clear By5 Nup_y5 Nst_y5 hb)
    | (go_at_call 22; (with_reducible refine (C5.out y6).mono ?_); rintro e y7 ⟨Aha, cha, lha, rfl, h, hb⟩; have By7 := Lib.hid (By6.out.trans (hb.mono By6.out.size)); have Nha_y7 := Lib.hid h; clear By6 h hb)
    | (go_at_call 32; (with_reducible refine (CC.out y7).mono ?_); rintro e y8 ⟨Ach, cch, lch, rfl, h, hb⟩; have By8 := Lib.hid (By7.out.trans (hb.mono By7.out.size)); have Nha_y8 := Lib.hid (Nha_y7.out.below hb); have Nch_y8 := Lib.hid h; clear By7 Nha_y7 h hb)
    | (go_at_call 34; (with_reducible refine (O5.out y8).mono ?_); rintro e y9 ⟨Ao5, co5, lo5, rfl, h, hb⟩; have By9 := Lib.hid (By8.out.trans (hb.mono By8.out.size)); have Nha_y9 := Lib.hid (Nha_y8.out.below hb); have Nch_y9 := Lib.hid (Nch_y8.out.below hb); have No5_y9 := Lib.hid h; clear By8 Nha_y8 Nch_y8 h hb)
    | (go_at_call 33; (with_reducible refine (P5.out Ao5 co5 lo5 y9 No5_y9.out).mono ?_); rintro e y10 ⟨Apw, cpw, lpw, rfl, h, hb⟩; have By10 := Lib.hid (By9.out.trans (hb.mono By9.out.size)); have Nha_y10 := Lib.hid (Nha_y9.out.below hb); have Nch_y10 := Lib.hid (Nch_y9.out.below hb); have Npw_y10 := Lib.hid h; clear By9 Nha_y9 Nch_y9 No5_y9 h hb)
    | (go_at_call 35; (with_reducible refine (mul_to Ach Apw cch cpw lch lpw _ _ _ y10 Nch_y10.out Npw_y10.out E2.out F2.out).mono ?_); rintro e y11 ⟨Awa, cwa, lwa, rfl, h, hb⟩; have By11 := Lib.hid (By10.out.trans (hb.mono By10.out.size)); have Nha_y11 := Lib.hid (Nha_y10.out.below hb); have Nwa_y11 := Lib.hid h; clear By10 Nha_y10 Nch_y10 Npw_y10 h hb)
    | (go_at_call 30; (with_reducible refine (sameT Aha Awa cha cwa lha lwa _ _ y11 Nha_y11.out Nwa_y11.out rfl).mono ?_); rintro e y12 ⟨rfl, hb⟩; have By12 := Lib.hid (By11.out.trans (hb.mono By11.out.size)); clear By11 Nha_y11 Nwa_y11 hb))
  go_ret
  exact ⟨rfl, By12.out⟩

set_option maxRecDepth 100000 in
set_option maxHeartbeats 8000000 in
theorem sums_n0 (a0 a1 a2 : Int) (n k : Nat) (p : Int) (w : World) (hn : n ≤ 200) (hk : k ≤ n) (p0 : 0 ≤ p) (p1 : p ≤ 10000) (hm : k = n) (hl : k = 0)
    (TR : Hid (∀ W, Calls Try.prog 27 #[.int .i64 a0, .int .i64 a1, .int .i64 200] W fun e W' => e = .returned (.tuple #[.int .i64 n, .int .i64 k]) ∧ W = W'))
    (SH : Hid (∀ W, Calls Try.prog 20 #[.int .i64 a2] W fun e W' => e = .returned (.int .i64 p) ∧ W = W')) :
    Calls Try.prog 8 #[.int .i64 a0, .int .i64 a1, .int .i64 a2] w fun e w' => e = .returned (.bool true) ∧ Below w.heap.size w w' := by
  have AW := Lib.hid (awake_any w)
  have UP := Lib.hid (fun W => upper_ok n k p W p0 p1 (by omega) hk)
  have CH := Lib.hid (fun W => chance_ok n k p W p0 p1 (by omega) hk)
  have C5 := Lib.hid (fun W => chance_half n k W (by omega) hk)
  have CC := Lib.hid (fun W => choose_ok n k W (by omega) hk)
  have AL := Lib.hid (fun W => all_any n W (by omega))
  have O5 := Lib.hid (fun W => of_any 5000 W (by omega) (by omega))
  have P5 := Lib.hid (fun A c l W (h : Num W A l 5000) => pow_is 5000 n A c l W h (by omega) (by omega) (by omega))
  have E2 := Lib.hid (half_is n k hk)
  have F2 := Lib.hid (half_fit n k hn hk)
  have ES := Lib.hid (step_end n k p hm)
  have g1 : decide (k < n) = false := decide_eq_false (by omega)
  have EW := Lib.hid (whole_zero n k p hl)
  have g2 : decide (0 < k) = false := decide_eq_false (by omega)
  have FU := Lib.hid (upc_le n k p0 p1)
  have n0 : (0 : Int) ≤ (n : Int) := by omega
  have n1 : (n : Int) ≤ 200 := by omega
  have k0 : (0 : Int) ≤ (k : Int) := by omega
  have k1 : (k : Int) ≤ (n : Int) := by omega
  have HM := Lib.hid hm; clear hm
  have HL := Lib.hid hl; clear hl
  go_enter Try.func8, Try.ntmps8
  go_wp2_with (first
    | (go_at_call 14; (with_reducible refine (AW.out).mono ?_); rintro e x1 ⟨rfl, hb⟩; have Bx1 := Lib.hid hb; clear hb)
    | (go_at_call 27; (with_reducible refine (TR.out _).mono ?_); rintro e _y1 ⟨rfl, rfl⟩)
    | (go_at_call 20; (with_reducible refine (SH.out _).mono ?_); rintro e _y2 ⟨rfl, rfl⟩)
    | (go_at_call 28; (with_reducible refine (UP.out x1).mono ?_); rintro e x2 ⟨Aup, cup, lup, rfl, h, hb⟩; have Bx2 := Lib.hid (Bx1.out.trans (hb.mono Bx1.out.size)); have Nup_x2 := Lib.hid h; clear Bx1 h hb)
    | (go_at_call 22; (with_reducible refine (CH.out x2).mono ?_); rintro e x3 ⟨Ax, cx, lx, rfl, h, hb⟩; have Bx3 := Lib.hid (Bx2.out.trans (hb.mono Bx2.out.size)); have Nup_x3 := Lib.hid (Nup_x2.out.below hb); have Nx_x3 := Lib.hid h; clear Bx2 Nup_x2 h hb))
  obtain ⟨y, hy⟩ : ∃ y, y = (x3.alloc (.cells #[] 55)).alloc (.cells #[] 55) := ⟨_, rfl⟩
  have bz := ((Below.refl x3.heap.size x3).alloc (Nat.le_refl _) (.cells #[] 55)).alloc (by simp) (.cells #[] 55)
  rw [← hy] at bz
  have By := Lib.hid (Bx3.out.trans (bz.mono Bx3.out.size))
  have Nup := Lib.hid (Nup_x3.out.below bz); have Nx := Lib.hid (Nx_x3.out.below bz)
  rw [← hy]
  have HY := Lib.hid hy
  clear hy bz
  go_wp2_with (first
    | (go_at_call 25; (with_reducible refine (add_er Aup _ cup lup _ _ n y Nup.out EW.out (Int.le_refl _) (by omega)).mono ?_); rintro e y1 ⟨Awh, cwh, lwh, rfl, h, hb⟩; have By1 := Lib.hid (By.out.trans (hb.mono By.out.size)); have Nup_y1 := Lib.hid (Nup.out.below hb); have Nx_y1 := Lib.hid (Nx.out.below hb); have Nwh_y1 := Lib.hid h; clear By Nup Nx h hb)
    | (go_at_call 25; (with_reducible refine (add_el _ Ax cx lx _ _ n y1 Nx_y1.out ES.out FU.out (by omega)).mono ?_); rintro e y2 ⟨Ast, cst, lst, rfl, h, hb⟩; have By2 := Lib.hid (By1.out.trans (hb.mono By1.out.size)); have Nup_y2 := Lib.hid (Nup_y1.out.below hb); have Nwh_y2 := Lib.hid (Nwh_y1.out.below hb); have Nst_y2 := Lib.hid h; clear By1 Nup_y1 Nx_y1 Nwh_y1 h hb)
    | (go_at_call 31; (with_reducible refine (AL.out y2).mono ?_); rintro e y3 ⟨Aal, cal, lal, rfl, h, hb⟩; have By3 := Lib.hid (By2.out.trans (hb.mono By2.out.size)); have Nup_y3 := Lib.hid (Nup_y2.out.below hb); have Nwh_y3 := Lib.hid (Nwh_y2.out.below hb); have Nst_y3 := Lib.hid (Nst_y2.out.below hb); have Nal_y3 := Lib.hid h; clear By2 Nup_y2 Nwh_y2 Nst_y2 h hb)
    | (go_at_call 30; (with_reducible refine (sameT Awh Aal cwh cal lwh lal _ _ y3 Nwh_y3.out Nal_y3.out rfl).mono ?_); rintro e y4 ⟨rfl, hb⟩; have By4 := Lib.hid (By3.out.trans (hb.mono By3.out.size)); have Nup_y4 := Lib.hid (Nup_y3.out.below hb); have Nst_y4 := Lib.hid (Nst_y3.out.below hb); clear By3 Nup_y3 Nwh_y3 Nst_y3 Nal_y3 hb)
    | (go_at_call 30; (with_reducible refine (sameT Ast Aup cst cup lst lup _ _ y4 Nst_y4.out Nup_y4.out rfl).mono ?_); rintro e y5 ⟨rfl, hb⟩; have By5 := Lib.hid (By4.out.trans (hb.mono By4.out.size)); clear By4 Nup_y4 Nst_y4 hb)
    | (go_at_call 22; (with_reducible refine (C5.out y5).mono ?_); rintro e y6 ⟨Aha, cha, lha, rfl, h, hb⟩; have By6 := Lib.hid (By5.out.trans (hb.mono By5.out.size)); have Nha_y6 := Lib.hid h; clear By5 h hb)
    | (go_at_call 32; (with_reducible refine (CC.out y6).mono ?_); rintro e y7 ⟨Ach, cch, lch, rfl, h, hb⟩; have By7 := Lib.hid (By6.out.trans (hb.mono By6.out.size)); have Nha_y7 := Lib.hid (Nha_y6.out.below hb); have Nch_y7 := Lib.hid h; clear By6 Nha_y6 h hb)
    | (go_at_call 34; (with_reducible refine (O5.out y7).mono ?_); rintro e y8 ⟨Ao5, co5, lo5, rfl, h, hb⟩; have By8 := Lib.hid (By7.out.trans (hb.mono By7.out.size)); have Nha_y8 := Lib.hid (Nha_y7.out.below hb); have Nch_y8 := Lib.hid (Nch_y7.out.below hb); have No5_y8 := Lib.hid h; clear By7 Nha_y7 Nch_y7 h hb)
    | (go_at_call 33; (with_reducible refine (P5.out Ao5 co5 lo5 y8 No5_y8.out).mono ?_); rintro e y9 ⟨Apw, cpw, lpw, rfl, h, hb⟩; have By9 := Lib.hid (By8.out.trans (hb.mono By8.out.size)); have Nha_y9 := Lib.hid (Nha_y8.out.below hb); have Nch_y9 := Lib.hid (Nch_y8.out.below hb); have Npw_y9 := Lib.hid h; clear By8 Nha_y8 Nch_y8 No5_y8 h hb)
    | (go_at_call 35; (with_reducible refine (mul_to Ach Apw cch cpw lch lpw _ _ _ y9 Nch_y9.out Npw_y9.out E2.out F2.out).mono ?_); rintro e y10 ⟨Awa, cwa, lwa, rfl, h, hb⟩; have By10 := Lib.hid (By9.out.trans (hb.mono By9.out.size)); have Nha_y10 := Lib.hid (Nha_y9.out.below hb); have Nwa_y10 := Lib.hid h; clear By9 Nha_y9 Nch_y9 Npw_y9 h hb)
    | (go_at_call 30; (with_reducible refine (sameT Aha Awa cha cwa lha lwa _ _ y10 Nha_y10.out Nwa_y10.out rfl).mono ?_); rintro e y11 ⟨rfl, hb⟩; have By11 := Lib.hid (By10.out.trans (hb.mono By10.out.size)); clear By10 Nha_y10 Nwa_y10 hb))
  go_ret
  exact ⟨rfl, By11.out⟩

theorem walk_statsSums (a0 : Int) (w0 : (Lit.int .i64 a0).wf = true) (a1 : Int) (w1 : (Lit.int .i64 a1).wf = true) (a2 : Int) (w2 : (Lit.int .i64 a2).wf = true) (w : World) :
    Calls Try.prog 8 #[.int .i64 a0, .int .i64 a1, .int .i64 a2] w fun e w' => e = .returned (.bool true) ∧ Below w.heap.size w w' := by
  obtain ⟨n, k, hn, hk, tr⟩ := trials_nat a0 a1 200 (by omega)
  have sh := Lib.hid (fun W => share_any a2 W)
  have p0 : 0 ≤ a2 % 10001 := by omega
  have p1 : a2 % 10001 ≤ 10000 := by omega
  have hk0 : 0 < k ∨ k = 0 := by omega
  rcases Nat.lt_or_eq_of_le hk with hm | hm <;> rcases hk0 with hl | hl
  · exact sums_ml a0 a1 a2 n k _ w hn hk p0 p1 hm hl (Lib.hid tr) sh
  · exact sums_m0 a0 a1 a2 n k _ w hn hk p0 p1 hm hl (Lib.hid tr) sh
  · exact sums_nl a0 a1 a2 n k _ w hn hk p0 p1 hm hl (Lib.hid tr) sh
  · exact sums_n0 a0 a1 a2 n k _ w hn hk p0 p1 hm hl (Lib.hid tr) sh
end Go.Proofs.Ytgbifcfdbelfpaa
