/-
  The walk of the law NatOrder.
-/
import Derived.Test.YtgcfmkelanhdhaaDoorNatLaw2
namespace Go.Proofs.YtgcfmkelanhdhaaDoor
open Go.RowKit
set_option linter.unusedVariables false

set_option maxRecDepth 100000 in
set_option maxHeartbeats 8000000 in
theorem order_lt_z (w : World) (A0 : Option Addr) (len0 cap0 : Nat) (A1 : Option Addr) (len1 cap1 : Nat) (A2 : Option Addr) (len2 cap2 : Nat) (a : Int) (b : Int) (c : Int) (ba : Bd a 500) (bb : Bd b 500) (bc : Bd c 500) (hab : a < b) (hc0 : c = 0)
    (H0 : Hid (∀ W, Below w.heap.size w W → Calls Tryd.prog 14 #[.slice A0 len0 cap0, .int .i64 500] W (PostNum a W))) (H1 : Hid (∀ W, Below w.heap.size w W → Calls Tryd.prog 14 #[.slice A1 len1 cap1, .int .i64 500] W (PostNum b W))) (H2 : Hid (∀ W, Below w.heap.size w W → Calls Tryd.prog 14 #[.slice A2 len2 cap2, .int .i64 500] W (PostNum c W))) :
    Calls Tryd.prog 6 #[.slice A0 len0 cap0, .slice A1 len1 cap1, .slice A2 len2 cap2] w fun e w' => e = .returned (.bool true) ∧ Below w.heap.size w w' := by
  have O1 := Lib.hid (fun W => of_any 1 W (by omega) (by omega))
  have AW := Lib.hid (awake_any w)
  have C1 := Lib.hid (show Lib.compareInt a b = -1 from cmpI_lt (hab))
  have C2 := Lib.hid (show Lib.compareInt b a = 1 from cmpI_gt (hab))
  have F1 := Lib.hid (show a + c < Na.Bp 1024 from (ba.add bc).fit (by omega))
  have F2 := Lib.hid (show b + c < Na.Bp 1024 from (bb.add bc).fit (by omega))
  have G1 := Lib.hid (show a * c < Na.Bp 1024 from (ba.mul bc).fit (by omega))
  have G2 := Lib.hid (show b * c < Na.Bp 1024 from (bb.mul bc).fit (by omega))
  have C3 := Lib.hid (show Lib.compareInt (a + c) (b + c) = -1 from cmpI_lt (by omega))
  have F3 := Lib.hid (show a + 1 < Na.Bp 1024 from (ba.add (show Bd 1 500 from ⟨by omega, Int.lt_of_lt_of_le (show (1 : Int) < Na.Bp 1 by decide) (Na.Bp_le (by omega))⟩)).fit (by omega))
  have E3 := Lib.hid (show a < a + 1 from by omega)
  have E1 := Lib.hid (show a ≠ b from by omega)
  have E2 := Lib.hid (show a < b from by omega)
  have C4 := Lib.hid (show Lib.compareInt (a * c) (b * c) = 0 from by rw [hc0]; simp only [Int.mul_zero]; exact cmpI_eq 0)
  have HC0 := Lib.hid (show c = 0 from hc0)
  clear ba bb bc hab hc0
  go_enter Tryd.func6, Tryd.ntmps6
  go_wp2_with (first
    | (go_at_call 12; (with_reducible refine (AW.out).mono ?_); rintro e x1 ⟨rfl, hb⟩; have B1 := Lib.hid hb; clear hb)
    | (go_at_call 14; (with_reducible refine (H0.out x1 B1.out).mono ?_); rintro e x2 ⟨Aa, ca, la, rfl, h, hb⟩; have B2 := Lib.hid (B1.out.trans (hb.mono B1.out.size)); have Na_2 := Lib.hid h; clear B1 h hb)
    | (go_at_call 14; (with_reducible refine (H1.out x2 B2.out).mono ?_); rintro e x3 ⟨Ab, cb, lb, rfl, h, hb⟩; have B3 := Lib.hid (B2.out.trans (hb.mono B2.out.size)); have Na_3 := Lib.hid (Na_2.out.below hb); have Nb_3 := Lib.hid h; clear B2 Na_2 h hb)
    | (go_at_call 14; (with_reducible refine (H2.out x3 B3.out).mono ?_); rintro e x4 ⟨Ac, cc, lc, rfl, h, hb⟩; have B4 := Lib.hid (B3.out.trans (hb.mono B3.out.size)); have Na_4 := Lib.hid (Na_3.out.below hb); have Nb_4 := Lib.hid (Nb_3.out.below hb); have Nc_4 := Lib.hid h; have hl0 := h.z0 HC0.out; have hl1 := h.z1 HC0.out; clear B3 Na_3 Nb_3 h hb)
    | (go_at_call 23; (with_reducible refine (cmp_at_val Aa Ab ca cb la lb (a) (b) _ x4 Na_4.out Nb_4.out C1.out).mono ?_); rintro e x5 ⟨rfl, hb⟩; have B5 := Lib.hid (B4.out.trans (hb.mono B4.out.size)); have Na_5 := Lib.hid (Na_4.out.below hb); have Nb_5 := Lib.hid (Nb_4.out.below hb); have Nc_5 := Lib.hid (Nc_4.out.below hb); clear B4 Na_4 Nb_4 Nc_4 hb)
    | (go_at_call 23; (with_reducible refine (cmp_at_val Ab Aa cb ca lb la (b) (a) _ x5 Nb_5.out Na_5.out C2.out).mono ?_); rintro e x6 ⟨rfl, hb⟩; have B6 := Lib.hid (B5.out.trans (hb.mono B5.out.size)); have Na_6 := Lib.hid (Na_5.out.below hb); have Nb_6 := Lib.hid (Nb_5.out.below hb); have Nc_6 := Lib.hid (Nc_5.out.below hb); clear B5 Na_5 Nb_5 Nc_5 hb)
    | (go_at_call 20; (with_reducible refine (sameF Aa Ab ca cb la lb (a) (b) x6 Na_6.out Nb_6.out E1.out).mono ?_); rintro e x7 ⟨rfl, hb⟩; have B7 := Lib.hid (B6.out.trans (hb.mono B6.out.size)); have Na_7 := Lib.hid (Na_6.out.below hb); have Nb_7 := Lib.hid (Nb_6.out.below hb); have Nc_7 := Lib.hid (Nc_6.out.below hb); clear B6 Na_6 Nb_6 Nc_6 hb)
    | (go_at_call 21; (with_reducible refine (sub_less Aa Ab ca cb la lb (a) (b) x7 Na_7.out Nb_7.out E2.out).mono ?_); rintro e x8 ⟨rfl, hb⟩; have B8 := Lib.hid (B7.out.trans (hb.mono B7.out.size)); have Na_8 := Lib.hid (Na_7.out.below hb); have Nb_8 := Lib.hid (Nb_7.out.below hb); have Nc_8 := Lib.hid (Nc_7.out.below hb); clear B7 Na_7 Nb_7 Nc_7 hb)
    | (go_at_call 17; (with_reducible refine (add_fit Aa Ac ca cc la lc (a) (c) x8 Na_8.out Nc_8.out F1.out).mono ?_); rintro e x9 ⟨As, cs, ls, rfl, h, hb⟩; have B9 := Lib.hid (B8.out.trans (hb.mono B8.out.size)); have Na_9 := Lib.hid (Na_8.out.below hb); have Nb_9 := Lib.hid (Nb_8.out.below hb); have Nc_9 := Lib.hid (Nc_8.out.below hb); have Ns_9 := Lib.hid h; clear B8 Na_8 Nb_8 Nc_8 h hb)
    | (go_at_call 17; (with_reducible refine (add_fit Ab Ac cb cc lb lc (b) (c) x9 Nb_9.out Nc_9.out F2.out).mono ?_); rintro e x10 ⟨At, ct, lt, rfl, h, hb⟩; have B10 := Lib.hid (B9.out.trans (hb.mono B9.out.size)); have Na_10 := Lib.hid (Na_9.out.below hb); have Nb_10 := Lib.hid (Nb_9.out.below hb); have Nc_10 := Lib.hid (Nc_9.out.below hb); have Ns_10 := Lib.hid (Ns_9.out.below hb); have Nt_10 := Lib.hid h; clear B9 Na_9 Nb_9 Nc_9 Ns_9 h hb)
    | (go_at_call 16; (with_reducible refine (mul_fit Aa Ac ca cc la lc (a) (c) x10 Na_10.out Nc_10.out G1.out).mono ?_); rintro e x11 ⟨Ap, cp, lp, rfl, h, hb⟩; have B11 := Lib.hid (B10.out.trans (hb.mono B10.out.size)); have Na_11 := Lib.hid (Na_10.out.below hb); have Nb_11 := Lib.hid (Nb_10.out.below hb); have Nc_11 := Lib.hid (Nc_10.out.below hb); have Ns_11 := Lib.hid (Ns_10.out.below hb); have Nt_11 := Lib.hid (Nt_10.out.below hb); have Np_11 := Lib.hid h; clear B10 Na_10 Nb_10 Nc_10 Ns_10 Nt_10 h hb)
    | (go_at_call 16; (with_reducible refine (mul_fit Ab Ac cb cc lb lc (b) (c) x11 Nb_11.out Nc_11.out G2.out).mono ?_); rintro e x12 ⟨Aq, cq, lq, rfl, h, hb⟩; have B12 := Lib.hid (B11.out.trans (hb.mono B11.out.size)); have Na_12 := Lib.hid (Na_11.out.below hb); have Ns_12 := Lib.hid (Ns_11.out.below hb); have Nt_12 := Lib.hid (Nt_11.out.below hb); have Np_12 := Lib.hid (Np_11.out.below hb); have Nq_12 := Lib.hid h; clear B11 Na_11 Nb_11 Nc_11 Ns_11 Nt_11 Np_11 h hb)
    | (go_at_call 23; (with_reducible refine (cmp_at_val As At cs ct ls lt (a + c) (b + c) _ x12 Ns_12.out Nt_12.out C3.out).mono ?_); rintro e x13 ⟨rfl, hb⟩; have B13 := Lib.hid (B12.out.trans (hb.mono B12.out.size)); have Na_13 := Lib.hid (Na_12.out.below hb); have Np_13 := Lib.hid (Np_12.out.below hb); have Nq_13 := Lib.hid (Nq_12.out.below hb); clear B12 Na_12 Ns_12 Nt_12 Np_12 Nq_12 hb)
    | (go_at_call 23; (with_reducible refine (cmp_at_val Ap Aq cp cq lp lq (a * c) (b * c) _ x13 Np_13.out Nq_13.out C4.out).mono ?_); rintro e x14 ⟨rfl, hb⟩; have B14 := Lib.hid (B13.out.trans (hb.mono B13.out.size)); have Na_14 := Lib.hid (Na_13.out.below hb); clear B13 Na_13 Np_13 Nq_13 hb)
    | (go_at_call 22; (with_reducible refine (O1.out x14).mono ?_); rintro e x15 ⟨Ao, co, lo, rfl, h, hb⟩; have B15 := Lib.hid (B14.out.trans (hb.mono B14.out.size)); have Na_15 := Lib.hid (Na_14.out.below hb); have No_15 := Lib.hid h; clear B14 Na_14 h hb)
    | (go_at_call 17; (with_reducible refine (add_fit Aa Ao ca co la lo (a) (1) x15 Na_15.out No_15.out F3.out).mono ?_); rintro e x16 ⟨Aup, cup, lup, rfl, h, hb⟩; have B16 := Lib.hid (B15.out.trans (hb.mono B15.out.size)); have Na_16 := Lib.hid (Na_15.out.below hb); have Nup_16 := Lib.hid h; clear B15 Na_15 No_15 h hb)
    | (go_at_call 19; (with_reducible refine (lessT Aa Aup ca cup la lup (a) (a + 1) x16 Na_16.out Nup_16.out E3.out).mono ?_); rintro e x17 ⟨rfl, hb⟩; have B17 := Lib.hid (B16.out.trans (hb.mono B16.out.size)); clear B16 Na_16 Nup_16 hb))
  go_ret
  exact ⟨rfl, B17.out⟩

set_option maxRecDepth 100000 in
set_option maxHeartbeats 8000000 in
theorem order_lt_p (w : World) (A0 : Option Addr) (len0 cap0 : Nat) (A1 : Option Addr) (len1 cap1 : Nat) (A2 : Option Addr) (len2 cap2 : Nat) (a : Int) (b : Int) (c : Int) (ba : Bd a 500) (bb : Bd b 500) (bc : Bd c 500) (hab : a < b) (hc0 : c ≠ 0)
    (H0 : Hid (∀ W, Below w.heap.size w W → Calls Tryd.prog 14 #[.slice A0 len0 cap0, .int .i64 500] W (PostNum a W))) (H1 : Hid (∀ W, Below w.heap.size w W → Calls Tryd.prog 14 #[.slice A1 len1 cap1, .int .i64 500] W (PostNum b W))) (H2 : Hid (∀ W, Below w.heap.size w W → Calls Tryd.prog 14 #[.slice A2 len2 cap2, .int .i64 500] W (PostNum c W))) :
    Calls Tryd.prog 6 #[.slice A0 len0 cap0, .slice A1 len1 cap1, .slice A2 len2 cap2] w fun e w' => e = .returned (.bool true) ∧ Below w.heap.size w w' := by
  have O1 := Lib.hid (fun W => of_any 1 W (by omega) (by omega))
  have AW := Lib.hid (awake_any w)
  have C1 := Lib.hid (show Lib.compareInt a b = -1 from cmpI_lt (hab))
  have C2 := Lib.hid (show Lib.compareInt b a = 1 from cmpI_gt (hab))
  have F1 := Lib.hid (show a + c < Na.Bp 1024 from (ba.add bc).fit (by omega))
  have F2 := Lib.hid (show b + c < Na.Bp 1024 from (bb.add bc).fit (by omega))
  have G1 := Lib.hid (show a * c < Na.Bp 1024 from (ba.mul bc).fit (by omega))
  have G2 := Lib.hid (show b * c < Na.Bp 1024 from (bb.mul bc).fit (by omega))
  have C3 := Lib.hid (show Lib.compareInt (a + c) (b + c) = -1 from cmpI_lt (by omega))
  have F3 := Lib.hid (show a + 1 < Na.Bp 1024 from (ba.add (show Bd 1 500 from ⟨by omega, Int.lt_of_lt_of_le (show (1 : Int) < Na.Bp 1 by decide) (Na.Bp_le (by omega))⟩)).fit (by omega))
  have E3 := Lib.hid (show a < a + 1 from by omega)
  have E1 := Lib.hid (show a ≠ b from by omega)
  have E2 := Lib.hid (show a < b from by omega)
  have C4 := Lib.hid (show Lib.compareInt (a * c) (b * c) = -1 from cmpI_lt (mul_lt hab (by have := bc.1; omega)))
  have HC0 := Lib.hid (show c ≠ 0 from hc0)
  clear ba bb bc hab hc0
  go_enter Tryd.func6, Tryd.ntmps6
  go_wp2_with (first
    | (go_at_call 12; (with_reducible refine (AW.out).mono ?_); rintro e x1 ⟨rfl, hb⟩; have B1 := Lib.hid hb; clear hb)
    | (go_at_call 14; (with_reducible refine (H0.out x1 B1.out).mono ?_); rintro e x2 ⟨Aa, ca, la, rfl, h, hb⟩; have B2 := Lib.hid (B1.out.trans (hb.mono B1.out.size)); have Na_2 := Lib.hid h; clear B1 h hb)
    | (go_at_call 14; (with_reducible refine (H1.out x2 B2.out).mono ?_); rintro e x3 ⟨Ab, cb, lb, rfl, h, hb⟩; have B3 := Lib.hid (B2.out.trans (hb.mono B2.out.size)); have Na_3 := Lib.hid (Na_2.out.below hb); have Nb_3 := Lib.hid h; clear B2 Na_2 h hb)
    | (go_at_call 14; (with_reducible refine (H2.out x3 B3.out).mono ?_); rintro e x4 ⟨Ac, cc, lc, rfl, h, hb⟩; have B4 := Lib.hid (B3.out.trans (hb.mono B3.out.size)); have Na_4 := Lib.hid (Na_3.out.below hb); have Nb_4 := Lib.hid (Nb_3.out.below hb); have Nc_4 := Lib.hid h; have hl0 := h.p0 HC0.out; have hl1 := h.lp HC0.out; clear B3 Na_3 Nb_3 h hb)
    | (go_at_call 23; (with_reducible refine (cmp_at_val Aa Ab ca cb la lb (a) (b) _ x4 Na_4.out Nb_4.out C1.out).mono ?_); rintro e x5 ⟨rfl, hb⟩; have B5 := Lib.hid (B4.out.trans (hb.mono B4.out.size)); have Na_5 := Lib.hid (Na_4.out.below hb); have Nb_5 := Lib.hid (Nb_4.out.below hb); have Nc_5 := Lib.hid (Nc_4.out.below hb); clear B4 Na_4 Nb_4 Nc_4 hb)
    | (go_at_call 23; (with_reducible refine (cmp_at_val Ab Aa cb ca lb la (b) (a) _ x5 Nb_5.out Na_5.out C2.out).mono ?_); rintro e x6 ⟨rfl, hb⟩; have B6 := Lib.hid (B5.out.trans (hb.mono B5.out.size)); have Na_6 := Lib.hid (Na_5.out.below hb); have Nb_6 := Lib.hid (Nb_5.out.below hb); have Nc_6 := Lib.hid (Nc_5.out.below hb); clear B5 Na_5 Nb_5 Nc_5 hb)
    | (go_at_call 20; (with_reducible refine (sameF Aa Ab ca cb la lb (a) (b) x6 Na_6.out Nb_6.out E1.out).mono ?_); rintro e x7 ⟨rfl, hb⟩; have B7 := Lib.hid (B6.out.trans (hb.mono B6.out.size)); have Na_7 := Lib.hid (Na_6.out.below hb); have Nb_7 := Lib.hid (Nb_6.out.below hb); have Nc_7 := Lib.hid (Nc_6.out.below hb); clear B6 Na_6 Nb_6 Nc_6 hb)
    | (go_at_call 21; (with_reducible refine (sub_less Aa Ab ca cb la lb (a) (b) x7 Na_7.out Nb_7.out E2.out).mono ?_); rintro e x8 ⟨rfl, hb⟩; have B8 := Lib.hid (B7.out.trans (hb.mono B7.out.size)); have Na_8 := Lib.hid (Na_7.out.below hb); have Nb_8 := Lib.hid (Nb_7.out.below hb); have Nc_8 := Lib.hid (Nc_7.out.below hb); clear B7 Na_7 Nb_7 Nc_7 hb)
    | (go_at_call 17; (with_reducible refine (add_fit Aa Ac ca cc la lc (a) (c) x8 Na_8.out Nc_8.out F1.out).mono ?_); rintro e x9 ⟨As, cs, ls, rfl, h, hb⟩; have B9 := Lib.hid (B8.out.trans (hb.mono B8.out.size)); have Na_9 := Lib.hid (Na_8.out.below hb); have Nb_9 := Lib.hid (Nb_8.out.below hb); have Nc_9 := Lib.hid (Nc_8.out.below hb); have Ns_9 := Lib.hid h; clear B8 Na_8 Nb_8 Nc_8 h hb)
    | (go_at_call 17; (with_reducible refine (add_fit Ab Ac cb cc lb lc (b) (c) x9 Nb_9.out Nc_9.out F2.out).mono ?_); rintro e x10 ⟨At, ct, lt, rfl, h, hb⟩; have B10 := Lib.hid (B9.out.trans (hb.mono B9.out.size)); have Na_10 := Lib.hid (Na_9.out.below hb); have Nb_10 := Lib.hid (Nb_9.out.below hb); have Nc_10 := Lib.hid (Nc_9.out.below hb); have Ns_10 := Lib.hid (Ns_9.out.below hb); have Nt_10 := Lib.hid h; clear B9 Na_9 Nb_9 Nc_9 Ns_9 h hb)
    | (go_at_call 16; (with_reducible refine (mul_fit Aa Ac ca cc la lc (a) (c) x10 Na_10.out Nc_10.out G1.out).mono ?_); rintro e x11 ⟨Ap, cp, lp, rfl, h, hb⟩; have B11 := Lib.hid (B10.out.trans (hb.mono B10.out.size)); have Na_11 := Lib.hid (Na_10.out.below hb); have Nb_11 := Lib.hid (Nb_10.out.below hb); have Nc_11 := Lib.hid (Nc_10.out.below hb); have Ns_11 := Lib.hid (Ns_10.out.below hb); have Nt_11 := Lib.hid (Nt_10.out.below hb); have Np_11 := Lib.hid h; clear B10 Na_10 Nb_10 Nc_10 Ns_10 Nt_10 h hb)
    | (go_at_call 16; (with_reducible refine (mul_fit Ab Ac cb cc lb lc (b) (c) x11 Nb_11.out Nc_11.out G2.out).mono ?_); rintro e x12 ⟨Aq, cq, lq, rfl, h, hb⟩; have B12 := Lib.hid (B11.out.trans (hb.mono B11.out.size)); have Na_12 := Lib.hid (Na_11.out.below hb); have Ns_12 := Lib.hid (Ns_11.out.below hb); have Nt_12 := Lib.hid (Nt_11.out.below hb); have Np_12 := Lib.hid (Np_11.out.below hb); have Nq_12 := Lib.hid h; clear B11 Na_11 Nb_11 Nc_11 Ns_11 Nt_11 Np_11 h hb)
    | (go_at_call 23; (with_reducible refine (cmp_at_val As At cs ct ls lt (a + c) (b + c) _ x12 Ns_12.out Nt_12.out C3.out).mono ?_); rintro e x13 ⟨rfl, hb⟩; have B13 := Lib.hid (B12.out.trans (hb.mono B12.out.size)); have Na_13 := Lib.hid (Na_12.out.below hb); have Np_13 := Lib.hid (Np_12.out.below hb); have Nq_13 := Lib.hid (Nq_12.out.below hb); clear B12 Na_12 Ns_12 Nt_12 Np_12 Nq_12 hb)
    | (go_at_call 23; (with_reducible refine (cmp_at_val Ap Aq cp cq lp lq (a * c) (b * c) _ x13 Np_13.out Nq_13.out C4.out).mono ?_); rintro e x14 ⟨rfl, hb⟩; have B14 := Lib.hid (B13.out.trans (hb.mono B13.out.size)); have Na_14 := Lib.hid (Na_13.out.below hb); clear B13 Na_13 Np_13 Nq_13 hb)
    | (go_at_call 22; (with_reducible refine (O1.out x14).mono ?_); rintro e x15 ⟨Ao, co, lo, rfl, h, hb⟩; have B15 := Lib.hid (B14.out.trans (hb.mono B14.out.size)); have Na_15 := Lib.hid (Na_14.out.below hb); have No_15 := Lib.hid h; clear B14 Na_14 h hb)
    | (go_at_call 17; (with_reducible refine (add_fit Aa Ao ca co la lo (a) (1) x15 Na_15.out No_15.out F3.out).mono ?_); rintro e x16 ⟨Aup, cup, lup, rfl, h, hb⟩; have B16 := Lib.hid (B15.out.trans (hb.mono B15.out.size)); have Na_16 := Lib.hid (Na_15.out.below hb); have Nup_16 := Lib.hid h; clear B15 Na_15 No_15 h hb)
    | (go_at_call 19; (with_reducible refine (lessT Aa Aup ca cup la lup (a) (a + 1) x16 Na_16.out Nup_16.out E3.out).mono ?_); rintro e x17 ⟨rfl, hb⟩; have B17 := Lib.hid (B16.out.trans (hb.mono B16.out.size)); clear B16 Na_16 Nup_16 hb))
  go_ret
  exact ⟨rfl, B17.out⟩

set_option maxRecDepth 100000 in
set_option maxHeartbeats 8000000 in
theorem order_eq_z (w : World) (A0 : Option Addr) (len0 cap0 : Nat) (A1 : Option Addr) (len1 cap1 : Nat) (A2 : Option Addr) (len2 cap2 : Nat) (a : Int) (c : Int) (ba : Bd a 500) (bc : Bd c 500) (hc0 : c = 0)
    (H0 : Hid (∀ W, Below w.heap.size w W → Calls Tryd.prog 14 #[.slice A0 len0 cap0, .int .i64 500] W (PostNum a W))) (H1 : Hid (∀ W, Below w.heap.size w W → Calls Tryd.prog 14 #[.slice A1 len1 cap1, .int .i64 500] W (PostNum a W))) (H2 : Hid (∀ W, Below w.heap.size w W → Calls Tryd.prog 14 #[.slice A2 len2 cap2, .int .i64 500] W (PostNum c W))) :
    Calls Tryd.prog 6 #[.slice A0 len0 cap0, .slice A1 len1 cap1, .slice A2 len2 cap2] w fun e w' => e = .returned (.bool true) ∧ Below w.heap.size w w' := by
  have O1 := Lib.hid (fun W => of_any 1 W (by omega) (by omega))
  have AW := Lib.hid (awake_any w)
  have C1 := Lib.hid (show Lib.compareInt a a = 0 from cmpI_eq _)
  have C2 := Lib.hid (show Lib.compareInt a a = 0 from cmpI_eq _)
  have F1 := Lib.hid (show a + c < Na.Bp 1024 from (ba.add bc).fit (by omega))
  have F2 := Lib.hid (show a + c < Na.Bp 1024 from (ba.add bc).fit (by omega))
  have G1 := Lib.hid (show a * c < Na.Bp 1024 from (ba.mul bc).fit (by omega))
  have G2 := Lib.hid (show a * c < Na.Bp 1024 from (ba.mul bc).fit (by omega))
  have C3 := Lib.hid (show Lib.compareInt (a + c) (a + c) = 0 from cmpI_eq _)
  have F3 := Lib.hid (show a + 1 < Na.Bp 1024 from (ba.add (show Bd 1 500 from ⟨by omega, Int.lt_of_lt_of_le (show (1 : Int) < Na.Bp 1 by decide) (Na.Bp_le (by omega))⟩)).fit (by omega))
  have E3 := Lib.hid (show a < a + 1 from by omega)
  have C4 := Lib.hid (show Lib.compareInt (a * c) (a * c) = 0 from by rw [hc0]; simp only [Int.mul_zero]; exact cmpI_eq 0)
  have HC0 := Lib.hid (show c = 0 from hc0)
  clear ba bc hc0
  go_enter Tryd.func6, Tryd.ntmps6
  go_wp2_with (first
    | (go_at_call 12; (with_reducible refine (AW.out).mono ?_); rintro e x1 ⟨rfl, hb⟩; have B1 := Lib.hid hb; clear hb)
    | (go_at_call 14; (with_reducible refine (H0.out x1 B1.out).mono ?_); rintro e x2 ⟨Aa, ca, la, rfl, h, hb⟩; have B2 := Lib.hid (B1.out.trans (hb.mono B1.out.size)); have Na_2 := Lib.hid h; clear B1 h hb)
    | (go_at_call 14; (with_reducible refine (H1.out x2 B2.out).mono ?_); rintro e x3 ⟨Ab, cb, lb, rfl, h, hb⟩; have B3 := Lib.hid (B2.out.trans (hb.mono B2.out.size)); have Na_3 := Lib.hid (Na_2.out.below hb); have Nb_3 := Lib.hid h; clear B2 Na_2 h hb)
    | (go_at_call 14; (with_reducible refine (H2.out x3 B3.out).mono ?_); rintro e x4 ⟨Ac, cc, lc, rfl, h, hb⟩; have B4 := Lib.hid (B3.out.trans (hb.mono B3.out.size)); have Na_4 := Lib.hid (Na_3.out.below hb); have Nb_4 := Lib.hid (Nb_3.out.below hb); have Nc_4 := Lib.hid h; have hl0 := h.z0 HC0.out; have hl1 := h.z1 HC0.out; clear B3 Na_3 Nb_3 h hb)
    | (go_at_call 23; (with_reducible refine (cmp_at_val Aa Ab ca cb la lb (a) (a) _ x4 Na_4.out Nb_4.out C1.out).mono ?_); rintro e x5 ⟨rfl, hb⟩; have B5 := Lib.hid (B4.out.trans (hb.mono B4.out.size)); have Na_5 := Lib.hid (Na_4.out.below hb); have Nb_5 := Lib.hid (Nb_4.out.below hb); have Nc_5 := Lib.hid (Nc_4.out.below hb); clear B4 Na_4 Nb_4 Nc_4 hb)
    | (go_at_call 23; (with_reducible refine (cmp_at_val Ab Aa cb ca lb la (a) (a) _ x5 Nb_5.out Na_5.out C2.out).mono ?_); rintro e x6 ⟨rfl, hb⟩; have B6 := Lib.hid (B5.out.trans (hb.mono B5.out.size)); have Na_6 := Lib.hid (Na_5.out.below hb); have Nb_6 := Lib.hid (Nb_5.out.below hb); have Nc_6 := Lib.hid (Nc_5.out.below hb); clear B5 Na_5 Nb_5 Nc_5 hb)
    | (go_at_call 20; (with_reducible refine (sameT Aa Ab ca cb la lb (a) (a) x6 Na_6.out Nb_6.out (rfl)).mono ?_); rintro e x7 ⟨rfl, hb⟩; have B7 := Lib.hid (B6.out.trans (hb.mono B6.out.size)); have Na_7 := Lib.hid (Na_6.out.below hb); have Nb_7 := Lib.hid (Nb_6.out.below hb); have Nc_7 := Lib.hid (Nc_6.out.below hb); clear B6 Na_6 Nb_6 Nc_6 hb)
    | (go_at_call 21; (with_reducible refine (sub_yes Aa Ab ca cb la lb (a) (a) x7 Na_7.out Nb_7.out (Int.le_refl _)).mono ?_); rintro e x8 ⟨Ad, cd, ld, rfl, h, hb⟩; have B8 := Lib.hid (B7.out.trans (hb.mono B7.out.size)); have Na_8 := Lib.hid (Na_7.out.below hb); have Nb_8 := Lib.hid (Nb_7.out.below hb); have Nc_8 := Lib.hid (Nc_7.out.below hb); have Nd_8 := Lib.hid h; have hl2 := h.z2 (Int.sub_self a); clear B7 Na_7 Nb_7 Nc_7 h hb)
    | (go_at_call 17; (with_reducible refine (add_fit Aa Ac ca cc la lc (a) (c) x8 Na_8.out Nc_8.out F1.out).mono ?_); rintro e x9 ⟨As, cs, ls, rfl, h, hb⟩; have B9 := Lib.hid (B8.out.trans (hb.mono B8.out.size)); have Na_9 := Lib.hid (Na_8.out.below hb); have Nb_9 := Lib.hid (Nb_8.out.below hb); have Nc_9 := Lib.hid (Nc_8.out.below hb); have Ns_9 := Lib.hid h; clear B8 Na_8 Nb_8 Nc_8 Nd_8 h hb)
    | (go_at_call 17; (with_reducible refine (add_fit Ab Ac cb cc lb lc (a) (c) x9 Nb_9.out Nc_9.out F2.out).mono ?_); rintro e x10 ⟨At, ct, lt, rfl, h, hb⟩; have B10 := Lib.hid (B9.out.trans (hb.mono B9.out.size)); have Na_10 := Lib.hid (Na_9.out.below hb); have Nb_10 := Lib.hid (Nb_9.out.below hb); have Nc_10 := Lib.hid (Nc_9.out.below hb); have Ns_10 := Lib.hid (Ns_9.out.below hb); have Nt_10 := Lib.hid h; clear B9 Na_9 Nb_9 Nc_9 Ns_9 h hb)
    | (go_at_call 16; (with_reducible refine (mul_fit Aa Ac ca cc la lc (a) (c) x10 Na_10.out Nc_10.out G1.out).mono ?_); rintro e x11 ⟨Ap, cp, lp, rfl, h, hb⟩; have B11 := Lib.hid (B10.out.trans (hb.mono B10.out.size)); have Na_11 := Lib.hid (Na_10.out.below hb); have Nb_11 := Lib.hid (Nb_10.out.below hb); have Nc_11 := Lib.hid (Nc_10.out.below hb); have Ns_11 := Lib.hid (Ns_10.out.below hb); have Nt_11 := Lib.hid (Nt_10.out.below hb); have Np_11 := Lib.hid h; clear B10 Na_10 Nb_10 Nc_10 Ns_10 Nt_10 h hb)
    | (go_at_call 16; (with_reducible refine (mul_fit Ab Ac cb cc lb lc (a) (c) x11 Nb_11.out Nc_11.out G2.out).mono ?_); rintro e x12 ⟨Aq, cq, lq, rfl, h, hb⟩; have B12 := Lib.hid (B11.out.trans (hb.mono B11.out.size)); have Na_12 := Lib.hid (Na_11.out.below hb); have Ns_12 := Lib.hid (Ns_11.out.below hb); have Nt_12 := Lib.hid (Nt_11.out.below hb); have Np_12 := Lib.hid (Np_11.out.below hb); have Nq_12 := Lib.hid h; clear B11 Na_11 Nb_11 Nc_11 Ns_11 Nt_11 Np_11 h hb)
    | (go_at_call 23; (with_reducible refine (cmp_at_val As At cs ct ls lt (a + c) (a + c) _ x12 Ns_12.out Nt_12.out C3.out).mono ?_); rintro e x13 ⟨rfl, hb⟩; have B13 := Lib.hid (B12.out.trans (hb.mono B12.out.size)); have Na_13 := Lib.hid (Na_12.out.below hb); have Np_13 := Lib.hid (Np_12.out.below hb); have Nq_13 := Lib.hid (Nq_12.out.below hb); clear B12 Na_12 Ns_12 Nt_12 Np_12 Nq_12 hb)
    | (go_at_call 23; (with_reducible refine (cmp_at_val Ap Aq cp cq lp lq (a * c) (a * c) _ x13 Np_13.out Nq_13.out C4.out).mono ?_); rintro e x14 ⟨rfl, hb⟩; have B14 := Lib.hid (B13.out.trans (hb.mono B13.out.size)); have Na_14 := Lib.hid (Na_13.out.below hb); clear B13 Na_13 Np_13 Nq_13 hb)
    | (go_at_call 22; (with_reducible refine (O1.out x14).mono ?_); rintro e x15 ⟨Ao, co, lo, rfl, h, hb⟩; have B15 := Lib.hid (B14.out.trans (hb.mono B14.out.size)); have Na_15 := Lib.hid (Na_14.out.below hb); have No_15 := Lib.hid h; clear B14 Na_14 h hb)
    | (go_at_call 17; (with_reducible refine (add_fit Aa Ao ca co la lo (a) (1) x15 Na_15.out No_15.out F3.out).mono ?_); rintro e x16 ⟨Aup, cup, lup, rfl, h, hb⟩; have B16 := Lib.hid (B15.out.trans (hb.mono B15.out.size)); have Na_16 := Lib.hid (Na_15.out.below hb); have Nup_16 := Lib.hid h; clear B15 Na_15 No_15 h hb)
    | (go_at_call 19; (with_reducible refine (lessT Aa Aup ca cup la lup (a) (a + 1) x16 Na_16.out Nup_16.out E3.out).mono ?_); rintro e x17 ⟨rfl, hb⟩; have B17 := Lib.hid (B16.out.trans (hb.mono B16.out.size)); clear B16 Na_16 Nup_16 hb))
  go_ret
  exact ⟨rfl, B17.out⟩

set_option maxRecDepth 100000 in
set_option maxHeartbeats 8000000 in
theorem order_eq_p (w : World) (A0 : Option Addr) (len0 cap0 : Nat) (A1 : Option Addr) (len1 cap1 : Nat) (A2 : Option Addr) (len2 cap2 : Nat) (a : Int) (c : Int) (ba : Bd a 500) (bc : Bd c 500) (hc0 : c ≠ 0)
    (H0 : Hid (∀ W, Below w.heap.size w W → Calls Tryd.prog 14 #[.slice A0 len0 cap0, .int .i64 500] W (PostNum a W))) (H1 : Hid (∀ W, Below w.heap.size w W → Calls Tryd.prog 14 #[.slice A1 len1 cap1, .int .i64 500] W (PostNum a W))) (H2 : Hid (∀ W, Below w.heap.size w W → Calls Tryd.prog 14 #[.slice A2 len2 cap2, .int .i64 500] W (PostNum c W))) :
    Calls Tryd.prog 6 #[.slice A0 len0 cap0, .slice A1 len1 cap1, .slice A2 len2 cap2] w fun e w' => e = .returned (.bool true) ∧ Below w.heap.size w w' := by
  have O1 := Lib.hid (fun W => of_any 1 W (by omega) (by omega))
  have AW := Lib.hid (awake_any w)
  have C1 := Lib.hid (show Lib.compareInt a a = 0 from cmpI_eq _)
  have C2 := Lib.hid (show Lib.compareInt a a = 0 from cmpI_eq _)
  have F1 := Lib.hid (show a + c < Na.Bp 1024 from (ba.add bc).fit (by omega))
  have F2 := Lib.hid (show a + c < Na.Bp 1024 from (ba.add bc).fit (by omega))
  have G1 := Lib.hid (show a * c < Na.Bp 1024 from (ba.mul bc).fit (by omega))
  have G2 := Lib.hid (show a * c < Na.Bp 1024 from (ba.mul bc).fit (by omega))
  have C3 := Lib.hid (show Lib.compareInt (a + c) (a + c) = 0 from cmpI_eq _)
  have F3 := Lib.hid (show a + 1 < Na.Bp 1024 from (ba.add (show Bd 1 500 from ⟨by omega, Int.lt_of_lt_of_le (show (1 : Int) < Na.Bp 1 by decide) (Na.Bp_le (by omega))⟩)).fit (by omega))
  have E3 := Lib.hid (show a < a + 1 from by omega)
  have C4 := Lib.hid (show Lib.compareInt (a * c) (a * c) = 0 from cmpI_eq _)
  have HC0 := Lib.hid (show c ≠ 0 from hc0)
  clear ba bc hc0
  go_enter Tryd.func6, Tryd.ntmps6
  go_wp2_with (first
    | (go_at_call 12; (with_reducible refine (AW.out).mono ?_); rintro e x1 ⟨rfl, hb⟩; have B1 := Lib.hid hb; clear hb)
    | (go_at_call 14; (with_reducible refine (H0.out x1 B1.out).mono ?_); rintro e x2 ⟨Aa, ca, la, rfl, h, hb⟩; have B2 := Lib.hid (B1.out.trans (hb.mono B1.out.size)); have Na_2 := Lib.hid h; clear B1 h hb)
    | (go_at_call 14; (with_reducible refine (H1.out x2 B2.out).mono ?_); rintro e x3 ⟨Ab, cb, lb, rfl, h, hb⟩; have B3 := Lib.hid (B2.out.trans (hb.mono B2.out.size)); have Na_3 := Lib.hid (Na_2.out.below hb); have Nb_3 := Lib.hid h; clear B2 Na_2 h hb)
    | (go_at_call 14; (with_reducible refine (H2.out x3 B3.out).mono ?_); rintro e x4 ⟨Ac, cc, lc, rfl, h, hb⟩; have B4 := Lib.hid (B3.out.trans (hb.mono B3.out.size)); have Na_4 := Lib.hid (Na_3.out.below hb); have Nb_4 := Lib.hid (Nb_3.out.below hb); have Nc_4 := Lib.hid h; have hl0 := h.p0 HC0.out; have hl1 := h.lp HC0.out; clear B3 Na_3 Nb_3 h hb)
    | (go_at_call 23; (with_reducible refine (cmp_at_val Aa Ab ca cb la lb (a) (a) _ x4 Na_4.out Nb_4.out C1.out).mono ?_); rintro e x5 ⟨rfl, hb⟩; have B5 := Lib.hid (B4.out.trans (hb.mono B4.out.size)); have Na_5 := Lib.hid (Na_4.out.below hb); have Nb_5 := Lib.hid (Nb_4.out.below hb); have Nc_5 := Lib.hid (Nc_4.out.below hb); clear B4 Na_4 Nb_4 Nc_4 hb)
    | (go_at_call 23; (with_reducible refine (cmp_at_val Ab Aa cb ca lb la (a) (a) _ x5 Nb_5.out Na_5.out C2.out).mono ?_); rintro e x6 ⟨rfl, hb⟩; have B6 := Lib.hid (B5.out.trans (hb.mono B5.out.size)); have Na_6 := Lib.hid (Na_5.out.below hb); have Nb_6 := Lib.hid (Nb_5.out.below hb); have Nc_6 := Lib.hid (Nc_5.out.below hb); clear B5 Na_5 Nb_5 Nc_5 hb)
    | (go_at_call 20; (with_reducible refine (sameT Aa Ab ca cb la lb (a) (a) x6 Na_6.out Nb_6.out (rfl)).mono ?_); rintro e x7 ⟨rfl, hb⟩; have B7 := Lib.hid (B6.out.trans (hb.mono B6.out.size)); have Na_7 := Lib.hid (Na_6.out.below hb); have Nb_7 := Lib.hid (Nb_6.out.below hb); have Nc_7 := Lib.hid (Nc_6.out.below hb); clear B6 Na_6 Nb_6 Nc_6 hb)
    | (go_at_call 21; (with_reducible refine (sub_yes Aa Ab ca cb la lb (a) (a) x7 Na_7.out Nb_7.out (Int.le_refl _)).mono ?_); rintro e x8 ⟨Ad, cd, ld, rfl, h, hb⟩; have B8 := Lib.hid (B7.out.trans (hb.mono B7.out.size)); have Na_8 := Lib.hid (Na_7.out.below hb); have Nb_8 := Lib.hid (Nb_7.out.below hb); have Nc_8 := Lib.hid (Nc_7.out.below hb); have Nd_8 := Lib.hid h; have hl2 := h.z2 (Int.sub_self a); clear B7 Na_7 Nb_7 Nc_7 h hb)
    | (go_at_call 17; (with_reducible refine (add_fit Aa Ac ca cc la lc (a) (c) x8 Na_8.out Nc_8.out F1.out).mono ?_); rintro e x9 ⟨As, cs, ls, rfl, h, hb⟩; have B9 := Lib.hid (B8.out.trans (hb.mono B8.out.size)); have Na_9 := Lib.hid (Na_8.out.below hb); have Nb_9 := Lib.hid (Nb_8.out.below hb); have Nc_9 := Lib.hid (Nc_8.out.below hb); have Ns_9 := Lib.hid h; clear B8 Na_8 Nb_8 Nc_8 Nd_8 h hb)
    | (go_at_call 17; (with_reducible refine (add_fit Ab Ac cb cc lb lc (a) (c) x9 Nb_9.out Nc_9.out F2.out).mono ?_); rintro e x10 ⟨At, ct, lt, rfl, h, hb⟩; have B10 := Lib.hid (B9.out.trans (hb.mono B9.out.size)); have Na_10 := Lib.hid (Na_9.out.below hb); have Nb_10 := Lib.hid (Nb_9.out.below hb); have Nc_10 := Lib.hid (Nc_9.out.below hb); have Ns_10 := Lib.hid (Ns_9.out.below hb); have Nt_10 := Lib.hid h; clear B9 Na_9 Nb_9 Nc_9 Ns_9 h hb)
    | (go_at_call 16; (with_reducible refine (mul_fit Aa Ac ca cc la lc (a) (c) x10 Na_10.out Nc_10.out G1.out).mono ?_); rintro e x11 ⟨Ap, cp, lp, rfl, h, hb⟩; have B11 := Lib.hid (B10.out.trans (hb.mono B10.out.size)); have Na_11 := Lib.hid (Na_10.out.below hb); have Nb_11 := Lib.hid (Nb_10.out.below hb); have Nc_11 := Lib.hid (Nc_10.out.below hb); have Ns_11 := Lib.hid (Ns_10.out.below hb); have Nt_11 := Lib.hid (Nt_10.out.below hb); have Np_11 := Lib.hid h; clear B10 Na_10 Nb_10 Nc_10 Ns_10 Nt_10 h hb)
    | (go_at_call 16; (with_reducible refine (mul_fit Ab Ac cb cc lb lc (a) (c) x11 Nb_11.out Nc_11.out G2.out).mono ?_); rintro e x12 ⟨Aq, cq, lq, rfl, h, hb⟩; have B12 := Lib.hid (B11.out.trans (hb.mono B11.out.size)); have Na_12 := Lib.hid (Na_11.out.below hb); have Ns_12 := Lib.hid (Ns_11.out.below hb); have Nt_12 := Lib.hid (Nt_11.out.below hb); have Np_12 := Lib.hid (Np_11.out.below hb); have Nq_12 := Lib.hid h; clear B11 Na_11 Nb_11 Nc_11 Ns_11 Nt_11 Np_11 h hb)
    | (go_at_call 23; (with_reducible refine (cmp_at_val As At cs ct ls lt (a + c) (a + c) _ x12 Ns_12.out Nt_12.out C3.out).mono ?_); rintro e x13 ⟨rfl, hb⟩; have B13 := Lib.hid (B12.out.trans (hb.mono B12.out.size)); have Na_13 := Lib.hid (Na_12.out.below hb); have Np_13 := Lib.hid (Np_12.out.below hb); have Nq_13 := Lib.hid (Nq_12.out.below hb); clear B12 Na_12 Ns_12 Nt_12 Np_12 Nq_12 hb)
    | (go_at_call 23; (with_reducible refine (cmp_at_val Ap Aq cp cq lp lq (a * c) (a * c) _ x13 Np_13.out Nq_13.out C4.out).mono ?_); rintro e x14 ⟨rfl, hb⟩; have B14 := Lib.hid (B13.out.trans (hb.mono B13.out.size)); have Na_14 := Lib.hid (Na_13.out.below hb); clear B13 Na_13 Np_13 Nq_13 hb)
    | (go_at_call 22; (with_reducible refine (O1.out x14).mono ?_); rintro e x15 ⟨Ao, co, lo, rfl, h, hb⟩; have B15 := Lib.hid (B14.out.trans (hb.mono B14.out.size)); have Na_15 := Lib.hid (Na_14.out.below hb); have No_15 := Lib.hid h; clear B14 Na_14 h hb)
    | (go_at_call 17; (with_reducible refine (add_fit Aa Ao ca co la lo (a) (1) x15 Na_15.out No_15.out F3.out).mono ?_); rintro e x16 ⟨Aup, cup, lup, rfl, h, hb⟩; have B16 := Lib.hid (B15.out.trans (hb.mono B15.out.size)); have Na_16 := Lib.hid (Na_15.out.below hb); have Nup_16 := Lib.hid h; clear B15 Na_15 No_15 h hb)
    | (go_at_call 19; (with_reducible refine (lessT Aa Aup ca cup la lup (a) (a + 1) x16 Na_16.out Nup_16.out E3.out).mono ?_); rintro e x17 ⟨rfl, hb⟩; have B17 := Lib.hid (B16.out.trans (hb.mono B16.out.size)); clear B16 Na_16 Nup_16 hb))
  go_ret
  exact ⟨rfl, B17.out⟩

set_option maxRecDepth 100000 in
set_option maxHeartbeats 8000000 in
theorem order_gt_z (w : World) (A0 : Option Addr) (len0 cap0 : Nat) (A1 : Option Addr) (len1 cap1 : Nat) (A2 : Option Addr) (len2 cap2 : Nat) (a : Int) (b : Int) (c : Int) (ba : Bd a 500) (bb : Bd b 500) (bc : Bd c 500) (hab : b < a) (hc0 : c = 0)
    (H0 : Hid (∀ W, Below w.heap.size w W → Calls Tryd.prog 14 #[.slice A0 len0 cap0, .int .i64 500] W (PostNum a W))) (H1 : Hid (∀ W, Below w.heap.size w W → Calls Tryd.prog 14 #[.slice A1 len1 cap1, .int .i64 500] W (PostNum b W))) (H2 : Hid (∀ W, Below w.heap.size w W → Calls Tryd.prog 14 #[.slice A2 len2 cap2, .int .i64 500] W (PostNum c W))) :
    Calls Tryd.prog 6 #[.slice A0 len0 cap0, .slice A1 len1 cap1, .slice A2 len2 cap2] w fun e w' => e = .returned (.bool true) ∧ Below w.heap.size w w' := by
  have O1 := Lib.hid (fun W => of_any 1 W (by omega) (by omega))
  have AW := Lib.hid (awake_any w)
  have C1 := Lib.hid (show Lib.compareInt a b = 1 from cmpI_gt (hab))
  have C2 := Lib.hid (show Lib.compareInt b a = -1 from cmpI_lt (hab))
  have F1 := Lib.hid (show a + c < Na.Bp 1024 from (ba.add bc).fit (by omega))
  have F2 := Lib.hid (show b + c < Na.Bp 1024 from (bb.add bc).fit (by omega))
  have G1 := Lib.hid (show a * c < Na.Bp 1024 from (ba.mul bc).fit (by omega))
  have G2 := Lib.hid (show b * c < Na.Bp 1024 from (bb.mul bc).fit (by omega))
  have C3 := Lib.hid (show Lib.compareInt (a + c) (b + c) = 1 from cmpI_gt (by omega))
  have F3 := Lib.hid (show a + 1 < Na.Bp 1024 from (ba.add (show Bd 1 500 from ⟨by omega, Int.lt_of_lt_of_le (show (1 : Int) < Na.Bp 1 by decide) (Na.Bp_le (by omega))⟩)).fit (by omega))
  have E3 := Lib.hid (show a < a + 1 from by omega)
  have E1 := Lib.hid (show a ≠ b from by omega)
  have E2 := Lib.hid (show b ≤ a from by omega)
  have C4 := Lib.hid (show Lib.compareInt (a * c) (b * c) = 0 from by rw [hc0]; simp only [Int.mul_zero]; exact cmpI_eq 0)
  have HC0 := Lib.hid (show c = 0 from hc0)
  clear ba bb bc hab hc0
  go_enter Tryd.func6, Tryd.ntmps6
  go_wp2_with (first
    | (go_at_call 12; (with_reducible refine (AW.out).mono ?_); rintro e x1 ⟨rfl, hb⟩; have B1 := Lib.hid hb; clear hb)
    | (go_at_call 14; (with_reducible refine (H0.out x1 B1.out).mono ?_); rintro e x2 ⟨Aa, ca, la, rfl, h, hb⟩; have B2 := Lib.hid (B1.out.trans (hb.mono B1.out.size)); have Na_2 := Lib.hid h; clear B1 h hb)
    | (go_at_call 14; (with_reducible refine (H1.out x2 B2.out).mono ?_); rintro e x3 ⟨Ab, cb, lb, rfl, h, hb⟩; have B3 := Lib.hid (B2.out.trans (hb.mono B2.out.size)); have Na_3 := Lib.hid (Na_2.out.below hb); have Nb_3 := Lib.hid h; clear B2 Na_2 h hb)
    | (go_at_call 14; (with_reducible refine (H2.out x3 B3.out).mono ?_); rintro e x4 ⟨Ac, cc, lc, rfl, h, hb⟩; have B4 := Lib.hid (B3.out.trans (hb.mono B3.out.size)); have Na_4 := Lib.hid (Na_3.out.below hb); have Nb_4 := Lib.hid (Nb_3.out.below hb); have Nc_4 := Lib.hid h; have hl0 := h.z0 HC0.out; have hl1 := h.z1 HC0.out; clear B3 Na_3 Nb_3 h hb)
    | (go_at_call 23; (with_reducible refine (cmp_at_val Aa Ab ca cb la lb (a) (b) _ x4 Na_4.out Nb_4.out C1.out).mono ?_); rintro e x5 ⟨rfl, hb⟩; have B5 := Lib.hid (B4.out.trans (hb.mono B4.out.size)); have Na_5 := Lib.hid (Na_4.out.below hb); have Nb_5 := Lib.hid (Nb_4.out.below hb); have Nc_5 := Lib.hid (Nc_4.out.below hb); clear B4 Na_4 Nb_4 Nc_4 hb)
    | (go_at_call 23; (with_reducible refine (cmp_at_val Ab Aa cb ca lb la (b) (a) _ x5 Nb_5.out Na_5.out C2.out).mono ?_); rintro e x6 ⟨rfl, hb⟩; have B6 := Lib.hid (B5.out.trans (hb.mono B5.out.size)); have Na_6 := Lib.hid (Na_5.out.below hb); have Nb_6 := Lib.hid (Nb_5.out.below hb); have Nc_6 := Lib.hid (Nc_5.out.below hb); clear B5 Na_5 Nb_5 Nc_5 hb)
    | (go_at_call 20; (with_reducible refine (sameF Aa Ab ca cb la lb (a) (b) x6 Na_6.out Nb_6.out E1.out).mono ?_); rintro e x7 ⟨rfl, hb⟩; have B7 := Lib.hid (B6.out.trans (hb.mono B6.out.size)); have Na_7 := Lib.hid (Na_6.out.below hb); have Nb_7 := Lib.hid (Nb_6.out.below hb); have Nc_7 := Lib.hid (Nc_6.out.below hb); clear B6 Na_6 Nb_6 Nc_6 hb)
    | (go_at_call 21; (with_reducible refine (sub_yes Aa Ab ca cb la lb (a) (b) x7 Na_7.out Nb_7.out E2.out).mono ?_); rintro e x8 ⟨Ad, cd, ld, rfl, h, hb⟩; have B8 := Lib.hid (B7.out.trans (hb.mono B7.out.size)); have Na_8 := Lib.hid (Na_7.out.below hb); have Nb_8 := Lib.hid (Nb_7.out.below hb); have Nc_8 := Lib.hid (Nc_7.out.below hb); have Nd_8 := Lib.hid h; clear B7 Na_7 Nb_7 Nc_7 h hb)
    | (go_at_call 17; (with_reducible refine (add_fit Aa Ac ca cc la lc (a) (c) x8 Na_8.out Nc_8.out F1.out).mono ?_); rintro e x9 ⟨As, cs, ls, rfl, h, hb⟩; have B9 := Lib.hid (B8.out.trans (hb.mono B8.out.size)); have Na_9 := Lib.hid (Na_8.out.below hb); have Nb_9 := Lib.hid (Nb_8.out.below hb); have Nc_9 := Lib.hid (Nc_8.out.below hb); have Ns_9 := Lib.hid h; clear B8 Na_8 Nb_8 Nc_8 Nd_8 h hb)
    | (go_at_call 17; (with_reducible refine (add_fit Ab Ac cb cc lb lc (b) (c) x9 Nb_9.out Nc_9.out F2.out).mono ?_); rintro e x10 ⟨At, ct, lt, rfl, h, hb⟩; have B10 := Lib.hid (B9.out.trans (hb.mono B9.out.size)); have Na_10 := Lib.hid (Na_9.out.below hb); have Nb_10 := Lib.hid (Nb_9.out.below hb); have Nc_10 := Lib.hid (Nc_9.out.below hb); have Ns_10 := Lib.hid (Ns_9.out.below hb); have Nt_10 := Lib.hid h; clear B9 Na_9 Nb_9 Nc_9 Ns_9 h hb)
    | (go_at_call 16; (with_reducible refine (mul_fit Aa Ac ca cc la lc (a) (c) x10 Na_10.out Nc_10.out G1.out).mono ?_); rintro e x11 ⟨Ap, cp, lp, rfl, h, hb⟩; have B11 := Lib.hid (B10.out.trans (hb.mono B10.out.size)); have Na_11 := Lib.hid (Na_10.out.below hb); have Nb_11 := Lib.hid (Nb_10.out.below hb); have Nc_11 := Lib.hid (Nc_10.out.below hb); have Ns_11 := Lib.hid (Ns_10.out.below hb); have Nt_11 := Lib.hid (Nt_10.out.below hb); have Np_11 := Lib.hid h; clear B10 Na_10 Nb_10 Nc_10 Ns_10 Nt_10 h hb)
    | (go_at_call 16; (with_reducible refine (mul_fit Ab Ac cb cc lb lc (b) (c) x11 Nb_11.out Nc_11.out G2.out).mono ?_); rintro e x12 ⟨Aq, cq, lq, rfl, h, hb⟩; have B12 := Lib.hid (B11.out.trans (hb.mono B11.out.size)); have Na_12 := Lib.hid (Na_11.out.below hb); have Ns_12 := Lib.hid (Ns_11.out.below hb); have Nt_12 := Lib.hid (Nt_11.out.below hb); have Np_12 := Lib.hid (Np_11.out.below hb); have Nq_12 := Lib.hid h; clear B11 Na_11 Nb_11 Nc_11 Ns_11 Nt_11 Np_11 h hb)
    | (go_at_call 23; (with_reducible refine (cmp_at_val As At cs ct ls lt (a + c) (b + c) _ x12 Ns_12.out Nt_12.out C3.out).mono ?_); rintro e x13 ⟨rfl, hb⟩; have B13 := Lib.hid (B12.out.trans (hb.mono B12.out.size)); have Na_13 := Lib.hid (Na_12.out.below hb); have Np_13 := Lib.hid (Np_12.out.below hb); have Nq_13 := Lib.hid (Nq_12.out.below hb); clear B12 Na_12 Ns_12 Nt_12 Np_12 Nq_12 hb)
    | (go_at_call 23; (with_reducible refine (cmp_at_val Ap Aq cp cq lp lq (a * c) (b * c) _ x13 Np_13.out Nq_13.out C4.out).mono ?_); rintro e x14 ⟨rfl, hb⟩; have B14 := Lib.hid (B13.out.trans (hb.mono B13.out.size)); have Na_14 := Lib.hid (Na_13.out.below hb); clear B13 Na_13 Np_13 Nq_13 hb)
    | (go_at_call 22; (with_reducible refine (O1.out x14).mono ?_); rintro e x15 ⟨Ao, co, lo, rfl, h, hb⟩; have B15 := Lib.hid (B14.out.trans (hb.mono B14.out.size)); have Na_15 := Lib.hid (Na_14.out.below hb); have No_15 := Lib.hid h; clear B14 Na_14 h hb)
    | (go_at_call 17; (with_reducible refine (add_fit Aa Ao ca co la lo (a) (1) x15 Na_15.out No_15.out F3.out).mono ?_); rintro e x16 ⟨Aup, cup, lup, rfl, h, hb⟩; have B16 := Lib.hid (B15.out.trans (hb.mono B15.out.size)); have Na_16 := Lib.hid (Na_15.out.below hb); have Nup_16 := Lib.hid h; clear B15 Na_15 No_15 h hb)
    | (go_at_call 19; (with_reducible refine (lessT Aa Aup ca cup la lup (a) (a + 1) x16 Na_16.out Nup_16.out E3.out).mono ?_); rintro e x17 ⟨rfl, hb⟩; have B17 := Lib.hid (B16.out.trans (hb.mono B16.out.size)); clear B16 Na_16 Nup_16 hb))
  go_ret
  exact ⟨rfl, B17.out⟩

set_option maxRecDepth 100000 in
set_option maxHeartbeats 8000000 in
theorem order_gt_p (w : World) (A0 : Option Addr) (len0 cap0 : Nat) (A1 : Option Addr) (len1 cap1 : Nat) (A2 : Option Addr) (len2 cap2 : Nat) (a : Int) (b : Int) (c : Int) (ba : Bd a 500) (bb : Bd b 500) (bc : Bd c 500) (hab : b < a) (hc0 : c ≠ 0)
    (H0 : Hid (∀ W, Below w.heap.size w W → Calls Tryd.prog 14 #[.slice A0 len0 cap0, .int .i64 500] W (PostNum a W))) (H1 : Hid (∀ W, Below w.heap.size w W → Calls Tryd.prog 14 #[.slice A1 len1 cap1, .int .i64 500] W (PostNum b W))) (H2 : Hid (∀ W, Below w.heap.size w W → Calls Tryd.prog 14 #[.slice A2 len2 cap2, .int .i64 500] W (PostNum c W))) :
    Calls Tryd.prog 6 #[.slice A0 len0 cap0, .slice A1 len1 cap1, .slice A2 len2 cap2] w fun e w' => e = .returned (.bool true) ∧ Below w.heap.size w w' := by
  have O1 := Lib.hid (fun W => of_any 1 W (by omega) (by omega))
  have AW := Lib.hid (awake_any w)
  have C1 := Lib.hid (show Lib.compareInt a b = 1 from cmpI_gt (hab))
  have C2 := Lib.hid (show Lib.compareInt b a = -1 from cmpI_lt (hab))
  have F1 := Lib.hid (show a + c < Na.Bp 1024 from (ba.add bc).fit (by omega))
  have F2 := Lib.hid (show b + c < Na.Bp 1024 from (bb.add bc).fit (by omega))
  have G1 := Lib.hid (show a * c < Na.Bp 1024 from (ba.mul bc).fit (by omega))
  have G2 := Lib.hid (show b * c < Na.Bp 1024 from (bb.mul bc).fit (by omega))
  have C3 := Lib.hid (show Lib.compareInt (a + c) (b + c) = 1 from cmpI_gt (by omega))
  have F3 := Lib.hid (show a + 1 < Na.Bp 1024 from (ba.add (show Bd 1 500 from ⟨by omega, Int.lt_of_lt_of_le (show (1 : Int) < Na.Bp 1 by decide) (Na.Bp_le (by omega))⟩)).fit (by omega))
  have E3 := Lib.hid (show a < a + 1 from by omega)
  have E1 := Lib.hid (show a ≠ b from by omega)
  have E2 := Lib.hid (show b ≤ a from by omega)
  have C4 := Lib.hid (show Lib.compareInt (a * c) (b * c) = 1 from cmpI_gt (mul_lt hab (by have := bc.1; omega)))
  have HC0 := Lib.hid (show c ≠ 0 from hc0)
  clear ba bb bc hab hc0
  go_enter Tryd.func6, Tryd.ntmps6
  go_wp2_with (first
    | (go_at_call 12; (with_reducible refine (AW.out).mono ?_); rintro e x1 ⟨rfl, hb⟩; have B1 := Lib.hid hb; clear hb)
    | (go_at_call 14; (with_reducible refine (H0.out x1 B1.out).mono ?_); rintro e x2 ⟨Aa, ca, la, rfl, h, hb⟩; have B2 := Lib.hid (B1.out.trans (hb.mono B1.out.size)); have Na_2 := Lib.hid h; clear B1 h hb)
    | (go_at_call 14; (with_reducible refine (H1.out x2 B2.out).mono ?_); rintro e x3 ⟨Ab, cb, lb, rfl, h, hb⟩; have B3 := Lib.hid (B2.out.trans (hb.mono B2.out.size)); have Na_3 := Lib.hid (Na_2.out.below hb); have Nb_3 := Lib.hid h; clear B2 Na_2 h hb)
    | (go_at_call 14; (with_reducible refine (H2.out x3 B3.out).mono ?_); rintro e x4 ⟨Ac, cc, lc, rfl, h, hb⟩; have B4 := Lib.hid (B3.out.trans (hb.mono B3.out.size)); have Na_4 := Lib.hid (Na_3.out.below hb); have Nb_4 := Lib.hid (Nb_3.out.below hb); have Nc_4 := Lib.hid h; have hl0 := h.p0 HC0.out; have hl1 := h.lp HC0.out; clear B3 Na_3 Nb_3 h hb)
    | (go_at_call 23; (with_reducible refine (cmp_at_val Aa Ab ca cb la lb (a) (b) _ x4 Na_4.out Nb_4.out C1.out).mono ?_); rintro e x5 ⟨rfl, hb⟩; have B5 := Lib.hid (B4.out.trans (hb.mono B4.out.size)); have Na_5 := Lib.hid (Na_4.out.below hb); have Nb_5 := Lib.hid (Nb_4.out.below hb); have Nc_5 := Lib.hid (Nc_4.out.below hb); clear B4 Na_4 Nb_4 Nc_4 hb)
    | (go_at_call 23; (with_reducible refine (cmp_at_val Ab Aa cb ca lb la (b) (a) _ x5 Nb_5.out Na_5.out C2.out).mono ?_); rintro e x6 ⟨rfl, hb⟩; have B6 := Lib.hid (B5.out.trans (hb.mono B5.out.size)); have Na_6 := Lib.hid (Na_5.out.below hb); have Nb_6 := Lib.hid (Nb_5.out.below hb); have Nc_6 := Lib.hid (Nc_5.out.below hb); clear B5 Na_5 Nb_5 Nc_5 hb)
    | (go_at_call 20; (with_reducible refine (sameF Aa Ab ca cb la lb (a) (b) x6 Na_6.out Nb_6.out E1.out).mono ?_); rintro e x7 ⟨rfl, hb⟩; have B7 := Lib.hid (B6.out.trans (hb.mono B6.out.size)); have Na_7 := Lib.hid (Na_6.out.below hb); have Nb_7 := Lib.hid (Nb_6.out.below hb); have Nc_7 := Lib.hid (Nc_6.out.below hb); clear B6 Na_6 Nb_6 Nc_6 hb)
    | (go_at_call 21; (with_reducible refine (sub_yes Aa Ab ca cb la lb (a) (b) x7 Na_7.out Nb_7.out E2.out).mono ?_); rintro e x8 ⟨Ad, cd, ld, rfl, h, hb⟩; have B8 := Lib.hid (B7.out.trans (hb.mono B7.out.size)); have Na_8 := Lib.hid (Na_7.out.below hb); have Nb_8 := Lib.hid (Nb_7.out.below hb); have Nc_8 := Lib.hid (Nc_7.out.below hb); have Nd_8 := Lib.hid h; clear B7 Na_7 Nb_7 Nc_7 h hb)
    | (go_at_call 17; (with_reducible refine (add_fit Aa Ac ca cc la lc (a) (c) x8 Na_8.out Nc_8.out F1.out).mono ?_); rintro e x9 ⟨As, cs, ls, rfl, h, hb⟩; have B9 := Lib.hid (B8.out.trans (hb.mono B8.out.size)); have Na_9 := Lib.hid (Na_8.out.below hb); have Nb_9 := Lib.hid (Nb_8.out.below hb); have Nc_9 := Lib.hid (Nc_8.out.below hb); have Ns_9 := Lib.hid h; clear B8 Na_8 Nb_8 Nc_8 Nd_8 h hb)
    | (go_at_call 17; (with_reducible refine (add_fit Ab Ac cb cc lb lc (b) (c) x9 Nb_9.out Nc_9.out F2.out).mono ?_); rintro e x10 ⟨At, ct, lt, rfl, h, hb⟩; have B10 := Lib.hid (B9.out.trans (hb.mono B9.out.size)); have Na_10 := Lib.hid (Na_9.out.below hb); have Nb_10 := Lib.hid (Nb_9.out.below hb); have Nc_10 := Lib.hid (Nc_9.out.below hb); have Ns_10 := Lib.hid (Ns_9.out.below hb); have Nt_10 := Lib.hid h; clear B9 Na_9 Nb_9 Nc_9 Ns_9 h hb)
    | (go_at_call 16; (with_reducible refine (mul_fit Aa Ac ca cc la lc (a) (c) x10 Na_10.out Nc_10.out G1.out).mono ?_); rintro e x11 ⟨Ap, cp, lp, rfl, h, hb⟩; have B11 := Lib.hid (B10.out.trans (hb.mono B10.out.size)); have Na_11 := Lib.hid (Na_10.out.below hb); have Nb_11 := Lib.hid (Nb_10.out.below hb); have Nc_11 := Lib.hid (Nc_10.out.below hb); have Ns_11 := Lib.hid (Ns_10.out.below hb); have Nt_11 := Lib.hid (Nt_10.out.below hb); have Np_11 := Lib.hid h; clear B10 Na_10 Nb_10 Nc_10 Ns_10 Nt_10 h hb)
    | (go_at_call 16; (with_reducible refine (mul_fit Ab Ac cb cc lb lc (b) (c) x11 Nb_11.out Nc_11.out G2.out).mono ?_); rintro e x12 ⟨Aq, cq, lq, rfl, h, hb⟩; have B12 := Lib.hid (B11.out.trans (hb.mono B11.out.size)); have Na_12 := Lib.hid (Na_11.out.below hb); have Ns_12 := Lib.hid (Ns_11.out.below hb); have Nt_12 := Lib.hid (Nt_11.out.below hb); have Np_12 := Lib.hid (Np_11.out.below hb); have Nq_12 := Lib.hid h; clear B11 Na_11 Nb_11 Nc_11 Ns_11 Nt_11 Np_11 h hb)
    | (go_at_call 23; (with_reducible refine (cmp_at_val As At cs ct ls lt (a + c) (b + c) _ x12 Ns_12.out Nt_12.out C3.out).mono ?_); rintro e x13 ⟨rfl, hb⟩; have B13 := Lib.hid (B12.out.trans (hb.mono B12.out.size)); have Na_13 := Lib.hid (Na_12.out.below hb); have Np_13 := Lib.hid (Np_12.out.below hb); have Nq_13 := Lib.hid (Nq_12.out.below hb); clear B12 Na_12 Ns_12 Nt_12 Np_12 Nq_12 hb)
    | (go_at_call 23; (with_reducible refine (cmp_at_val Ap Aq cp cq lp lq (a * c) (b * c) _ x13 Np_13.out Nq_13.out C4.out).mono ?_); rintro e x14 ⟨rfl, hb⟩; have B14 := Lib.hid (B13.out.trans (hb.mono B13.out.size)); have Na_14 := Lib.hid (Na_13.out.below hb); clear B13 Na_13 Np_13 Nq_13 hb)
    | (go_at_call 22; (with_reducible refine (O1.out x14).mono ?_); rintro e x15 ⟨Ao, co, lo, rfl, h, hb⟩; have B15 := Lib.hid (B14.out.trans (hb.mono B14.out.size)); have Na_15 := Lib.hid (Na_14.out.below hb); have No_15 := Lib.hid h; clear B14 Na_14 h hb)
    | (go_at_call 17; (with_reducible refine (add_fit Aa Ao ca co la lo (a) (1) x15 Na_15.out No_15.out F3.out).mono ?_); rintro e x16 ⟨Aup, cup, lup, rfl, h, hb⟩; have B16 := Lib.hid (B15.out.trans (hb.mono B15.out.size)); have Na_16 := Lib.hid (Na_15.out.below hb); have Nup_16 := Lib.hid h; clear B15 Na_15 No_15 h hb)
    | (go_at_call 19; (with_reducible refine (lessT Aa Aup ca cup la lup (a) (a + 1) x16 Na_16.out Nup_16.out E3.out).mono ?_); rintro e x17 ⟨rfl, hb⟩; have B17 := Lib.hid (B16.out.trans (hb.mono B16.out.size)); clear B16 Na_16 Nup_16 hb))
  go_ret
  exact ⟨rfl, B17.out⟩

theorem walk_natOrder (w : World) (A0 : Option Addr) (len0 cap0 : Nat) (z0 : List Int) (w0 : IsRow .u32 w A0 len0 cap0 z0) (A1 : Option Addr) (len1 cap1 : Nat) (z1 : List Int) (w1 : IsRow .u32 w A1 len1 cap1 z1) (A2 : Option Addr) (len2 cap2 : Nat) (z2 : List Int) (w2 : IsRow .u32 w A2 len2 cap2 z2) (hw : Rdy w) :
    Calls Tryd.prog 6 #[.slice A0 len0 cap0, .slice A1 len1 cap1, .slice A2 len2 cap2] w fun e w' => e = .returned (.bool true) ∧ Below w.heap.size w w' := by
  have ba : Bd (nv z0 len0 500) 500 := nv_bd w0 500
  have bb : Bd (nv z1 len1 500) 500 := nv_bd w1 500
  have bc : Bd (nv z2 len2 500) 500 := nv_bd w2 500
  have H0 := Lib.hid (fun W hB => number_at w0 500 500 rfl (by omega) W hB)
  have H1 := Lib.hid (fun W hB => number_at w1 500 500 rfl (by omega) W hB)
  have H2 := Lib.hid (fun W hB => number_at w2 500 500 rfl (by omega) W hB)
  generalize nv z0 len0 500 = a at *
  generalize nv z1 len1 500 = b at *
  generalize nv z2 len2 500 = c at *
  rcases Int.lt_trichotomy a b with h | h | h <;> by_cases hc : c = 0
  · exact order_lt_z w A0 len0 cap0 A1 len1 cap1 A2 len2 cap2 a b c ba bb bc h hc H0 H1 H2
  · exact order_lt_p w A0 len0 cap0 A1 len1 cap1 A2 len2 cap2 a b c ba bb bc h hc H0 H1 H2
  · subst h; exact order_eq_z w A0 len0 cap0 A1 len1 cap1 A2 len2 cap2 a c ba bc hc H0 H1 H2
  · subst h; exact order_eq_p w A0 len0 cap0 A1 len1 cap1 A2 len2 cap2 a c ba bc hc H0 H1 H2
  · exact order_gt_z w A0 len0 cap0 A1 len1 cap1 A2 len2 cap2 a b c ba bb bc h hc H0 H1 H2
  · exact order_gt_p w A0 len0 cap0 A1 len1 cap1 A2 len2 cap2 a b c ba bb bc h hc H0 H1 H2

end Go.Proofs.YtgcfmkelanhdhaaDoor
