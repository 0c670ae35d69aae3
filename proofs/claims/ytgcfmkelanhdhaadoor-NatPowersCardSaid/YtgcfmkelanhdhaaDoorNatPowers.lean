/-
  The walk of the law NatPowers.
-/
import Derived.Test.YtgcfmkelanhdhaaDoorNatLaw2
namespace Go.Proofs.YtgcfmkelanhdhaaDoor
open Go.RowKit
set_option linter.unusedVariables false

theorem pow_fit' (A : Option Addr) (ca n : Nat) (N : Int) (l : List Int) (x : Int) (m : Nat) (w : World) (hr : Num w A l x) (hN : (n : Int) = N) (hn : n ≤ 100) (hb : Bd x m) (hm : m * n + 1 ≤ 1024) :
    Calls Tryd.prog 27 #[.slice A l.length ca, .int .i64 N] w (PostNumE (pw x n) w) := by
  subst hN
  exact pow_fit A ca n l x _ w hr (by omega) rfl ((hb.pw n).fit hm)
theorem lin {m a b : Nat} (h : a ≤ b) : m * a ≤ m * b := Nat.mul_le_mul_left _ h

set_option maxRecDepth 100000 in
set_option maxHeartbeats 8000000 in
theorem walk_natPowers (w : World) (A0 : Option Addr) (len0 cap0 : Nat) (z0 : List Int) (w0 : IsRow .u32 w A0 len0 cap0 z0) (A1 : Option Addr) (len1 cap1 : Nat) (z1 : List Int) (w1 : IsRow .u32 w A1 len1 cap1 z1) (a2 : Int) (w2 : (Lit.int .u8 a2).wf = true) (a3 : Int) (w3 : (Lit.int .u8 a3).wf = true) (hw : Rdy w) :
    Calls Tryd.prog 9 #[.slice A0 len0 cap0, .slice A1 len1 cap1, .int .u8 a2, .int .u8 a3] w fun e w' => e = .returned (.bool true) ∧ Below w.heap.size w w' := by
  have ba : Bd (nv z0 len0 8) 8 := nv_bd w0 8
  have bb : Bd (nv z1 len1 8) 8 := nv_bd w1 8
  have H0 := Lib.hid (fun W hB => number_at w0 8 8 rfl (by omega) W hB)
  have H1 := Lib.hid (fun W hB => number_at w1 8 8 rfl (by omega) W hB)
  have AW := Lib.hid (awake_any w)
  generalize nv z0 len0 8 = a at *
  generalize nv z1 len1 8 = b at *
  obtain ⟨m0, m1⟩ := u8_bd w2
  obtain ⟨n0, n1⟩ := u8_bd w3
  obtain ⟨I, hI⟩ : ∃ I : Nat, a2 % 21 = (I : Int) := ⟨(a2 % 21).toNat, by omega⟩
  obtain ⟨K, hK⟩ : ∃ K : Nat, a3 % 21 = (K : Int) := ⟨(a3 % 21).toNat, by omega⟩
  have hI2 : I ≤ 20 := by omega
  have hK2 : K ≤ 20 := by omega
  have l1 := lin (m := 8) hI2
  have l2 := lin (m := 8) hK2
  have l3 := lin (m := 8) (show I + K ≤ 40 by omega)
  have l4 := lin (m := 16) hI2
  have bab : Bd (a * b) 16 := ba.mul bb
  have P1 := Lib.hid (fun A c l W (h : Num W A l a) => pow_fit' A c I (I : Int) l a 8 W h rfl (by omega) ba (by omega))
  have P2 := Lib.hid (fun A c l W (h : Num W A l a) => pow_fit' A c K (K : Int) l a 8 W h rfl (by omega) ba (by omega))
  have P3 := Lib.hid (fun A c l W (h : Num W A l a) => pow_fit' A c (I + K) ((I : Int) + (K : Int)) l a 8 W h (by omega) (by omega) ba (by omega))
  have P4 := Lib.hid (fun A c l W (h : Num W A l (a * b)) => pow_fit' A c I (I : Int) l (a * b) 16 W h rfl (by omega) bab (by omega))
  have P5 := Lib.hid (fun A c l W (h : Num W A l b) => pow_fit' A c I (I : Int) l b 8 W h rfl (by omega) bb (by omega))
  have G1 := Lib.hid (show pw a I * pw a K < Na.Bp 1024 from ((ba.pw I).mul (ba.pw K)).fit (by omega))
  have G2 := Lib.hid (show a * b < Na.Bp 1024 from bab.fit (by omega))
  have G3 := Lib.hid (show pw a I * pw b I < Na.Bp 1024 from ((ba.pw I).mul (bb.pw I)).fit (by omega))
  have E1 := Lib.hid (show pw a I * pw a K = pw a (I + K) from (pw_add _ _ _).symm)
  have E2 := Lib.hid (show pw (a * b) I = pw a I * pw b I from pw_mul _ _ _)
  clear ba bb bab w0 w1 w2 w3 hw l1 l2 l3 l4
  go_enter Tryd.func9, Tryd.ntmps9
  go_wp2_with (first
    | (go_at_call 12; (with_reducible refine (AW.out).mono ?_); rintro e x1 ⟨rfl, hb⟩; have B1 := Lib.hid hb; clear hb)
    | (go_at_call 14; (with_reducible refine (H0.out x1 B1.out).mono ?_); rintro e x2 ⟨Aa, ca, la, rfl, h, hb⟩; have B2 := Lib.hid (B1.out.trans (hb.mono B1.out.size)); have Na_2 := Lib.hid h; clear B1 h hb)
    | (go_at_call 14; (with_reducible refine (H1.out x2 B2.out).mono ?_); rintro e x3 ⟨Ab, cb, lb, rfl, h, hb⟩; have B3 := Lib.hid (B2.out.trans (hb.mono B2.out.size)); have Na_3 := Lib.hid (Na_2.out.below hb); have Nb_3 := Lib.hid h; clear B2 Na_2 h hb)
    | (go_at_call 27; (with_reducible refine (P1.out Aa ca la x3 Na_3.out).mono ?_); rintro e x4 ⟨Ap, cp, lp, rfl, h, hb⟩; have B4 := Lib.hid (B3.out.trans (hb.mono B3.out.size)); have Na_4 := Lib.hid (Na_3.out.below hb); have Nb_4 := Lib.hid (Nb_3.out.below hb); have Np_4 := Lib.hid h; clear B3 Na_3 Nb_3 h hb)
    | (go_at_call 27; (with_reducible refine (P2.out Aa ca la x4 Na_4.out).mono ?_); rintro e x5 ⟨Aq, cq, lq, rfl, h, hb⟩; have B5 := Lib.hid (B4.out.trans (hb.mono B4.out.size)); have Na_5 := Lib.hid (Na_4.out.below hb); have Nb_5 := Lib.hid (Nb_4.out.below hb); have Np_5 := Lib.hid (Np_4.out.below hb); have Nq_5 := Lib.hid h; clear B4 Na_4 Nb_4 Np_4 h hb)
    | (go_at_call 16; (with_reducible refine (mul_fit Ap Aq cp cq lp lq (pw a I) (pw a K) x5 Np_5.out Nq_5.out G1.out).mono ?_); rintro e x6 ⟨Aboth, cboth, lboth, rfl, h, hb⟩; have B6 := Lib.hid (B5.out.trans (hb.mono B5.out.size)); have Na_6 := Lib.hid (Na_5.out.below hb); have Nb_6 := Lib.hid (Nb_5.out.below hb); have Np_6 := Lib.hid (Np_5.out.below hb); have Nboth_6 := Lib.hid h; clear B5 Na_5 Nb_5 Np_5 Nq_5 h hb)
    | (go_at_call 27; (with_reducible refine (P3.out Aa ca la x6 Na_6.out).mono ?_); rintro e x7 ⟨Asum, csum, lsum, rfl, h, hb⟩; have B7 := Lib.hid (B6.out.trans (hb.mono B6.out.size)); have Na_7 := Lib.hid (Na_6.out.below hb); have Nb_7 := Lib.hid (Nb_6.out.below hb); have Np_7 := Lib.hid (Np_6.out.below hb); have Nboth_7 := Lib.hid (Nboth_6.out.below hb); have Nsum_7 := Lib.hid h; clear B6 Na_6 Nb_6 Np_6 Nboth_6 h hb)
    | (go_at_call 20; (with_reducible refine (sameT Aboth Asum cboth csum lboth lsum (pw a I * pw a K) (pw a (I + K)) x7 Nboth_7.out Nsum_7.out E1.out).mono ?_); rintro e x8 ⟨rfl, hb⟩; have B8 := Lib.hid (B7.out.trans (hb.mono B7.out.size)); have Na_8 := Lib.hid (Na_7.out.below hb); have Nb_8 := Lib.hid (Nb_7.out.below hb); have Np_8 := Lib.hid (Np_7.out.below hb); clear B7 Na_7 Nb_7 Np_7 Nboth_7 Nsum_7 hb)
    | (go_at_call 16; (with_reducible refine (mul_fit Aa Ab ca cb la lb (a) (b) x8 Na_8.out Nb_8.out G2.out).mono ?_); rintro e x9 ⟨Aab, cab, lab, rfl, h, hb⟩; have B9 := Lib.hid (B8.out.trans (hb.mono B8.out.size)); have Nb_9 := Lib.hid (Nb_8.out.below hb); have Np_9 := Lib.hid (Np_8.out.below hb); have Nab_9 := Lib.hid h; clear B8 Na_8 Nb_8 Np_8 h hb)
    | (go_at_call 27; (with_reducible refine (P4.out Aab cab lab x9 Nab_9.out).mono ?_); rintro e x10 ⟨Ar, cr, lr, rfl, h, hb⟩; have B10 := Lib.hid (B9.out.trans (hb.mono B9.out.size)); have Nb_10 := Lib.hid (Nb_9.out.below hb); have Np_10 := Lib.hid (Np_9.out.below hb); have Nr_10 := Lib.hid h; clear B9 Nb_9 Np_9 Nab_9 h hb)
    | (go_at_call 27; (with_reducible refine (P5.out Ab cb lb x10 Nb_10.out).mono ?_); rintro e x11 ⟨As, cs, ls, rfl, h, hb⟩; have B11 := Lib.hid (B10.out.trans (hb.mono B10.out.size)); have Np_11 := Lib.hid (Np_10.out.below hb); have Nr_11 := Lib.hid (Nr_10.out.below hb); have Ns_11 := Lib.hid h; clear B10 Nb_10 Np_10 Nr_10 h hb)
    | (go_at_call 16; (with_reducible refine (mul_fit Ap As cp cs lp ls (pw a I) (pw b I) x11 Np_11.out Ns_11.out G3.out).mono ?_); rintro e x12 ⟨At, ct, lt, rfl, h, hb⟩; have B12 := Lib.hid (B11.out.trans (hb.mono B11.out.size)); have Nr_12 := Lib.hid (Nr_11.out.below hb); have Nt_12 := Lib.hid h; clear B11 Np_11 Nr_11 Ns_11 h hb)
    | (go_at_call 20; (with_reducible refine (sameT Ar At cr ct lr lt (pw (a * b) I) (pw a I * pw b I) x12 Nr_12.out Nt_12.out E2.out).mono ?_); rintro e x13 ⟨rfl, hb⟩; have B13 := Lib.hid (B12.out.trans (hb.mono B12.out.size)); clear B12 Nr_12 Nt_12 hb))
  go_ret
  exact ⟨rfl, B13.out⟩

end Go.Proofs.YtgcfmkelanhdhaaDoor
