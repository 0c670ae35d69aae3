/-
  The walk of the law NatWords.
-/
import Derived.Test.YtgcfmkelanhdhaaDoorNatLaw2
namespace Go.Proofs.YtgcfmkelanhdhaaDoor
open Go.RowKit
set_option linter.unusedVariables false

theorem u64_bd {a : Int} (h : (Lit.int .u64 a).wf = true) : 0 ≤ a ∧ a ≤ 18446744073709551615 := by
  simp [Lit.wf, IntKind.min, IntKind.max, IntKind.signed, IntKind.bits] at h
  omega
theorem Num.len2 {w : World} {A : Option Addr} {l : List Int} {z : Int} (h : Num w A l z) (hz : z ≤ 18446744073709551615) : l.length ≤ 2 := by
  rw [h.can.len_iff, h.val]
  have : Na.Bp 2 = 18446744073709551616 := by decide
  omega

set_option maxRecDepth 100000 in
set_option maxHeartbeats 8000000 in
theorem words_z (x y : Int) (w : World) (x0 : 0 ≤ x) (x1 : x ≤ 18446744073709551615) (y0 : 0 ≤ y) (y1 : y ≤ 18446744073709551615) (hy : y = 0) :
    Calls Tryd.prog 7 #[.int .u64 x, .int .u64 y] w fun e w' => e = .returned (.bool true) ∧ Below w.heap.size w w' := by
  have hb2 : Na.Bp 2 = 18446744073709551616 := by decide
  have hbl := Na.Bp_le (show 2 ≤ 1024 by omega)
  have hm : x / 4294967296 * (y / 4294967296) ≤ 4294967295 * 4294967295 := Int.mul_le_mul (by omega) (by omega) (by omega) (by omega)
  have hm0 : 0 ≤ x / 4294967296 * (y / 4294967296) := Int.mul_nonneg (by omega) (by omega)
  have O1 := Lib.hid (fun W => of_any x W x0 x1)
  have O2 := Lib.hid (fun W => of_any y W y0 y1)
  have O3 := Lib.hid (fun W => of_any (x / 2) W (by omega) (by omega))
  have O4 := Lib.hid (fun W => of_any (y / 2) W (by omega) (by omega))
  have O5 := Lib.hid (fun W => of_any (x / 4294967296) W (by omega) (by omega))
  have O6 := Lib.hid (fun W => of_any (y / 4294967296) W (by omega) (by omega))
  have AW := Lib.hid (awake_any w)
  have F1 := Lib.hid (show x / 2 + y / 2 < Na.Bp 1024 by omega)
  have G1 := Lib.hid (show x / 4294967296 * (y / 4294967296) < Na.Bp 1024 by omega)
  have U1 := Lib.hid (show x < 18446744073709551616 by omega)
  have U2 := Lib.hid (show x / 2 + y / 2 < 18446744073709551616 by omega)
  have U3 := Lib.hid (show x / 4294967296 * (y / 4294967296) < 18446744073709551616 by omega)
  have X1 := Lib.hid x1
  have f1 : IntKind.u64.wrap (x / 4294967296 * (y / 4294967296)) = x / 4294967296 * (y / 4294967296) := u64_in _ hm0 (by omega)
  obtain ⟨c, hc, hc1, hc2⟩ : ∃ c, Lib.compareInt x y = c ∧ (c < 0 ↔ x < y) ∧ (c = 0 ↔ x = y) := by
    refine ⟨_, rfl, ?_⟩
    rcases Int.lt_trichotomy x y with h | h | h
    · rw [cmpI_lt h]; omega
    · subst h; rw [cmpI_eq]; omega
    · rw [cmpI_gt h]; omega
  have g2 : (!(c == 0) == (x == y)) = false := by
    have : (c == 0) = (x == y) := by rw [Bool.eq_iff_iff, beq_iff_eq, beq_iff_eq]; exact hc2
    rw [this]; cases (x == y) <;> rfl
  have C1 := Lib.hid hc
  clear hc hc2 hm hm0 hbl hb2
  have hyz : (y == 0) = true := by rw [beq_iff_eq]; exact hy
  clear hy
  go_enter Tryd.func7, Tryd.ntmps7
  go_wp2_with (first
    | (go_at_call 12; (with_reducible refine (AW.out).mono ?_); rintro e x1 ⟨rfl, hb⟩; have B1 := Lib.hid hb; clear hb)
    | (go_at_call 22; (with_reducible refine (O1.out x1).mono ?_); rintro e x2 ⟨Aa, ca, la, rfl, h, hb⟩; have B2 := Lib.hid (B1.out.trans (hb.mono B1.out.size)); have Na_2 := Lib.hid h; have hla := h.len2 X1.out; clear B1 h hb)
    | (go_at_call 22; (with_reducible refine (O2.out x2).mono ?_); rintro e x3 ⟨Ab, cb, lb, rfl, h, hb⟩; have B3 := Lib.hid (B2.out.trans (hb.mono B2.out.size)); have Na_3 := Lib.hid (Na_2.out.below hb); have Nb_3 := Lib.hid h; clear B2 Na_2 h hb)
    | (go_at_call 24; (with_reducible refine (uint_num Aa ca la (x) x3 Na_3.out U1.out).mono ?_); rintro e y3 ⟨rfl, rfl⟩)
    | (go_at_call 18; (with_reducible refine (rightN Aa ca la (x) x3 Na_3.out).mono ?_); rintro e y4 ⟨rfl, rfl⟩)
    | (go_at_call 22; (with_reducible refine (O3.out x3).mono ?_); rintro e x4 ⟨As1, cs1, ls1, rfl, h, hb⟩; have B4 := Lib.hid (B3.out.trans (hb.mono B3.out.size)); have Na_4 := Lib.hid (Na_3.out.below hb); have Nb_4 := Lib.hid (Nb_3.out.below hb); have Ns1_4 := Lib.hid h; clear B3 Na_3 Nb_3 h hb)
    | (go_at_call 22; (with_reducible refine (O4.out x4).mono ?_); rintro e x5 ⟨As2, cs2, ls2, rfl, h, hb⟩; have B5 := Lib.hid (B4.out.trans (hb.mono B4.out.size)); have Na_5 := Lib.hid (Na_4.out.below hb); have Nb_5 := Lib.hid (Nb_4.out.below hb); have Ns1_5 := Lib.hid (Ns1_4.out.below hb); have Ns2_5 := Lib.hid h; clear B4 Na_4 Nb_4 Ns1_4 h hb)
    | (go_at_call 17; (with_reducible refine (add_fit As1 As2 cs1 cs2 ls1 ls2 (x / 2) (y / 2) x5 Ns1_5.out Ns2_5.out F1.out).mono ?_); rintro e x6 ⟨As, cs, ls, rfl, h, hb⟩; have B6 := Lib.hid (B5.out.trans (hb.mono B5.out.size)); have Na_6 := Lib.hid (Na_5.out.below hb); have Nb_6 := Lib.hid (Nb_5.out.below hb); have Ns_6 := Lib.hid h; clear B5 Na_5 Nb_5 Ns1_5 Ns2_5 h hb)
    | (go_at_call 22; (with_reducible refine (O5.out x6).mono ?_); rintro e x7 ⟨Ap1, cp1, lp1, rfl, h, hb⟩; have B7 := Lib.hid (B6.out.trans (hb.mono B6.out.size)); have Na_7 := Lib.hid (Na_6.out.below hb); have Nb_7 := Lib.hid (Nb_6.out.below hb); have Ns_7 := Lib.hid (Ns_6.out.below hb); have Np1_7 := Lib.hid h; clear B6 Na_6 Nb_6 Ns_6 h hb)
    | (go_at_call 22; (with_reducible refine (O6.out x7).mono ?_); rintro e x8 ⟨Ap2, cp2, lp2, rfl, h, hb⟩; have B8 := Lib.hid (B7.out.trans (hb.mono B7.out.size)); have Na_8 := Lib.hid (Na_7.out.below hb); have Nb_8 := Lib.hid (Nb_7.out.below hb); have Ns_8 := Lib.hid (Ns_7.out.below hb); have Np1_8 := Lib.hid (Np1_7.out.below hb); have Np2_8 := Lib.hid h; clear B7 Na_7 Nb_7 Ns_7 Np1_7 h hb)
    | (go_at_call 16; (with_reducible refine (mul_fit Ap1 Ap2 cp1 cp2 lp1 lp2 (x / 4294967296) (y / 4294967296) x8 Np1_8.out Np2_8.out G1.out).mono ?_); rintro e x9 ⟨Ap, cp, lp, rfl, h, hb⟩; have B9 := Lib.hid (B8.out.trans (hb.mono B8.out.size)); have Na_9 := Lib.hid (Na_8.out.below hb); have Nb_9 := Lib.hid (Nb_8.out.below hb); have Ns_9 := Lib.hid (Ns_8.out.below hb); have Np_9 := Lib.hid h; clear B8 Na_8 Nb_8 Ns_8 Np1_8 Np2_8 h hb)
    | (go_at_call 24; (with_reducible refine (uint_num As cs ls (x / 2 + y / 2) x9 Ns_9.out U2.out).mono ?_); rintro e y11 ⟨rfl, rfl⟩)
    | (go_at_call 24; (with_reducible refine (uint_num Ap cp lp (x / 4294967296 * (y / 4294967296)) x9 Np_9.out U3.out).mono ?_); rintro e y12 ⟨rfl, rfl⟩)
    | (go_at_call 23; (with_reducible refine (cmp_at_val Aa Ab ca cb la lb (x) (y) _ x9 Na_9.out Nb_9.out C1.out).mono ?_); rintro e x10 ⟨rfl, hb⟩; have B10 := Lib.hid (B9.out.trans (hb.mono B9.out.size)); clear B9 Na_9 Nb_9 Ns_9 Np_9 hb))
  go_ret
  exact ⟨rfl, B10.out⟩

set_option maxRecDepth 100000 in
set_option maxHeartbeats 8000000 in
theorem words_p (x y : Int) (w : World) (x0 : 0 ≤ x) (x1 : x ≤ 18446744073709551615) (y0 : 0 ≤ y) (y1 : y ≤ 18446744073709551615) (hy : 0 < y) :
    Calls Tryd.prog 7 #[.int .u64 x, .int .u64 y] w fun e w' => e = .returned (.bool true) ∧ Below w.heap.size w w' := by
  have hb2 : Na.Bp 2 = 18446744073709551616 := by decide
  have hbl := Na.Bp_le (show 2 ≤ 1024 by omega)
  have hm : x / 4294967296 * (y / 4294967296) ≤ 4294967295 * 4294967295 := Int.mul_le_mul (by omega) (by omega) (by omega) (by omega)
  have hm0 : 0 ≤ x / 4294967296 * (y / 4294967296) := Int.mul_nonneg (by omega) (by omega)
  have O1 := Lib.hid (fun W => of_any x W x0 x1)
  have O2 := Lib.hid (fun W => of_any y W y0 y1)
  have O3 := Lib.hid (fun W => of_any (x / 2) W (by omega) (by omega))
  have O4 := Lib.hid (fun W => of_any (y / 2) W (by omega) (by omega))
  have O5 := Lib.hid (fun W => of_any (x / 4294967296) W (by omega) (by omega))
  have O6 := Lib.hid (fun W => of_any (y / 4294967296) W (by omega) (by omega))
  have AW := Lib.hid (awake_any w)
  have F1 := Lib.hid (show x / 2 + y / 2 < Na.Bp 1024 by omega)
  have G1 := Lib.hid (show x / 4294967296 * (y / 4294967296) < Na.Bp 1024 by omega)
  have U1 := Lib.hid (show x < 18446744073709551616 by omega)
  have U2 := Lib.hid (show x / 2 + y / 2 < 18446744073709551616 by omega)
  have U3 := Lib.hid (show x / 4294967296 * (y / 4294967296) < 18446744073709551616 by omega)
  have X1 := Lib.hid x1
  have f1 : IntKind.u64.wrap (x / 4294967296 * (y / 4294967296)) = x / 4294967296 * (y / 4294967296) := u64_in _ hm0 (by omega)
  obtain ⟨c, hc, hc1, hc2⟩ : ∃ c, Lib.compareInt x y = c ∧ (c < 0 ↔ x < y) ∧ (c = 0 ↔ x = y) := by
    refine ⟨_, rfl, ?_⟩
    rcases Int.lt_trichotomy x y with h | h | h
    · rw [cmpI_lt h]; omega
    · subst h; rw [cmpI_eq]; omega
    · rw [cmpI_gt h]; omega
  have g2 : (!(c == 0) == (x == y)) = false := by
    have : (c == 0) = (x == y) := by rw [Bool.eq_iff_iff, beq_iff_eq, beq_iff_eq]; exact hc2
    rw [this]; cases (x == y) <;> rfl
  have C1 := Lib.hid hc
  have hyz : (y == 0) = false := by rw [beq_eq_false_iff_ne]; omega
  have q0 : 0 ≤ x / y := Int.ediv_nonneg x0 y0
  have q1 : x / y ≤ x := Int.ediv_le_self y x0
  have r0 := Int.emod_nonneg x (show y ≠ 0 by omega)
  have r1 := Int.emod_lt_of_pos x hy
  have U4 := Lib.hid (show x / y < 18446744073709551616 by omega)
  have U5 := Lib.hid (show x % y < 18446744073709551616 by omega)
  have Y0 := Lib.hid hy
  clear hc hc2 hm hm0 hbl hb2
  go_enter Tryd.func7, Tryd.ntmps7
  go_wp2_with (first
    | (go_at_call 12; (with_reducible refine (AW.out).mono ?_); rintro e x1 ⟨rfl, hb⟩; have B1 := Lib.hid hb; clear hb)
    | (go_at_call 22; (with_reducible refine (O1.out x1).mono ?_); rintro e x2 ⟨Aa, ca, la, rfl, h, hb⟩; have B2 := Lib.hid (B1.out.trans (hb.mono B1.out.size)); have Na_2 := Lib.hid h; have hla := h.len2 X1.out; clear B1 h hb)
    | (go_at_call 22; (with_reducible refine (O2.out x2).mono ?_); rintro e x3 ⟨Ab, cb, lb, rfl, h, hb⟩; have B3 := Lib.hid (B2.out.trans (hb.mono B2.out.size)); have Na_3 := Lib.hid (Na_2.out.below hb); have Nb_3 := Lib.hid h; clear B2 Na_2 h hb)
    | (go_at_call 24; (with_reducible refine (uint_num Aa ca la (x) x3 Na_3.out U1.out).mono ?_); rintro e y3 ⟨rfl, rfl⟩)
    | (go_at_call 18; (with_reducible refine (rightN Aa ca la (x) x3 Na_3.out).mono ?_); rintro e y4 ⟨rfl, rfl⟩)
    | (go_at_call 22; (with_reducible refine (O3.out x3).mono ?_); rintro e x4 ⟨As1, cs1, ls1, rfl, h, hb⟩; have B4 := Lib.hid (B3.out.trans (hb.mono B3.out.size)); have Na_4 := Lib.hid (Na_3.out.below hb); have Nb_4 := Lib.hid (Nb_3.out.below hb); have Ns1_4 := Lib.hid h; clear B3 Na_3 Nb_3 h hb)
    | (go_at_call 22; (with_reducible refine (O4.out x4).mono ?_); rintro e x5 ⟨As2, cs2, ls2, rfl, h, hb⟩; have B5 := Lib.hid (B4.out.trans (hb.mono B4.out.size)); have Na_5 := Lib.hid (Na_4.out.below hb); have Nb_5 := Lib.hid (Nb_4.out.below hb); have Ns1_5 := Lib.hid (Ns1_4.out.below hb); have Ns2_5 := Lib.hid h; clear B4 Na_4 Nb_4 Ns1_4 h hb)
    | (go_at_call 17; (with_reducible refine (add_fit As1 As2 cs1 cs2 ls1 ls2 (x / 2) (y / 2) x5 Ns1_5.out Ns2_5.out F1.out).mono ?_); rintro e x6 ⟨As, cs, ls, rfl, h, hb⟩; have B6 := Lib.hid (B5.out.trans (hb.mono B5.out.size)); have Na_6 := Lib.hid (Na_5.out.below hb); have Nb_6 := Lib.hid (Nb_5.out.below hb); have Ns_6 := Lib.hid h; clear B5 Na_5 Nb_5 Ns1_5 Ns2_5 h hb)
    | (go_at_call 22; (with_reducible refine (O5.out x6).mono ?_); rintro e x7 ⟨Ap1, cp1, lp1, rfl, h, hb⟩; have B7 := Lib.hid (B6.out.trans (hb.mono B6.out.size)); have Na_7 := Lib.hid (Na_6.out.below hb); have Nb_7 := Lib.hid (Nb_6.out.below hb); have Ns_7 := Lib.hid (Ns_6.out.below hb); have Np1_7 := Lib.hid h; clear B6 Na_6 Nb_6 Ns_6 h hb)
    | (go_at_call 22; (with_reducible refine (O6.out x7).mono ?_); rintro e x8 ⟨Ap2, cp2, lp2, rfl, h, hb⟩; have B8 := Lib.hid (B7.out.trans (hb.mono B7.out.size)); have Na_8 := Lib.hid (Na_7.out.below hb); have Nb_8 := Lib.hid (Nb_7.out.below hb); have Ns_8 := Lib.hid (Ns_7.out.below hb); have Np1_8 := Lib.hid (Np1_7.out.below hb); have Np2_8 := Lib.hid h; clear B7 Na_7 Nb_7 Ns_7 Np1_7 h hb)
    | (go_at_call 16; (with_reducible refine (mul_fit Ap1 Ap2 cp1 cp2 lp1 lp2 (x / 4294967296) (y / 4294967296) x8 Np1_8.out Np2_8.out G1.out).mono ?_); rintro e x9 ⟨Ap, cp, lp, rfl, h, hb⟩; have B9 := Lib.hid (B8.out.trans (hb.mono B8.out.size)); have Na_9 := Lib.hid (Na_8.out.below hb); have Nb_9 := Lib.hid (Nb_8.out.below hb); have Ns_9 := Lib.hid (Ns_8.out.below hb); have Np_9 := Lib.hid h; clear B8 Na_8 Nb_8 Ns_8 Np1_8 Np2_8 h hb)
    | (go_at_call 24; (with_reducible refine (uint_num As cs ls (x / 2 + y / 2) x9 Ns_9.out U2.out).mono ?_); rintro e y11 ⟨rfl, rfl⟩)
    | (go_at_call 24; (with_reducible refine (uint_num Ap cp lp (x / 4294967296 * (y / 4294967296)) x9 Np_9.out U3.out).mono ?_); rintro e y12 ⟨rfl, rfl⟩)
    | (go_at_call 23; (with_reducible refine (cmp_at_val Aa Ab ca cb la lb (x) (y) _ x9 Na_9.out Nb_9.out C1.out).mono ?_); rintro e x10 ⟨rfl, hb⟩; have B10 := Lib.hid (B9.out.trans (hb.mono B9.out.size)); have Na_10 := Lib.hid (Na_9.out.below hb); have Nb_10 := Lib.hid (Nb_9.out.below hb); clear B9 Na_9 Nb_9 Ns_9 Np_9 hb)
    | (go_at_call 15; (with_reducible refine (divmod_yes Aa Ab ca cb la lb (x) (y) x10 Na_10.out Nb_10.out Y0.out).mono ?_); rintro e x11 ⟨Aq, cq, lq, Ar, cr, lr, rfl, h, h2, hb⟩; have B11 := Lib.hid (B10.out.trans (hb.mono B10.out.size)); have Nq_11 := Lib.hid h; have Nr_11 := Lib.hid h2; clear B10 Na_10 Nb_10 h h2 hb)
    | (go_at_call 24; (with_reducible refine (uint_num Aq cq lq (x / y) x11 Nq_11.out U4.out).mono ?_); rintro e y15 ⟨rfl, rfl⟩)
    | (go_at_call 24; (with_reducible refine (uint_num Ar cr lr (x % y) x11 Nr_11.out U5.out).mono ?_); rintro e y16 ⟨rfl, rfl⟩))
  go_ret
  exact ⟨rfl, B11.out⟩

theorem walk_natWords (a0 : Int) (w0 : (Lit.int .u64 a0).wf = true) (a1 : Int) (w1 : (Lit.int .u64 a1).wf = true) (w : World) (hw : Rdy w) :
    Calls Tryd.prog 7 #[.int .u64 a0, .int .u64 a1] w fun e w' => e = .returned (.bool true) ∧ Below w.heap.size w w' := by
  obtain ⟨x0, x1⟩ := u64_bd w0
  obtain ⟨y0, y1⟩ := u64_bd w1
  by_cases hy : a1 = 0
  · exact words_z a0 a1 w x0 x1 y0 y1 hy
  · exact words_p a0 a1 w x0 x1 y0 y1 (by omega)

end Go.Proofs.YtgcfmkelanhdhaaDoor
