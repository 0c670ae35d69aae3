/-
  The walk of the law NatReads.
-/
import Derived.Test.YtgcfmkelanhdhaaDoorNatLaw2
namespace Go.Proofs.YtgcfmkelanhdhaaDoor
open Go.RowKit
set_option linter.unusedVariables false

theorem lessG (A B : Option Addr) (ca cb : Nat) (l m : List Int) (x y : Int) (w : World) (hr : Num w A l x) (hs : Num w B m y) (h : y ≤ x) :
    Calls Tryd.prog 19 #[.slice A l.length ca, .slice B m.length cb] w fun e w' => e = .returned (.bool false) ∧ Below w.heap.size w w' := lessF A B ca cb l m x y w hr hs (by omega)
theorem Num.z3 {w : World} {A : Option Addr} {l : List Int} {z : Int} (h : Num w A l z) (hz : z = 0) : ¬ 0 < l.length := by rw [h.l0 hz]; omega
theorem dec_top {n : Nat} (h : (n : Int) < Na.Bp 200) : (Lib.decDigits n).length ≤ 2000 := by
  have h1 : Na.Bp 200 < ((10 ^ 2000 : Nat) : Int) := by decide +kernel
  exact Na.dec_len_pow (by omega) (by omega)
theorem txt_size (l : List UInt8) : (ByteArray.mk l.toArray).size = l.length := by show Array.size _ = _; simp
theorem read_dec (n : Nat) (W : World) (h : (n : Int) < Na.Bp 200) : Calls Tryd.prog 26 #[.string ⟨(Lib.decDigits n).toArray⟩] W (PostNumE n W) := by
  have h1 := dec_top h
  refine (read_yes ⟨(Lib.decDigits n).toArray⟩ W (by rw [txt_size]; omega) (Na.isT_dec n)).mono ?_
  have e : Na.dn (ByteArray.mk (Lib.decDigits n).toArray).data.toList = n := Na.dec_dn n
  rw [e]
  have := Na.Bp_le (show 200 ≤ 1024 by omega)
  rintro e w' (⟨-, k⟩ | ⟨k, -⟩)
  · exact k
  · exact absurd (show (n : Int) < Na.Bp 1024 by omega) k

set_option maxRecDepth 100000 in
set_option maxHeartbeats 8000000 in
theorem reads_z_eq_t (w : World) (A0 : Option Addr) (len0 cap0 : Nat) (A1 : Option Addr) (len1 cap1 : Nat) (a b : Int) (S T U : ByteArray) (g1 : a * 10 < Na.Bp 1024) (ha0 : a = 0) (hl : a < b) (hsS : S.size ≤ 2000) (hU : (U.toList == [48]) = true)
    (f1 : ((S.size : Int) != (T.size : Int)) = false) (f2 : Op.bytesLess S.toList T.toList = true)
    (T1 : Hid (∀ A c l W, Num W A l a → Calls Tryd.prog 25 #[.slice A l.length c] W fun e w' => e = .returned (.tuple #[.string S, .int .i64 0]) ∧ Below W.heap.size W w'))
    (T2 : Hid (∀ A c l W, Num W A l b → Calls Tryd.prog 25 #[.slice A l.length c] W fun e w' => e = .returned (.tuple #[.string T, .int .i64 0]) ∧ Below W.heap.size W w'))
    (T3 : Hid (∀ A c l W, Num W A l (a * 10) → Calls Tryd.prog 25 #[.slice A l.length c] W fun e w' => e = .returned (.tuple #[.string U, .int .i64 0]) ∧ Below W.heap.size W w'))
    (R1 : Hid (∀ W, Calls Tryd.prog 26 #[.string S] W (PostNumE a W)))
    (H0 : Hid (∀ W, Below w.heap.size w W → Calls Tryd.prog 14 #[.slice A0 len0 cap0, .int .i64 200] W (PostNum a W))) (H1 : Hid (∀ W, Below w.heap.size w W → Calls Tryd.prog 14 #[.slice A1 len1 cap1, .int .i64 200] W (PostNum b W))) :
    Calls Tryd.prog 8 #[.slice A0 len0 cap0, .slice A1 len1 cap1] w fun e w' => e = .returned (.bool true) ∧ Below w.heap.size w w' := by
  have O1 := Lib.hid (fun W => of_any 10 W (by omega) (by omega))
  have AW := Lib.hid (awake_any w)
  have G1 := Lib.hid g1; have HA0 := Lib.hid ha0; have L1 := Lib.hid hl
  clear g1 ha0 hl
  go_enter Tryd.func8, Tryd.ntmps8
  go_wp2_with (first
    | (go_at_call 12; (with_reducible refine (AW.out).mono ?_); rintro e x1 ⟨rfl, hb⟩; have B1 := Lib.hid hb; clear hb)
    | (go_at_call 14; (with_reducible refine (H0.out x1 B1.out).mono ?_); rintro e x2 ⟨Aa, ca, la, rfl, h, hb⟩; have B2 := Lib.hid (B1.out.trans (hb.mono B1.out.size)); have Na_2 := Lib.hid h; have hl0 := h.z0 HA0.out; have hl1 := h.z3 HA0.out; clear B1 h hb)
    | (go_at_call 14; (with_reducible refine (H1.out x2 B2.out).mono ?_); rintro e x3 ⟨Ab, cb, lb, rfl, h, hb⟩; have B3 := Lib.hid (B2.out.trans (hb.mono B2.out.size)); have Na_3 := Lib.hid (Na_2.out.below hb); have Nb_3 := Lib.hid h; clear B2 Na_2 h hb)
    | (go_at_call 25; (with_reducible refine (T1.out Aa ca la x3 Na_3.out).mono ?_); rintro e x4 ⟨rfl, hb⟩; have B4 := Lib.hid (B3.out.trans (hb.mono B3.out.size)); have Na_4 := Lib.hid (Na_3.out.below hb); have Nb_4 := Lib.hid (Nb_3.out.below hb); clear B3 Na_3 Nb_3 hb)
    | (go_at_call 25; (with_reducible refine (T2.out Ab cb lb x4 Nb_4.out).mono ?_); rintro e x5 ⟨rfl, hb⟩; have B5 := Lib.hid (B4.out.trans (hb.mono B4.out.size)); have Na_5 := Lib.hid (Na_4.out.below hb); have Nb_5 := Lib.hid (Nb_4.out.below hb); clear B4 Na_4 Nb_4 hb)
    | (go_at_call 26; (with_reducible refine (R1.out x5).mono ?_); rintro e x6 ⟨Aback, cback, lback, rfl, h, hb⟩; have B6 := Lib.hid (B5.out.trans (hb.mono B5.out.size)); have Na_6 := Lib.hid (Na_5.out.below hb); have Nb_6 := Lib.hid (Nb_5.out.below hb); have Nback_6 := Lib.hid h; clear B5 Na_5 Nb_5 h hb)
    | (go_at_call 22; (with_reducible refine (O1.out x6).mono ?_); rintro e x7 ⟨Ao, co, lo, rfl, h, hb⟩; have B7 := Lib.hid (B6.out.trans (hb.mono B6.out.size)); have Na_7 := Lib.hid (Na_6.out.below hb); have Nb_7 := Lib.hid (Nb_6.out.below hb); have Nback_7 := Lib.hid (Nback_6.out.below hb); have No_7 := Lib.hid h; clear B6 Na_6 Nb_6 Nback_6 h hb)
    | (go_at_call 16; (with_reducible refine (mul_fit Aa Ao ca co la lo (a) (10) x7 Na_7.out No_7.out G1.out).mono ?_); rintro e x8 ⟨Aten, cten, lten, rfl, h, hb⟩; have B8 := Lib.hid (B7.out.trans (hb.mono B7.out.size)); have Na_8 := Lib.hid (Na_7.out.below hb); have Nb_8 := Lib.hid (Nb_7.out.below hb); have Nback_8 := Lib.hid (Nback_7.out.below hb); have Nten_8 := Lib.hid h; clear B7 Na_7 Nb_7 Nback_7 No_7 h hb)
    | (go_at_call 25; (with_reducible refine (T3.out Aten cten lten x8 Nten_8.out).mono ?_); rintro e x9 ⟨rfl, hb⟩; have B9 := Lib.hid (B8.out.trans (hb.mono B8.out.size)); have Na_9 := Lib.hid (Na_8.out.below hb); have Nb_9 := Lib.hid (Nb_8.out.below hb); have Nback_9 := Lib.hid (Nback_8.out.below hb); clear B8 Na_8 Nb_8 Nback_8 Nten_8 hb)
    | (go_at_call 20; (with_reducible refine (sameT Aback Aa cback ca lback la (a) (a) x9 Nback_9.out Na_9.out (rfl)).mono ?_); rintro e x10 ⟨rfl, hb⟩; have B10 := Lib.hid (B9.out.trans (hb.mono B9.out.size)); have Na_10 := Lib.hid (Na_9.out.below hb); have Nb_10 := Lib.hid (Nb_9.out.below hb); clear B9 Na_9 Nb_9 Nback_9 hb)
    | (go_at_call 19; (with_reducible refine (lessT Aa Ab ca cb la lb (a) (b) x10 Na_10.out Nb_10.out L1.out).mono ?_); rintro e x11 ⟨rfl, hb⟩; have B11 := Lib.hid (B10.out.trans (hb.mono B10.out.size)); clear B10 Na_10 Nb_10 hb))
  go_ret
  exact ⟨rfl, B11.out⟩

set_option maxRecDepth 100000 in
set_option maxHeartbeats 8000000 in
theorem reads_z_eq_f (w : World) (A0 : Option Addr) (len0 cap0 : Nat) (A1 : Option Addr) (len1 cap1 : Nat) (a b : Int) (S T U : ByteArray) (g1 : a * 10 < Na.Bp 1024) (ha0 : a = 0) (hl : b ≤ a) (hsS : S.size ≤ 2000) (hU : (U.toList == [48]) = true)
    (f1 : ((S.size : Int) != (T.size : Int)) = false) (f2 : Op.bytesLess S.toList T.toList = false)
    (T1 : Hid (∀ A c l W, Num W A l a → Calls Tryd.prog 25 #[.slice A l.length c] W fun e w' => e = .returned (.tuple #[.string S, .int .i64 0]) ∧ Below W.heap.size W w'))
    (T2 : Hid (∀ A c l W, Num W A l b → Calls Tryd.prog 25 #[.slice A l.length c] W fun e w' => e = .returned (.tuple #[.string T, .int .i64 0]) ∧ Below W.heap.size W w'))
    (T3 : Hid (∀ A c l W, Num W A l (a * 10) → Calls Tryd.prog 25 #[.slice A l.length c] W fun e w' => e = .returned (.tuple #[.string U, .int .i64 0]) ∧ Below W.heap.size W w'))
    (R1 : Hid (∀ W, Calls Tryd.prog 26 #[.string S] W (PostNumE a W)))
    (H0 : Hid (∀ W, Below w.heap.size w W → Calls Tryd.prog 14 #[.slice A0 len0 cap0, .int .i64 200] W (PostNum a W))) (H1 : Hid (∀ W, Below w.heap.size w W → Calls Tryd.prog 14 #[.slice A1 len1 cap1, .int .i64 200] W (PostNum b W))) :
    Calls Tryd.prog 8 #[.slice A0 len0 cap0, .slice A1 len1 cap1] w fun e w' => e = .returned (.bool true) ∧ Below w.heap.size w w' := by
  have O1 := Lib.hid (fun W => of_any 10 W (by omega) (by omega))
  have AW := Lib.hid (awake_any w)
  have G1 := Lib.hid g1; have HA0 := Lib.hid ha0; have L1 := Lib.hid hl
  clear g1 ha0 hl
  go_enter Tryd.func8, Tryd.ntmps8
  go_wp2_with (first
    | (go_at_call 12; (with_reducible refine (AW.out).mono ?_); rintro e x1 ⟨rfl, hb⟩; have B1 := Lib.hid hb; clear hb)
    | (go_at_call 14; (with_reducible refine (H0.out x1 B1.out).mono ?_); rintro e x2 ⟨Aa, ca, la, rfl, h, hb⟩; have B2 := Lib.hid (B1.out.trans (hb.mono B1.out.size)); have Na_2 := Lib.hid h; have hl0 := h.z0 HA0.out; have hl1 := h.z3 HA0.out; clear B1 h hb)
    | (go_at_call 14; (with_reducible refine (H1.out x2 B2.out).mono ?_); rintro e x3 ⟨Ab, cb, lb, rfl, h, hb⟩; have B3 := Lib.hid (B2.out.trans (hb.mono B2.out.size)); have Na_3 := Lib.hid (Na_2.out.below hb); have Nb_3 := Lib.hid h; clear B2 Na_2 h hb)
    | (go_at_call 25; (with_reducible refine (T1.out Aa ca la x3 Na_3.out).mono ?_); rintro e x4 ⟨rfl, hb⟩; have B4 := Lib.hid (B3.out.trans (hb.mono B3.out.size)); have Na_4 := Lib.hid (Na_3.out.below hb); have Nb_4 := Lib.hid (Nb_3.out.below hb); clear B3 Na_3 Nb_3 hb)
    | (go_at_call 25; (with_reducible refine (T2.out Ab cb lb x4 Nb_4.out).mono ?_); rintro e x5 ⟨rfl, hb⟩; have B5 := Lib.hid (B4.out.trans (hb.mono B4.out.size)); have Na_5 := Lib.hid (Na_4.out.below hb); have Nb_5 := Lib.hid (Nb_4.out.below hb); clear B4 Na_4 Nb_4 hb)
    | (go_at_call 26; (with_reducible refine (R1.out x5).mono ?_); rintro e x6 ⟨Aback, cback, lback, rfl, h, hb⟩; have B6 := Lib.hid (B5.out.trans (hb.mono B5.out.size)); have Na_6 := Lib.hid (Na_5.out.below hb); have Nb_6 := Lib.hid (Nb_5.out.below hb); have Nback_6 := Lib.hid h; clear B5 Na_5 Nb_5 h hb)
    | (go_at_call 22; (with_reducible refine (O1.out x6).mono ?_); rintro e x7 ⟨Ao, co, lo, rfl, h, hb⟩; have B7 := Lib.hid (B6.out.trans (hb.mono B6.out.size)); have Na_7 := Lib.hid (Na_6.out.below hb); have Nb_7 := Lib.hid (Nb_6.out.below hb); have Nback_7 := Lib.hid (Nback_6.out.below hb); have No_7 := Lib.hid h; clear B6 Na_6 Nb_6 Nback_6 h hb)
    | (go_at_call 16; (with_reducible refine (mul_fit Aa Ao ca co la lo (a) (10) x7 Na_7.out No_7.out G1.out).mono ?_); rintro e x8 ⟨Aten, cten, lten, rfl, h, hb⟩; have B8 := Lib.hid (B7.out.trans (hb.mono B7.out.size)); have Na_8 := Lib.hid (Na_7.out.below hb); have Nb_8 := Lib.hid (Nb_7.out.below hb); have Nback_8 := Lib.hid (Nback_7.out.below hb); have Nten_8 := Lib.hid h; clear B7 Na_7 Nb_7 Nback_7 No_7 h hb)
    | (go_at_call 25; (with_reducible refine (T3.out Aten cten lten x8 Nten_8.out).mono ?_); rintro e x9 ⟨rfl, hb⟩; have B9 := Lib.hid (B8.out.trans (hb.mono B8.out.size)); have Na_9 := Lib.hid (Na_8.out.below hb); have Nb_9 := Lib.hid (Nb_8.out.below hb); have Nback_9 := Lib.hid (Nback_8.out.below hb); clear B8 Na_8 Nb_8 Nback_8 Nten_8 hb)
    | (go_at_call 20; (with_reducible refine (sameT Aback Aa cback ca lback la (a) (a) x9 Nback_9.out Na_9.out (rfl)).mono ?_); rintro e x10 ⟨rfl, hb⟩; have B10 := Lib.hid (B9.out.trans (hb.mono B9.out.size)); have Na_10 := Lib.hid (Na_9.out.below hb); have Nb_10 := Lib.hid (Nb_9.out.below hb); clear B9 Na_9 Nb_9 Nback_9 hb)
    | (go_at_call 19; (with_reducible refine (lessG Aa Ab ca cb la lb (a) (b) x10 Na_10.out Nb_10.out L1.out).mono ?_); rintro e x11 ⟨rfl, hb⟩; have B11 := Lib.hid (B10.out.trans (hb.mono B10.out.size)); clear B10 Na_10 Nb_10 hb))
  go_ret
  exact ⟨rfl, B11.out⟩

set_option maxRecDepth 100000 in
set_option maxHeartbeats 8000000 in
theorem reads_z_ne_t (w : World) (A0 : Option Addr) (len0 cap0 : Nat) (A1 : Option Addr) (len1 cap1 : Nat) (a b : Int) (S T U : ByteArray) (g1 : a * 10 < Na.Bp 1024) (ha0 : a = 0) (hl : a < b) (hsS : S.size ≤ 2000) (hU : (U.toList == [48]) = true)
    (f1 : ((S.size : Int) != (T.size : Int)) = true) (f2 : decide (S.size < T.size) = true)
    (T1 : Hid (∀ A c l W, Num W A l a → Calls Tryd.prog 25 #[.slice A l.length c] W fun e w' => e = .returned (.tuple #[.string S, .int .i64 0]) ∧ Below W.heap.size W w'))
    (T2 : Hid (∀ A c l W, Num W A l b → Calls Tryd.prog 25 #[.slice A l.length c] W fun e w' => e = .returned (.tuple #[.string T, .int .i64 0]) ∧ Below W.heap.size W w'))
    (T3 : Hid (∀ A c l W, Num W A l (a * 10) → Calls Tryd.prog 25 #[.slice A l.length c] W fun e w' => e = .returned (.tuple #[.string U, .int .i64 0]) ∧ Below W.heap.size W w'))
    (R1 : Hid (∀ W, Calls Tryd.prog 26 #[.string S] W (PostNumE a W)))
    (H0 : Hid (∀ W, Below w.heap.size w W → Calls Tryd.prog 14 #[.slice A0 len0 cap0, .int .i64 200] W (PostNum a W))) (H1 : Hid (∀ W, Below w.heap.size w W → Calls Tryd.prog 14 #[.slice A1 len1 cap1, .int .i64 200] W (PostNum b W))) :
    Calls Tryd.prog 8 #[.slice A0 len0 cap0, .slice A1 len1 cap1] w fun e w' => e = .returned (.bool true) ∧ Below w.heap.size w w' := by
  have O1 := Lib.hid (fun W => of_any 10 W (by omega) (by omega))
  have AW := Lib.hid (awake_any w)
  have G1 := Lib.hid g1; have HA0 := Lib.hid ha0; have L1 := Lib.hid hl
  clear g1 ha0 hl
  go_enter Tryd.func8, Tryd.ntmps8
  go_wp2_with (first
    | (go_at_call 12; (with_reducible refine (AW.out).mono ?_); rintro e x1 ⟨rfl, hb⟩; have B1 := Lib.hid hb; clear hb)
    | (go_at_call 14; (with_reducible refine (H0.out x1 B1.out).mono ?_); rintro e x2 ⟨Aa, ca, la, rfl, h, hb⟩; have B2 := Lib.hid (B1.out.trans (hb.mono B1.out.size)); have Na_2 := Lib.hid h; have hl0 := h.z0 HA0.out; have hl1 := h.z3 HA0.out; clear B1 h hb)
    | (go_at_call 14; (with_reducible refine (H1.out x2 B2.out).mono ?_); rintro e x3 ⟨Ab, cb, lb, rfl, h, hb⟩; have B3 := Lib.hid (B2.out.trans (hb.mono B2.out.size)); have Na_3 := Lib.hid (Na_2.out.below hb); have Nb_3 := Lib.hid h; clear B2 Na_2 h hb)
    | (go_at_call 25; (with_reducible refine (T1.out Aa ca la x3 Na_3.out).mono ?_); rintro e x4 ⟨rfl, hb⟩; have B4 := Lib.hid (B3.out.trans (hb.mono B3.out.size)); have Na_4 := Lib.hid (Na_3.out.below hb); have Nb_4 := Lib.hid (Nb_3.out.below hb); clear B3 Na_3 Nb_3 hb)
    | (go_at_call 25; (with_reducible refine (T2.out Ab cb lb x4 Nb_4.out).mono ?_); rintro e x5 ⟨rfl, hb⟩; have B5 := Lib.hid (B4.out.trans (hb.mono B4.out.size)); have Na_5 := Lib.hid (Na_4.out.below hb); have Nb_5 := Lib.hid (Nb_4.out.below hb); clear B4 Na_4 Nb_4 hb)
    | (go_at_call 26; (with_reducible refine (R1.out x5).mono ?_); rintro e x6 ⟨Aback, cback, lback, rfl, h, hb⟩; have B6 := Lib.hid (B5.out.trans (hb.mono B5.out.size)); have Na_6 := Lib.hid (Na_5.out.below hb); have Nb_6 := Lib.hid (Nb_5.out.below hb); have Nback_6 := Lib.hid h; clear B5 Na_5 Nb_5 h hb)
    | (go_at_call 22; (with_reducible refine (O1.out x6).mono ?_); rintro e x7 ⟨Ao, co, lo, rfl, h, hb⟩; have B7 := Lib.hid (B6.out.trans (hb.mono B6.out.size)); have Na_7 := Lib.hid (Na_6.out.below hb); have Nb_7 := Lib.hid (Nb_6.out.below hb); have Nback_7 := Lib.hid (Nback_6.out.below hb); have No_7 := Lib.hid h; clear B6 Na_6 Nb_6 Nback_6 h hb)
    | (go_at_call 16; (with_reducible refine (mul_fit Aa Ao ca co la lo (a) (10) x7 Na_7.out No_7.out G1.out).mono ?_); rintro e x8 ⟨Aten, cten, lten, rfl, h, hb⟩; have B8 := Lib.hid (B7.out.trans (hb.mono B7.out.size)); have Na_8 := Lib.hid (Na_7.out.below hb); have Nb_8 := Lib.hid (Nb_7.out.below hb); have Nback_8 := Lib.hid (Nback_7.out.below hb); have Nten_8 := Lib.hid h; clear B7 Na_7 Nb_7 Nback_7 No_7 h hb)
    | (go_at_call 25; (with_reducible refine (T3.out Aten cten lten x8 Nten_8.out).mono ?_); rintro e x9 ⟨rfl, hb⟩; have B9 := Lib.hid (B8.out.trans (hb.mono B8.out.size)); have Na_9 := Lib.hid (Na_8.out.below hb); have Nb_9 := Lib.hid (Nb_8.out.below hb); have Nback_9 := Lib.hid (Nback_8.out.below hb); clear B8 Na_8 Nb_8 Nback_8 Nten_8 hb)
    | (go_at_call 20; (with_reducible refine (sameT Aback Aa cback ca lback la (a) (a) x9 Nback_9.out Na_9.out (rfl)).mono ?_); rintro e x10 ⟨rfl, hb⟩; have B10 := Lib.hid (B9.out.trans (hb.mono B9.out.size)); have Na_10 := Lib.hid (Na_9.out.below hb); have Nb_10 := Lib.hid (Nb_9.out.below hb); clear B9 Na_9 Nb_9 Nback_9 hb)
    | (go_at_call 19; (with_reducible refine (lessT Aa Ab ca cb la lb (a) (b) x10 Na_10.out Nb_10.out L1.out).mono ?_); rintro e x11 ⟨rfl, hb⟩; have B11 := Lib.hid (B10.out.trans (hb.mono B10.out.size)); clear B10 Na_10 Nb_10 hb))
  go_ret
  exact ⟨rfl, B11.out⟩

set_option maxRecDepth 100000 in
set_option maxHeartbeats 8000000 in
theorem reads_z_ne_f (w : World) (A0 : Option Addr) (len0 cap0 : Nat) (A1 : Option Addr) (len1 cap1 : Nat) (a b : Int) (S T U : ByteArray) (g1 : a * 10 < Na.Bp 1024) (ha0 : a = 0) (hl : b ≤ a) (hsS : S.size ≤ 2000) (hU : (U.toList == [48]) = true)
    (f1 : ((S.size : Int) != (T.size : Int)) = true) (f2 : decide (S.size < T.size) = false)
    (T1 : Hid (∀ A c l W, Num W A l a → Calls Tryd.prog 25 #[.slice A l.length c] W fun e w' => e = .returned (.tuple #[.string S, .int .i64 0]) ∧ Below W.heap.size W w'))
    (T2 : Hid (∀ A c l W, Num W A l b → Calls Tryd.prog 25 #[.slice A l.length c] W fun e w' => e = .returned (.tuple #[.string T, .int .i64 0]) ∧ Below W.heap.size W w'))
    (T3 : Hid (∀ A c l W, Num W A l (a * 10) → Calls Tryd.prog 25 #[.slice A l.length c] W fun e w' => e = .returned (.tuple #[.string U, .int .i64 0]) ∧ Below W.heap.size W w'))
    (R1 : Hid (∀ W, Calls Tryd.prog 26 #[.string S] W (PostNumE a W)))
    (H0 : Hid (∀ W, Below w.heap.size w W → Calls Tryd.prog 14 #[.slice A0 len0 cap0, .int .i64 200] W (PostNum a W))) (H1 : Hid (∀ W, Below w.heap.size w W → Calls Tryd.prog 14 #[.slice A1 len1 cap1, .int .i64 200] W (PostNum b W))) :
    Calls Tryd.prog 8 #[.slice A0 len0 cap0, .slice A1 len1 cap1] w fun e w' => e = .returned (.bool true) ∧ Below w.heap.size w w' := by
  have O1 := Lib.hid (fun W => of_any 10 W (by omega) (by omega))
  have AW := Lib.hid (awake_any w)
  have G1 := Lib.hid g1; have HA0 := Lib.hid ha0; have L1 := Lib.hid hl
  clear g1 ha0 hl
  go_enter Tryd.func8, Tryd.ntmps8
  go_wp2_with (first
    | (go_at_call 12; (with_reducible refine (AW.out).mono ?_); rintro e x1 ⟨rfl, hb⟩; have B1 := Lib.hid hb; clear hb)
    | (go_at_call 14; (with_reducible refine (H0.out x1 B1.out).mono ?_); rintro e x2 ⟨Aa, ca, la, rfl, h, hb⟩; have B2 := Lib.hid (B1.out.trans (hb.mono B1.out.size)); have Na_2 := Lib.hid h; have hl0 := h.z0 HA0.out; have hl1 := h.z3 HA0.out; clear B1 h hb)
    | (go_at_call 14; (with_reducible refine (H1.out x2 B2.out).mono ?_); rintro e x3 ⟨Ab, cb, lb, rfl, h, hb⟩; have B3 := Lib.hid (B2.out.trans (hb.mono B2.out.size)); have Na_3 := Lib.hid (Na_2.out.below hb); have Nb_3 := Lib.hid h; clear B2 Na_2 h hb)
    | (go_at_call 25; (with_reducible refine (T1.out Aa ca la x3 Na_3.out).mono ?_); rintro e x4 ⟨rfl, hb⟩; have B4 := Lib.hid (B3.out.trans (hb.mono B3.out.size)); have Na_4 := Lib.hid (Na_3.out.below hb); have Nb_4 := Lib.hid (Nb_3.out.below hb); clear B3 Na_3 Nb_3 hb)
    | (go_at_call 25; (with_reducible refine (T2.out Ab cb lb x4 Nb_4.out).mono ?_); rintro e x5 ⟨rfl, hb⟩; have B5 := Lib.hid (B4.out.trans (hb.mono B4.out.size)); have Na_5 := Lib.hid (Na_4.out.below hb); have Nb_5 := Lib.hid (Nb_4.out.below hb); clear B4 Na_4 Nb_4 hb)
    | (go_at_call 26; (with_reducible refine (R1.out x5).mono ?_); rintro e x6 ⟨Aback, cback, lback, rfl, h, hb⟩; have B6 := Lib.hid (B5.out.trans (hb.mono B5.out.size)); have Na_6 := Lib.hid (Na_5.out.below hb); have Nb_6 := Lib.hid (Nb_5.out.below hb); have Nback_6 := Lib.hid h; clear B5 Na_5 Nb_5 h hb)
    | (go_at_call 22; (with_reducible refine (O1.out x6).mono ?_); rintro e x7 ⟨Ao, co, lo, rfl, h, hb⟩; have B7 := Lib.hid (B6.out.trans (hb.mono B6.out.size)); have Na_7 := Lib.hid (Na_6.out.below hb); have Nb_7 := Lib.hid (Nb_6.out.below hb); have Nback_7 := Lib.hid (Nback_6.out.below hb); have No_7 := Lib.hid h; clear B6 Na_6 Nb_6 Nback_6 h hb)
    | (go_at_call 16; (with_reducible refine (mul_fit Aa Ao ca co la lo (a) (10) x7 Na_7.out No_7.out G1.out).mono ?_); rintro e x8 ⟨Aten, cten, lten, rfl, h, hb⟩; have B8 := Lib.hid (B7.out.trans (hb.mono B7.out.size)); have Na_8 := Lib.hid (Na_7.out.below hb); have Nb_8 := Lib.hid (Nb_7.out.below hb); have Nback_8 := Lib.hid (Nback_7.out.below hb); have Nten_8 := Lib.hid h; clear B7 Na_7 Nb_7 Nback_7 No_7 h hb)
    | (go_at_call 25; (with_reducible refine (T3.out Aten cten lten x8 Nten_8.out).mono ?_); rintro e x9 ⟨rfl, hb⟩; have B9 := Lib.hid (B8.out.trans (hb.mono B8.out.size)); have Na_9 := Lib.hid (Na_8.out.below hb); have Nb_9 := Lib.hid (Nb_8.out.below hb); have Nback_9 := Lib.hid (Nback_8.out.below hb); clear B8 Na_8 Nb_8 Nback_8 Nten_8 hb)
    | (go_at_call 20; (with_reducible refine (sameT Aback Aa cback ca lback la (a) (a) x9 Nback_9.out Na_9.out (rfl)).mono ?_); rintro e x10 ⟨rfl, hb⟩; have B10 := Lib.hid (B9.out.trans (hb.mono B9.out.size)); have Na_10 := Lib.hid (Na_9.out.below hb); have Nb_10 := Lib.hid (Nb_9.out.below hb); clear B9 Na_9 Nb_9 Nback_9 hb)
    | (go_at_call 19; (with_reducible refine (lessG Aa Ab ca cb la lb (a) (b) x10 Na_10.out Nb_10.out L1.out).mono ?_); rintro e x11 ⟨rfl, hb⟩; have B11 := Lib.hid (B10.out.trans (hb.mono B10.out.size)); clear B10 Na_10 Nb_10 hb))
  go_ret
  exact ⟨rfl, B11.out⟩

set_option maxRecDepth 100000 in
set_option maxHeartbeats 8000000 in
theorem reads_p_eq_t (w : World) (A0 : Option Addr) (len0 cap0 : Nat) (A1 : Option Addr) (len1 cap1 : Nat) (a b : Int) (S T U : ByteArray) (g1 : a * 10 < Na.Bp 1024) (ha0 : a ≠ 0) (hl : a < b) (hsS : S.size ≤ 2000) (hU : U = S ++ ⟨#[48]⟩)
    (f1 : ((S.size : Int) != (T.size : Int)) = false) (f2 : Op.bytesLess S.toList T.toList = true)
    (T1 : Hid (∀ A c l W, Num W A l a → Calls Tryd.prog 25 #[.slice A l.length c] W fun e w' => e = .returned (.tuple #[.string S, .int .i64 0]) ∧ Below W.heap.size W w'))
    (T2 : Hid (∀ A c l W, Num W A l b → Calls Tryd.prog 25 #[.slice A l.length c] W fun e w' => e = .returned (.tuple #[.string T, .int .i64 0]) ∧ Below W.heap.size W w'))
    (T3 : Hid (∀ A c l W, Num W A l (a * 10) → Calls Tryd.prog 25 #[.slice A l.length c] W fun e w' => e = .returned (.tuple #[.string U, .int .i64 0]) ∧ Below W.heap.size W w'))
    (R1 : Hid (∀ W, Calls Tryd.prog 26 #[.string S] W (PostNumE a W)))
    (H0 : Hid (∀ W, Below w.heap.size w W → Calls Tryd.prog 14 #[.slice A0 len0 cap0, .int .i64 200] W (PostNum a W))) (H1 : Hid (∀ W, Below w.heap.size w W → Calls Tryd.prog 14 #[.slice A1 len1 cap1, .int .i64 200] W (PostNum b W))) :
    Calls Tryd.prog 8 #[.slice A0 len0 cap0, .slice A1 len1 cap1] w fun e w' => e = .returned (.bool true) ∧ Below w.heap.size w w' := by
  have O1 := Lib.hid (fun W => of_any 10 W (by omega) (by omega))
  have AW := Lib.hid (awake_any w)
  have G1 := Lib.hid g1; have HA0 := Lib.hid ha0; have L1 := Lib.hid hl
  clear g1 ha0 hl
  subst hU
  go_enter Tryd.func8, Tryd.ntmps8
  go_wp2_with (first
    | (go_at_call 12; (with_reducible refine (AW.out).mono ?_); rintro e x1 ⟨rfl, hb⟩; have B1 := Lib.hid hb; clear hb)
    | (go_at_call 14; (with_reducible refine (H0.out x1 B1.out).mono ?_); rintro e x2 ⟨Aa, ca, la, rfl, h, hb⟩; have B2 := Lib.hid (B1.out.trans (hb.mono B1.out.size)); have Na_2 := Lib.hid h; have hl0 := h.p0 HA0.out; have hl1 := h.lp HA0.out; clear B1 h hb)
    | (go_at_call 14; (with_reducible refine (H1.out x2 B2.out).mono ?_); rintro e x3 ⟨Ab, cb, lb, rfl, h, hb⟩; have B3 := Lib.hid (B2.out.trans (hb.mono B2.out.size)); have Na_3 := Lib.hid (Na_2.out.below hb); have Nb_3 := Lib.hid h; clear B2 Na_2 h hb)
    | (go_at_call 25; (with_reducible refine (T1.out Aa ca la x3 Na_3.out).mono ?_); rintro e x4 ⟨rfl, hb⟩; have B4 := Lib.hid (B3.out.trans (hb.mono B3.out.size)); have Na_4 := Lib.hid (Na_3.out.below hb); have Nb_4 := Lib.hid (Nb_3.out.below hb); clear B3 Na_3 Nb_3 hb)
    | (go_at_call 25; (with_reducible refine (T2.out Ab cb lb x4 Nb_4.out).mono ?_); rintro e x5 ⟨rfl, hb⟩; have B5 := Lib.hid (B4.out.trans (hb.mono B4.out.size)); have Na_5 := Lib.hid (Na_4.out.below hb); have Nb_5 := Lib.hid (Nb_4.out.below hb); clear B4 Na_4 Nb_4 hb)
    | (go_at_call 26; (with_reducible refine (R1.out x5).mono ?_); rintro e x6 ⟨Aback, cback, lback, rfl, h, hb⟩; have B6 := Lib.hid (B5.out.trans (hb.mono B5.out.size)); have Na_6 := Lib.hid (Na_5.out.below hb); have Nb_6 := Lib.hid (Nb_5.out.below hb); have Nback_6 := Lib.hid h; clear B5 Na_5 Nb_5 h hb)
    | (go_at_call 22; (with_reducible refine (O1.out x6).mono ?_); rintro e x7 ⟨Ao, co, lo, rfl, h, hb⟩; have B7 := Lib.hid (B6.out.trans (hb.mono B6.out.size)); have Na_7 := Lib.hid (Na_6.out.below hb); have Nb_7 := Lib.hid (Nb_6.out.below hb); have Nback_7 := Lib.hid (Nback_6.out.below hb); have No_7 := Lib.hid h; clear B6 Na_6 Nb_6 Nback_6 h hb)
    | (go_at_call 16; (with_reducible refine (mul_fit Aa Ao ca co la lo (a) (10) x7 Na_7.out No_7.out G1.out).mono ?_); rintro e x8 ⟨Aten, cten, lten, rfl, h, hb⟩; have B8 := Lib.hid (B7.out.trans (hb.mono B7.out.size)); have Na_8 := Lib.hid (Na_7.out.below hb); have Nb_8 := Lib.hid (Nb_7.out.below hb); have Nback_8 := Lib.hid (Nback_7.out.below hb); have Nten_8 := Lib.hid h; clear B7 Na_7 Nb_7 Nback_7 No_7 h hb)
    | (go_at_call 25; (with_reducible refine (T3.out Aten cten lten x8 Nten_8.out).mono ?_); rintro e x9 ⟨rfl, hb⟩; have B9 := Lib.hid (B8.out.trans (hb.mono B8.out.size)); have Na_9 := Lib.hid (Na_8.out.below hb); have Nb_9 := Lib.hid (Nb_8.out.below hb); have Nback_9 := Lib.hid (Nback_8.out.below hb); clear B8 Na_8 Nb_8 Nback_8 Nten_8 hb)
    | (go_at_call 20; (with_reducible refine (sameT Aback Aa cback ca lback la (a) (a) x9 Nback_9.out Na_9.out (rfl)).mono ?_); rintro e x10 ⟨rfl, hb⟩; have B10 := Lib.hid (B9.out.trans (hb.mono B9.out.size)); have Na_10 := Lib.hid (Na_9.out.below hb); have Nb_10 := Lib.hid (Nb_9.out.below hb); clear B9 Na_9 Nb_9 Nback_9 hb)
    | (go_at_call 19; (with_reducible refine (lessT Aa Ab ca cb la lb (a) (b) x10 Na_10.out Nb_10.out L1.out).mono ?_); rintro e x11 ⟨rfl, hb⟩; have B11 := Lib.hid (B10.out.trans (hb.mono B10.out.size)); clear B10 Na_10 Nb_10 hb))
  go_ret
  exact ⟨rfl, B11.out⟩

set_option maxRecDepth 100000 in
set_option maxHeartbeats 8000000 in
theorem reads_p_eq_f (w : World) (A0 : Option Addr) (len0 cap0 : Nat) (A1 : Option Addr) (len1 cap1 : Nat) (a b : Int) (S T U : ByteArray) (g1 : a * 10 < Na.Bp 1024) (ha0 : a ≠ 0) (hl : b ≤ a) (hsS : S.size ≤ 2000) (hU : U = S ++ ⟨#[48]⟩)
    (f1 : ((S.size : Int) != (T.size : Int)) = false) (f2 : Op.bytesLess S.toList T.toList = false)
    (T1 : Hid (∀ A c l W, Num W A l a → Calls Tryd.prog 25 #[.slice A l.length c] W fun e w' => e = .returned (.tuple #[.string S, .int .i64 0]) ∧ Below W.heap.size W w'))
    (T2 : Hid (∀ A c l W, Num W A l b → Calls Tryd.prog 25 #[.slice A l.length c] W fun e w' => e = .returned (.tuple #[.string T, .int .i64 0]) ∧ Below W.heap.size W w'))
    (T3 : Hid (∀ A c l W, Num W A l (a * 10) → Calls Tryd.prog 25 #[.slice A l.length c] W fun e w' => e = .returned (.tuple #[.string U, .int .i64 0]) ∧ Below W.heap.size W w'))
    (R1 : Hid (∀ W, Calls Tryd.prog 26 #[.string S] W (PostNumE a W)))
    (H0 : Hid (∀ W, Below w.heap.size w W → Calls Tryd.prog 14 #[.slice A0 len0 cap0, .int .i64 200] W (PostNum a W))) (H1 : Hid (∀ W, Below w.heap.size w W → Calls Tryd.prog 14 #[.slice A1 len1 cap1, .int .i64 200] W (PostNum b W))) :
    Calls Tryd.prog 8 #[.slice A0 len0 cap0, .slice A1 len1 cap1] w fun e w' => e = .returned (.bool true) ∧ Below w.heap.size w w' := by
  have O1 := Lib.hid (fun W => of_any 10 W (by omega) (by omega))
  have AW := Lib.hid (awake_any w)
  have G1 := Lib.hid g1; have HA0 := Lib.hid ha0; have L1 := Lib.hid hl
  clear g1 ha0 hl
  subst hU
  go_enter Tryd.func8, Tryd.ntmps8
  go_wp2_with (first
    | (go_at_call 12; (with_reducible refine (AW.out).mono ?_); rintro e x1 ⟨rfl, hb⟩; have B1 := Lib.hid hb; clear hb)
    | (go_at_call 14; (with_reducible refine (H0.out x1 B1.out).mono ?_); rintro e x2 ⟨Aa, ca, la, rfl, h, hb⟩; have B2 := Lib.hid (B1.out.trans (hb.mono B1.out.size)); have Na_2 := Lib.hid h; have hl0 := h.p0 HA0.out; have hl1 := h.lp HA0.out; clear B1 h hb)
    | (go_at_call 14; (with_reducible refine (H1.out x2 B2.out).mono ?_); rintro e x3 ⟨Ab, cb, lb, rfl, h, hb⟩; have B3 := Lib.hid (B2.out.trans (hb.mono B2.out.size)); have Na_3 := Lib.hid (Na_2.out.below hb); have Nb_3 := Lib.hid h; clear B2 Na_2 h hb)
    | (go_at_call 25; (with_reducible refine (T1.out Aa ca la x3 Na_3.out).mono ?_); rintro e x4 ⟨rfl, hb⟩; have B4 := Lib.hid (B3.out.trans (hb.mono B3.out.size)); have Na_4 := Lib.hid (Na_3.out.below hb); have Nb_4 := Lib.hid (Nb_3.out.below hb); clear B3 Na_3 Nb_3 hb)
    | (go_at_call 25; (with_reducible refine (T2.out Ab cb lb x4 Nb_4.out).mono ?_); rintro e x5 ⟨rfl, hb⟩; have B5 := Lib.hid (B4.out.trans (hb.mono B4.out.size)); have Na_5 := Lib.hid (Na_4.out.below hb); have Nb_5 := Lib.hid (Nb_4.out.below hb); clear B4 Na_4 Nb_4 hb)
    | (go_at_call 26; (with_reducible refine (R1.out x5).mono ?_); rintro e x6 ⟨Aback, cback, lback, rfl, h, hb⟩; have B6 := Lib.hid (B5.out.trans (hb.mono B5.out.size)); have Na_6 := Lib.hid (Na_5.out.below hb); have Nb_6 := Lib.hid (Nb_5.out.below hb); have Nback_6 := Lib.hid h; clear B5 Na_5 Nb_5 h hb)
    | (go_at_call 22; (with_reducible refine (O1.out x6).mono ?_); rintro e x7 ⟨Ao, co, lo, rfl, h, hb⟩; have B7 := Lib.hid (B6.out.trans (hb.mono B6.out.size)); have Na_7 := Lib.hid (Na_6.out.below hb); have Nb_7 := Lib.hid (Nb_6.out.below hb); have Nback_7 := Lib.hid (Nback_6.out.below hb); have No_7 := Lib.hid h; clear B6 Na_6 Nb_6 Nback_6 h hb)
    | (go_at_call 16; (with_reducible refine (mul_fit Aa Ao ca co la lo (a) (10) x7 Na_7.out No_7.out G1.out).mono ?_); rintro e x8 ⟨Aten, cten, lten, rfl, h, hb⟩; have B8 := Lib.hid (B7.out.trans (hb.mono B7.out.size)); have Na_8 := Lib.hid (Na_7.out.below hb); have Nb_8 := Lib.hid (Nb_7.out.below hb); have Nback_8 := Lib.hid (Nback_7.out.below hb); have Nten_8 := Lib.hid h; clear B7 Na_7 Nb_7 Nback_7 No_7 h hb)
    | (go_at_call 25; (with_reducible refine (T3.out Aten cten lten x8 Nten_8.out).mono ?_); rintro e x9 ⟨rfl, hb⟩; have B9 := Lib.hid (B8.out.trans (hb.mono B8.out.size)); have Na_9 := Lib.hid (Na_8.out.below hb); have Nb_9 := Lib.hid (Nb_8.out.below hb); have Nback_9 := Lib.hid (Nback_8.out.below hb); clear B8 Na_8 Nb_8 Nback_8 Nten_8 hb)
    | (go_at_call 20; (with_reducible refine (sameT Aback Aa cback ca lback la (a) (a) x9 Nback_9.out Na_9.out (rfl)).mono ?_); rintro e x10 ⟨rfl, hb⟩; have B10 := Lib.hid (B9.out.trans (hb.mono B9.out.size)); have Na_10 := Lib.hid (Na_9.out.below hb); have Nb_10 := Lib.hid (Nb_9.out.below hb); clear B9 Na_9 Nb_9 Nback_9 hb)
    | (go_at_call 19; (with_reducible refine (lessG Aa Ab ca cb la lb (a) (b) x10 Na_10.out Nb_10.out L1.out).mono ?_); rintro e x11 ⟨rfl, hb⟩; have B11 := Lib.hid (B10.out.trans (hb.mono B10.out.size)); clear B10 Na_10 Nb_10 hb))
  go_ret
  exact ⟨rfl, B11.out⟩

set_option maxRecDepth 100000 in
set_option maxHeartbeats 8000000 in
theorem reads_p_ne_t (w : World) (A0 : Option Addr) (len0 cap0 : Nat) (A1 : Option Addr) (len1 cap1 : Nat) (a b : Int) (S T U : ByteArray) (g1 : a * 10 < Na.Bp 1024) (ha0 : a ≠ 0) (hl : a < b) (hsS : S.size ≤ 2000) (hU : U = S ++ ⟨#[48]⟩)
    (f1 : ((S.size : Int) != (T.size : Int)) = true) (f2 : decide (S.size < T.size) = true)
    (T1 : Hid (∀ A c l W, Num W A l a → Calls Tryd.prog 25 #[.slice A l.length c] W fun e w' => e = .returned (.tuple #[.string S, .int .i64 0]) ∧ Below W.heap.size W w'))
    (T2 : Hid (∀ A c l W, Num W A l b → Calls Tryd.prog 25 #[.slice A l.length c] W fun e w' => e = .returned (.tuple #[.string T, .int .i64 0]) ∧ Below W.heap.size W w'))
    (T3 : Hid (∀ A c l W, Num W A l (a * 10) → Calls Tryd.prog 25 #[.slice A l.length c] W fun e w' => e = .returned (.tuple #[.string U, .int .i64 0]) ∧ Below W.heap.size W w'))
    (R1 : Hid (∀ W, Calls Tryd.prog 26 #[.string S] W (PostNumE a W)))
    (H0 : Hid (∀ W, Below w.heap.size w W → Calls Tryd.prog 14 #[.slice A0 len0 cap0, .int .i64 200] W (PostNum a W))) (H1 : Hid (∀ W, Below w.heap.size w W → Calls Tryd.prog 14 #[.slice A1 len1 cap1, .int .i64 200] W (PostNum b W))) :
    Calls Tryd.prog 8 #[.slice A0 len0 cap0, .slice A1 len1 cap1] w fun e w' => e = .returned (.bool true) ∧ Below w.heap.size w w' := by
  have O1 := Lib.hid (fun W => of_any 10 W (by omega) (by omega))
  have AW := Lib.hid (awake_any w)
  have G1 := Lib.hid g1; have HA0 := Lib.hid ha0; have L1 := Lib.hid hl
  clear g1 ha0 hl
  subst hU
  go_enter Tryd.func8, Tryd.ntmps8
  go_wp2_with (first
    | (go_at_call 12; (with_reducible refine (AW.out).mono ?_); rintro e x1 ⟨rfl, hb⟩; have B1 := Lib.hid hb; clear hb)
    | (go_at_call 14; (with_reducible refine (H0.out x1 B1.out).mono ?_); rintro e x2 ⟨Aa, ca, la, rfl, h, hb⟩; have B2 := Lib.hid (B1.out.trans (hb.mono B1.out.size)); have Na_2 := Lib.hid h; have hl0 := h.p0 HA0.out; have hl1 := h.lp HA0.out; clear B1 h hb)
    | (go_at_call 14; (with_reducible refine (H1.out x2 B2.out).mono ?_); rintro e x3 ⟨Ab, cb, lb, rfl, h, hb⟩; have B3 := Lib.hid (B2.out.trans (hb.mono B2.out.size)); have Na_3 := Lib.hid (Na_2.out.below hb); have Nb_3 := Lib.hid h; clear B2 Na_2 h hb)
    | (go_at_call 25; (with_reducible refine (T1.out Aa ca la x3 Na_3.out).mono ?_); rintro e x4 ⟨rfl, hb⟩; have B4 := Lib.hid (B3.out.trans (hb.mono B3.out.size)); have Na_4 := Lib.hid (Na_3.out.below hb); have Nb_4 := Lib.hid (Nb_3.out.below hb); clear B3 Na_3 Nb_3 hb)
    | (go_at_call 25; (with_reducible refine (T2.out Ab cb lb x4 Nb_4.out).mono ?_); rintro e x5 ⟨rfl, hb⟩; have B5 := Lib.hid (B4.out.trans (hb.mono B4.out.size)); have Na_5 := Lib.hid (Na_4.out.below hb); have Nb_5 := Lib.hid (Nb_4.out.below hb); clear B4 Na_4 Nb_4 hb)
    | (go_at_call 26; (with_reducible refine (R1.out x5).mono ?_); rintro e x6 ⟨Aback, cback, lback, rfl, h, hb⟩; have B6 := Lib.hid (B5.out.trans (hb.mono B5.out.size)); have Na_6 := Lib.hid (Na_5.out.below hb); have Nb_6 := Lib.hid (Nb_5.out.below hb); have Nback_6 := Lib.hid h; clear B5 Na_5 Nb_5 h hb)
    | (go_at_call 22; (with_reducible refine (O1.out x6).mono ?_); rintro e x7 ⟨Ao, co, lo, rfl, h, hb⟩; have B7 := Lib.hid (B6.out.trans (hb.mono B6.out.size)); have Na_7 := Lib.hid (Na_6.out.below hb); have Nb_7 := Lib.hid (Nb_6.out.below hb); have Nback_7 := Lib.hid (Nback_6.out.below hb); have No_7 := Lib.hid h; clear B6 Na_6 Nb_6 Nback_6 h hb)
    | (go_at_call 16; (with_reducible refine (mul_fit Aa Ao ca co la lo (a) (10) x7 Na_7.out No_7.out G1.out).mono ?_); rintro e x8 ⟨Aten, cten, lten, rfl, h, hb⟩; have B8 := Lib.hid (B7.out.trans (hb.mono B7.out.size)); have Na_8 := Lib.hid (Na_7.out.below hb); have Nb_8 := Lib.hid (Nb_7.out.below hb); have Nback_8 := Lib.hid (Nback_7.out.below hb); have Nten_8 := Lib.hid h; clear B7 Na_7 Nb_7 Nback_7 No_7 h hb)
    | (go_at_call 25; (with_reducible refine (T3.out Aten cten lten x8 Nten_8.out).mono ?_); rintro e x9 ⟨rfl, hb⟩; have B9 := Lib.hid (B8.out.trans (hb.mono B8.out.size)); have Na_9 := Lib.hid (Na_8.out.below hb); have Nb_9 := Lib.hid (Nb_8.out.below hb); have Nback_9 := Lib.hid (Nback_8.out.below hb); clear B8 Na_8 Nb_8 Nback_8 Nten_8 hb)
    | (go_at_call 20; (with_reducible refine (sameT Aback Aa cback ca lback la (a) (a) x9 Nback_9.out Na_9.out (rfl)).mono ?_); rintro e x10 ⟨rfl, hb⟩; have B10 := Lib.hid (B9.out.trans (hb.mono B9.out.size)); have Na_10 := Lib.hid (Na_9.out.below hb); have Nb_10 := Lib.hid (Nb_9.out.below hb); clear B9 Na_9 Nb_9 Nback_9 hb)
    | (go_at_call 19; (with_reducible refine (lessT Aa Ab ca cb la lb (a) (b) x10 Na_10.out Nb_10.out L1.out).mono ?_); rintro e x11 ⟨rfl, hb⟩; have B11 := Lib.hid (B10.out.trans (hb.mono B10.out.size)); clear B10 Na_10 Nb_10 hb))
  go_ret
  exact ⟨rfl, B11.out⟩

set_option maxRecDepth 100000 in
set_option maxHeartbeats 8000000 in
theorem reads_p_ne_f (w : World) (A0 : Option Addr) (len0 cap0 : Nat) (A1 : Option Addr) (len1 cap1 : Nat) (a b : Int) (S T U : ByteArray) (g1 : a * 10 < Na.Bp 1024) (ha0 : a ≠ 0) (hl : b ≤ a) (hsS : S.size ≤ 2000) (hU : U = S ++ ⟨#[48]⟩)
    (f1 : ((S.size : Int) != (T.size : Int)) = true) (f2 : decide (S.size < T.size) = false)
    (T1 : Hid (∀ A c l W, Num W A l a → Calls Tryd.prog 25 #[.slice A l.length c] W fun e w' => e = .returned (.tuple #[.string S, .int .i64 0]) ∧ Below W.heap.size W w'))
    (T2 : Hid (∀ A c l W, Num W A l b → Calls Tryd.prog 25 #[.slice A l.length c] W fun e w' => e = .returned (.tuple #[.string T, .int .i64 0]) ∧ Below W.heap.size W w'))
    (T3 : Hid (∀ A c l W, Num W A l (a * 10) → Calls Tryd.prog 25 #[.slice A l.length c] W fun e w' => e = .returned (.tuple #[.string U, .int .i64 0]) ∧ Below W.heap.size W w'))
    (R1 : Hid (∀ W, Calls Tryd.prog 26 #[.string S] W (PostNumE a W)))
    (H0 : Hid (∀ W, Below w.heap.size w W → Calls Tryd.prog 14 #[.slice A0 len0 cap0, .int .i64 200] W (PostNum a W))) (H1 : Hid (∀ W, Below w.heap.size w W → Calls Tryd.prog 14 #[.slice A1 len1 cap1, .int .i64 200] W (PostNum b W))) :
    Calls Tryd.prog 8 #[.slice A0 len0 cap0, .slice A1 len1 cap1] w fun e w' => e = .returned (.bool true) ∧ Below w.heap.size w w' := by
  have O1 := Lib.hid (fun W => of_any 10 W (by omega) (by omega))
  have AW := Lib.hid (awake_any w)
  have G1 := Lib.hid g1; have HA0 := Lib.hid ha0; have L1 := Lib.hid hl
  clear g1 ha0 hl
  subst hU
  go_enter Tryd.func8, Tryd.ntmps8
  go_wp2_with (first
    | (go_at_call 12; (with_reducible refine (AW.out).mono ?_); rintro e x1 ⟨rfl, hb⟩; have B1 := Lib.hid hb; clear hb)
    | (go_at_call 14; (with_reducible refine (H0.out x1 B1.out).mono ?_); rintro e x2 ⟨Aa, ca, la, rfl, h, hb⟩; have B2 := Lib.hid (B1.out.trans (hb.mono B1.out.size)); have Na_2 := Lib.hid h; have hl0 := h.p0 HA0.out; have hl1 := h.lp HA0.out; clear B1 h hb)
    | (go_at_call 14; (with_reducible refine (H1.out x2 B2.out).mono ?_); rintro e x3 ⟨Ab, cb, lb, rfl, h, hb⟩; have B3 := Lib.hid (B2.out.trans (hb.mono B2.out.size)); have Na_3 := Lib.hid (Na_2.out.below hb); have Nb_3 := Lib.hid h; clear B2 Na_2 h hb)
    | (go_at_call 25; (with_reducible refine (T1.out Aa ca la x3 Na_3.out).mono ?_); rintro e x4 ⟨rfl, hb⟩; have B4 := Lib.hid (B3.out.trans (hb.mono B3.out.size)); have Na_4 := Lib.hid (Na_3.out.below hb); have Nb_4 := Lib.hid (Nb_3.out.below hb); clear B3 Na_3 Nb_3 hb)
    | (go_at_call 25; (with_reducible refine (T2.out Ab cb lb x4 Nb_4.out).mono ?_); rintro e x5 ⟨rfl, hb⟩; have B5 := Lib.hid (B4.out.trans (hb.mono B4.out.size)); have Na_5 := Lib.hid (Na_4.out.below hb); have Nb_5 := Lib.hid (Nb_4.out.below hb); clear B4 Na_4 Nb_4 hb)
    | (go_at_call 26; (with_reducible refine (R1.out x5).mono ?_); rintro e x6 ⟨Aback, cback, lback, rfl, h, hb⟩; have B6 := Lib.hid (B5.out.trans (hb.mono B5.out.size)); have Na_6 := Lib.hid (Na_5.out.below hb); have Nb_6 := Lib.hid (Nb_5.out.below hb); have Nback_6 := Lib.hid h; clear B5 Na_5 Nb_5 h hb)
    | (go_at_call 22; (with_reducible refine (O1.out x6).mono ?_); rintro e x7 ⟨Ao, co, lo, rfl, h, hb⟩; have B7 := Lib.hid (B6.out.trans (hb.mono B6.out.size)); have Na_7 := Lib.hid (Na_6.out.below hb); have Nb_7 := Lib.hid (Nb_6.out.below hb); have Nback_7 := Lib.hid (Nback_6.out.below hb); have No_7 := Lib.hid h; clear B6 Na_6 Nb_6 Nback_6 h hb)
    | (go_at_call 16; (with_reducible refine (mul_fit Aa Ao ca co la lo (a) (10) x7 Na_7.out No_7.out G1.out).mono ?_); rintro e x8 ⟨Aten, cten, lten, rfl, h, hb⟩; have B8 := Lib.hid (B7.out.trans (hb.mono B7.out.size)); have Na_8 := Lib.hid (Na_7.out.below hb); have Nb_8 := Lib.hid (Nb_7.out.below hb); have Nback_8 := Lib.hid (Nback_7.out.below hb); have Nten_8 := Lib.hid h; clear B7 Na_7 Nb_7 Nback_7 No_7 h hb)
    | (go_at_call 25; (with_reducible refine (T3.out Aten cten lten x8 Nten_8.out).mono ?_); rintro e x9 ⟨rfl, hb⟩; have B9 := Lib.hid (B8.out.trans (hb.mono B8.out.size)); have Na_9 := Lib.hid (Na_8.out.below hb); have Nb_9 := Lib.hid (Nb_8.out.below hb); have Nback_9 := Lib.hid (Nback_8.out.below hb); clear B8 Na_8 Nb_8 Nback_8 Nten_8 hb)
    | (go_at_call 20; (with_reducible refine (sameT Aback Aa cback ca lback la (a) (a) x9 Nback_9.out Na_9.out (rfl)).mono ?_); rintro e x10 ⟨rfl, hb⟩; have B10 := Lib.hid (B9.out.trans (hb.mono B9.out.size)); have Na_10 := Lib.hid (Na_9.out.below hb); have Nb_10 := Lib.hid (Nb_9.out.below hb); clear B9 Na_9 Nb_9 Nback_9 hb)
    | (go_at_call 19; (with_reducible refine (lessG Aa Ab ca cb la lb (a) (b) x10 Na_10.out Nb_10.out L1.out).mono ?_); rintro e x11 ⟨rfl, hb⟩; have B11 := Lib.hid (B10.out.trans (hb.mono B10.out.size)); clear B10 Na_10 Nb_10 hb))
  go_ret
  exact ⟨rfl, B11.out⟩

theorem walk_natReads (w : World) (A0 : Option Addr) (len0 cap0 : Nat) (z0 : List Int) (w0 : IsRow .u32 w A0 len0 cap0 z0) (A1 : Option Addr) (len1 cap1 : Nat) (z1 : List Int) (w1 : IsRow .u32 w A1 len1 cap1 z1) (hw : Rdy w) :
    Calls Tryd.prog 8 #[.slice A0 len0 cap0, .slice A1 len1 cap1] w fun e w' => e = .returned (.bool true) ∧ Below w.heap.size w w' := by
  have ba : Bd (nv z0 len0 200) 200 := nv_bd w0 200
  have bb : Bd (nv z1 len1 200) 200 := nv_bd w1 200
  have H0 := Lib.hid (fun W hB => number_at w0 200 200 rfl (by omega) W hB)
  have H1 := Lib.hid (fun W hB => number_at w1 200 200 rfl (by omega) W hB)
  generalize nv z0 len0 200 = a at *
  generalize nv z1 len1 200 = b at *
  obtain ⟨m, rfl⟩ : ∃ m : Nat, a = m := ⟨a.toNat, by have := ba.1; omega⟩
  obtain ⟨n, rfl⟩ : ∃ n : Nat, b = n := ⟨b.toNat, by have := bb.1; omega⟩
  have T1 := Lib.hid (fun A c l W (h : Num W A l (m : Int)) => (text_any A c l m W h))
  have T2 := Lib.hid (fun A c l W (h : Num W A l (n : Int)) => (text_any A c l n W h))
  have T3 := Lib.hid (fun A c l W (h : Num W A l ((m : Int) * 10)) => (text_any A c l ((m : Int) * 10) W h))
  have R1 := Lib.hid (fun W => read_dec m W ba.2)
  simp only [Int.toNat_natCast] at T1 T2
  have g1 : (m : Int) * 10 < Na.Bp 1024 := (ba.mul (show Bd 10 1 from ⟨by omega, by decide⟩)).fit (by omega)
  have e10 : ((m : Int) * 10).toNat = 10 * m := by omega
  rw [e10] at T3
  have hsS : (ByteArray.mk (Lib.decDigits m).toArray).size ≤ 2000 := by rw [txt_size]; exact dec_top ba.2
  have hf1 : (((ByteArray.mk (Lib.decDigits m).toArray).size : Int) != ((ByteArray.mk (Lib.decDigits n).toArray).size : Int)) = decide ((Lib.decDigits m).length ≠ (Lib.decDigits n).length) := by
    rw [txt_size, txt_size, Bool.eq_iff_iff, bne_iff_ne, decide_eq_true_eq]; omega
  have hUz : m = 0 → ((ByteArray.mk (Lib.decDigits (10 * m)).toArray).toList == [48]) = true := by
    rintro rfl
    exact str_eq _ _ (Na.dec_small (n := 0) (by omega))
  have hUp : m ≠ 0 → (ByteArray.mk (Lib.decDigits (10 * m)).toArray) = ⟨(Lib.decDigits m).toArray⟩ ++ ⟨#[48]⟩ := by
    intro h
    rw [Na.dec_ten (by omega), ← bytes_append]
  have hless : (Lib.decDigits m).length = (Lib.decDigits n).length → Op.bytesLess (ByteArray.mk (Lib.decDigits m).toArray).toList (ByteArray.mk (Lib.decDigits n).toArray).toList = decide (m < n) := by
    intro h
    rw [Lib.toList_data, Lib.toList_data]
    show Op.bytesLess (Lib.decDigits m) (Lib.decDigits n) = _
    rw [Na.less_dn (Na.dec_DgT m) (Na.dec_DgT n) h, Na.dec_dn, Na.dec_dn]
  have hlen : (Lib.decDigits m).length ≠ (Lib.decDigits n).length → decide ((ByteArray.mk (Lib.decDigits m).toArray).size < (ByteArray.mk (Lib.decDigits n).toArray).size) = decide (m < n) := by
    intro h
    rw [txt_size, txt_size, decide_eq_decide]
    constructor
    · exact Na.dec_len_lt
    · intro hmn
      have := Na.dec_len_le (show m ≤ n by omega)
      omega
  by_cases hz : m = 0 <;> by_cases hs : (Lib.decDigits m).length = (Lib.decDigits n).length <;> by_cases hl : m < n
  · exact reads_z_eq_t w A0 len0 cap0 A1 len1 cap1 m n _ _ _ g1 (by omega) (by omega) hsS (hUz hz) (by rw [hf1]; simp [hs]) (by rw [hless hs]; simp [hl]) T1 T2 T3 R1 H0 H1
  · exact reads_z_eq_f w A0 len0 cap0 A1 len1 cap1 m n _ _ _ g1 (by omega) (by omega) hsS (hUz hz) (by rw [hf1]; simp [hs]) (by rw [hless hs]; simp [hl]) T1 T2 T3 R1 H0 H1
  · exact reads_z_ne_t w A0 len0 cap0 A1 len1 cap1 m n _ _ _ g1 (by omega) (by omega) hsS (hUz hz) (by rw [hf1]; simp [hs]) (by rw [hlen hs]; simp [hl]) T1 T2 T3 R1 H0 H1
  · exact reads_z_ne_f w A0 len0 cap0 A1 len1 cap1 m n _ _ _ g1 (by omega) (by omega) hsS (hUz hz) (by rw [hf1]; simp [hs]) (by rw [hlen hs]; simp [hl]) T1 T2 T3 R1 H0 H1
  · exact reads_p_eq_t w A0 len0 cap0 A1 len1 cap1 m n _ _ _ g1 (by omega) (by omega) hsS (hUp hz) (by rw [hf1]; simp [hs]) (by rw [hless hs]; simp [hl]) T1 T2 T3 R1 H0 H1
  · exact reads_p_eq_f w A0 len0 cap0 A1 len1 cap1 m n _ _ _ g1 (by omega) (by omega) hsS (hUp hz) (by rw [hf1]; simp [hs]) (by rw [hless hs]; simp [hl]) T1 T2 T3 R1 H0 H1
  · exact reads_p_ne_t w A0 len0 cap0 A1 len1 cap1 m n _ _ _ g1 (by omega) (by omega) hsS (hUp hz) (by rw [hf1]; simp [hs]) (by rw [hlen hs]; simp [hl]) T1 T2 T3 R1 H0 H1
  · exact reads_p_ne_f w A0 len0 cap0 A1 len1 cap1 m n _ _ _ g1 (by omega) (by omega) hsS (hUp hz) (by rw [hf1]; simp [hs]) (by rw [hlen hs]; simp [hl]) T1 T2 T3 R1 H0 H1

end Go.Proofs.YtgcfmkelanhdhaaDoor
