/-
  The examples of the chapter hold.
-/
import Derived.Test.YthojojjdamchpaaEdiReg2
namespace Go.Proofs.Ythojojjdamchpaa
open Go.RowKit Go.Shelf
set_option linter.unusedVariables false
set_option linter.unusedSimpArgs false

theorem kx6 : ∀ V : World, Calls Try.prog 7 #[.string ⟨#[]⟩, .slice (some ⟨V.heap.size, 0, none⟩) 1 1] (V.alloc (.cells #[.int .u8 3] 5)) (PostK [(3, 0)] (V.alloc (.cells #[.int .u8 3] 5))) :=
  fun V => kinds_new ⟨#[]⟩ (by decide) [3] 1 1 rfl (by decide) _ exk6.1 V
theorem kx7 : ∀ V : World, Calls Try.prog 7 #[.string ⟨#[]⟩, .slice (some ⟨V.heap.size, 0, none⟩) 1 1] (V.alloc (.cells #[.int .u8 1] 5)) (PostK [(1, 0)] (V.alloc (.cells #[.int .u8 1] 5))) :=
  fun V => kinds_new ⟨#[]⟩ (by decide) [1] 1 1 rfl (by decide) _ exk6.2.1 V
theorem kx8 : ∀ V : World, Calls Try.prog 7 #[.string ⟨#[65]⟩, .slice (some ⟨V.heap.size, 0, none⟩) 1 1] (V.alloc (.cells #[.int .u8 2] 5)) (PostK [(2, 65)] (V.alloc (.cells #[.int .u8 2] 5))) :=
  fun V => kinds_new ⟨#[65]⟩ (by decide) [2] 1 1 rfl (by decide) _ exk6.2.2 V

/-- an example, and what holds of it -/
structure Ex (w : World) (g k : Nat) (a b : ByteArray) (c : Ed.Cst) (n : Int) (l : List (Nat × Nat)) (A : Option Addr) (m cp : Nat) : Prop where
  h0 : w.cell? ⟨g, k * 8, none⟩ = some (.string a)
  h1 : w.cell? ⟨g, k * 8 + 1, none⟩ = some (.string b)
  h2 : w.cell? ⟨g, k * 8 + 2, none⟩ = some (.int .i64 c.ins)
  h3 : w.cell? ⟨g, k * 8 + 3, none⟩ = some (.int .i64 c.del)
  h4 : w.cell? ⟨g, k * 8 + 4, none⟩ = some (.int .i64 c.chg)
  h5 : w.cell? ⟨g, k * 8 + 5, none⟩ = some (.int .i64 c.swp)
  h6 : w.cell? ⟨g, k * 8 + 6, none⟩ = some (.int .i64 n)
  h7 : w.cell? ⟨g, k * 8 + 7, none⟩ = some (.slice A m cp)
  dist : distOf c a b = n
  err : errOf c a b = 0
  path : pathOf c a b = l
  len : l.length = m
  few : l.length ≤ 100
  rd : RdO w A l
theorem ex_of {w : World} {g k : Nat} {a b : ByteArray} {c : Ed.Cst} {n : Int} {l : List (Nat × Nat)} (h : RW w g k a b c n l) (hx : distOf c a b = n ∧ errOf c a b = 0 ∧ pathOf c a b = l) (hl : l.length ≤ 100) : ∃ a b c n l A m cp, Ex w g k a b c n l A m cp := by
  obtain ⟨h0, h1, h2, h3, h4, h5, h6, x, h7, A, m, cp, rfl, h8, h9⟩ := h
  exact ⟨a, b, c, n, l, A, m, cp, h0, h1, h2, h3, h4, h5, h6, h7, hx.1, hx.2.1, hx.2.2, h8, hl, h9⟩
theorem tb_ex {w W : World} {g : Nat} (h : TB w (.slice (some ⟨g, 0, none⟩) 5 5)) (hb : Below w.heap.size w W) (k : Nat) (hk : k < 5) : ∃ a b c n l A m cp, Ex W g k a b c n l A m cp := by
  obtain ⟨g', hg, h1, h2, h3, h4, h5⟩ := h
  obtain rfl : g = g' := by injection hg with h; injection h with h; injection h
  rcases (show k = 0 ∨ k = 1 ∨ k = 2 ∨ k = 3 ∨ k = 4 by omega) with rfl | rfl | rfl | rfl | rfl
  · exact ex_of (h1.below hb) ex1 (by decide)
  · exact ex_of (h2.below hb) ex2 (by decide)
  · exact ex_of (h3.below hb) ex3 (by decide)
  · exact ex_of (h4.below hb) ex4 (by decide)
  · exact ex_of (h5.below hb) ex5 (by decide)

set_option maxRecDepth 100000 in
set_option maxHeartbeats 8000000 in
theorem awake_any (w : World) : Calls Try.prog 4 #[] w (PostB true w) := by
  have on := fun V => ones_any V
  have wi1 : ∀ V, Calls Try.prog 11 #[.string sMAIN, .string sMINE, cstV c1s, .int .i64 1] V fun e w' => e = .returned (.tuple #[.int .i64 0, .bool false, .int .i64 0]) ∧ Below V.heap.size V w' := fun V => (within_any c1s sMAIN sMINE 1 V).mono fun e w' ⟨h1, h2⟩ => ⟨by rw [h1, exw.1, exw.2.1, exw.2.2.1], h2⟩
  have wi2 : ∀ V, Calls Try.prog 11 #[.string sMAIN, .string sMINE, cstV c1s, .int .i64 2] V fun e w' => e = .returned (.tuple #[.int .i64 2, .bool true, .int .i64 0]) ∧ Below V.heap.size V w' := fun V => (within_any c1s sMAIN sMINE 2 V).mono fun e w' ⟨h1, h2⟩ => ⟨by rw [h1, exw.2.2.2.1, exw.2.2.2.2, exw.2.2.1], h2⟩
  unfold cstV c1s at on
  unfold cstV c1s sMAIN sMINE at wi1 wi2
  have ON := Lib.hid on; have WI1 := Lib.hid wi1; have WI2 := Lib.hid wi2
  have K6 := Lib.hid kx6; have K7 := Lib.hid kx7; have K8 := Lib.hid kx8
  clear on wi1 wi2
  go_enter Try.func4, Try.ntmps4
  go_wp2_with (go_at_call 6; (with_reducible refine (ON.out _).mono ?_); rintro e w1 ⟨rfl, hb⟩; have HB1 := Lib.hid hb; clear hb)
  obtain ⟨W0, hW0⟩ : ∃ W, W = (w1.alloc (.cells #[.int .i64 1, .int .i64 1, .int .i64 3, .int .i64 1] 23)) := ⟨_, rfl⟩
  have hdear := box4 (heap_alloc_new w1 (.cells #[.int .i64 1, .int .i64 1, .int .i64 3, .int .i64 1] 23))
  have hb0 := HB1.out.trans ((below_new w1 (.cells #[.int .i64 1, .int .i64 1, .int .i64 3, .int .i64 1] 23)).mono HB1.out.size)
  rw [← hW0] at hdear hb0
  rw [← hW0]
  have HB0 := Lib.hid hb0; have HDear := Lib.hid hdear
  clear hdear hb0
  refine regA ?r _ (Nat.le_of_ble_eq_true rfl) w1.heap.size _ rfl HDear.out ?_
  case r =>
    exact {
      size := rfl, early := early_of rfl,
      o0 := ⟨_, rfl, rfl, rfl, rfl⟩, o1 := ⟨_, rfl, rfl, rfl, rfl⟩, o2 := ⟨_, rfl, rfl, rfl, rfl⟩, o3 := ⟨_, rfl, rfl, rfl, rfl⟩, o4 := ⟨_, rfl, rfl, rfl, rfl⟩, o5 := ⟨_, rfl, rfl, rfl, rfl⟩, o6 := ⟨_, rfl, rfl, rfl, rfl⟩, o7 := ⟨_, rfl, rfl, rfl, rfl⟩, o8 := ⟨_, rfl, rfl, rfl, rfl⟩, o9 := ⟨_, rfl, rfl, rfl, rfl⟩, o10 := ⟨_, rfl, rfl, rfl, rfl⟩, o11 := ⟨_, rfl, rfl, rfl, rfl⟩, o12 := ⟨_, rfl, rfl, rfl, rfl⟩, o13 := ⟨_, rfl, rfl, rfl, rfl⟩, o14 := ⟨_, rfl, rfl, rfl, rfl⟩, o15 := ⟨_, rfl, rfl, rfl, rfl⟩, o16 := ⟨_, rfl, rfl, rfl, rfl⟩, o17 := ⟨_, rfl, rfl, rfl, rfl⟩, o18 := ⟨_, rfl, rfl, rfl, rfl⟩, o19 := ⟨_, rfl, rfl, rfl, rfl⟩, o20 := ⟨_, rfl, rfl, rfl, rfl⟩, o21 := ⟨_, rfl, rfl, rfl, rfl⟩, o22 := ⟨_, rfl, rfl, rfl, rfl⟩,
      w2_1 := ⟨_, 0, _, rfl, rfl, rfl, rfl⟩, w3_0 := ⟨_, 0, _, rfl, rfl, rfl, rfl⟩, w3_2 := ⟨_, 1, _, rfl, rfl, rfl, rfl⟩, w6_5 := ⟨_, 0, _, rfl, rfl, rfl, rfl⟩, w7_4 := ⟨_, 0, _, rfl, rfl, rfl, rfl⟩, w7_6 := ⟨_, 1, _, rfl, rfl, rfl, rfl⟩, w10_9 := ⟨_, 0, _, rfl, rfl, rfl, rfl⟩, w11_8 := ⟨_, 0, _, rfl, rfl, rfl, rfl⟩, w11_10 := ⟨_, 1, _, rfl, rfl, rfl, rfl⟩, w14_13 := ⟨_, 0, _, rfl, rfl, rfl, rfl⟩, w15_12 := ⟨_, 0, _, rfl, rfl, rfl, rfl⟩, w15_14 := ⟨_, 1, _, rfl, rfl, rfl, rfl⟩, w18_17 := ⟨_, 0, _, rfl, rfl, rfl, rfl⟩, w19_16 := ⟨_, 0, _, rfl, rfl, rfl, rfl⟩, w19_18 := ⟨_, 1, _, rfl, rfl, rfl, rfl⟩, w20_3 := ⟨_, 0, _, rfl, rfl, rfl, rfl⟩, w20_7 := ⟨_, 1, _, rfl, rfl, rfl, rfl⟩, w20_11 := ⟨_, 2, _, rfl, rfl, rfl, rfl⟩, w20_15 := ⟨_, 3, _, rfl, rfl, rfl, rfl⟩, w20_19 := ⟨_, 4, _, rfl, rfl, rfl, rfl⟩, w21_20 := ⟨_, 0, _, rfl, rfl, rfl, rfl⟩ }
  intro f w2 hb2 ht h21 h22
  rw [putS23, h21, h22]
  have HT := Lib.hid ht
  obtain ⟨g, hg, _⟩ := ht
  rw [hg]
  rw [hg] at HT
  have HB2 := Lib.hid (HB0.out.trans (hb2.mono HB0.out.size))
  clear hb2 h21 h22 hg hW0 HB1
  simp only [Act.put, List.setIfInBounds_toArray, List.set_cons_succ, List.set_cons_zero]
  go_wp2
  generalize f 0 = f0, f 1 = f1, f 2 = f2, f 3 = f3, f 4 = f4, f 5 = f5, f 6 = f6, f 7 = f7, f 8 = f8, f 9 = f9, f 10 = f10, f 11 = f11, f 12 = f12, f 13 = f13, f 14 = f14, f 15 = f15, f 16 = f16, f 17 = f17, f 18 = f18, f 19 = f19
  have HZ := Lib.hid (Below.refl w2.heap.size w2)
  go_loopw [47] (fun s47 wr => ∃ k : Nat, s47 = .int .i64 k ∧ k ≤ 5 ∧ Hid (Below w2.heap.size w2 wr)) (fun s47 _ => 5 - (intOf s47).toNat)
  case atStart => exact ⟨0, rfl, by omega, HZ⟩
  case round =>
    obtain ⟨k, rfl, hk, HS⟩ := hrel
    clear HZ
    by_cases hlt : k < 5
    · have hlti : (k : Int) < 5 := by omega
      obtain ⟨a, b, c, n, l, A, m, cp, E⟩ := tb_ex HT.out HS.out k hlt
      have hds : ∀ V, Calls Try.prog 8 #[.string a, .string b, cstV c] V fun e w' => e = .returned (.tuple #[.int .i64 n, .int .i64 0]) ∧ Below V.heap.size V w' := fun V => (distance_any c a b V).mono fun e w' ⟨h1, h2⟩ => ⟨by rw [h1, E.dist, E.err], h2⟩
      have hpt : ∀ V, Calls Try.prog 9 #[.string a, .string b, cstV c] V fun e w' => ∃ A n' cap, e = .returned (.tuple #[.slice A n' cap, .int .i64 n, .int .i64 0]) ∧ OwnO V.heap.size 51 w' A n' cap l ∧ Below V.heap.size V w' := fun V => (path_any c a b V).mono fun e w' ⟨A, n', cap, h1, h2, h3⟩ => ⟨A, n', cap, by rw [h1, E.dist, E.err], by rw [← E.path]; exact h2, h3⟩
      unfold cstV at hds hpt
      have e0 := E.h0; have e1 := E.h1; have e2 := E.h2; have e3 := E.h3; have e4 := E.h4; have e5 := E.h5; have e6 := E.h6; have e7 := E.h7
      have HE := Lib.hid E; have HDS := Lib.hid hds; have HPT := Lib.hid hpt
      clear E hds hpt
      obtain ⟨wo, hwo⟩ : ∃ wo, wo = wr.alloc (.cells #[.string a, .string b, .int .i64 c.ins, .int .i64 c.del, .int .i64 c.chg, .int .i64 c.swp, .int .i64 n, .slice A m cp] 29) := ⟨_, rfl⟩
      have hn := heap_alloc_new wr (.cells #[.string a, .string b, .int .i64 c.ins, .int .i64 c.del, .int .i64 c.chg, .int .i64 c.swp, .int .i64 n, .slice A m cp] 29)
      have hbn := below_new wr (.cells #[.string a, .string b, .int .i64 c.ins, .int .i64 c.del, .int .i64 c.chg, .int .i64 c.swp, .int .i64 n, .slice A m cp] 29)
      rw [← hwo] at hn hbn
      have g0 := cell_of_row _ _ 0 _ _ _ hn; have g1 := cell_of_row _ _ 1 _ _ _ hn; have g2 := cell_of_row _ _ 2 _ _ _ hn; have g3 := cell_of_row _ _ 3 _ _ _ hn; have g4 := cell_of_row _ _ 4 _ _ _ hn; have g5 := cell_of_row _ _ 5 _ _ _ hn; have g6 := cell_of_row _ _ 6 _ _ _ hn; have g7 := cell_of_row _ _ 7 _ _ _ hn
      have HBN := Lib.hid hbn
      clear hn hbn
      go_wp2_with fail
      rw [← hwo]
      clear hwo e0 e1 e2 e3 e4 e5 e6 e7
      go_wp2_with (first
        | (go_at_call 8; (with_reducible refine (HDS.out _).mono ?_); rintro e V1 ⟨rfl, hb⟩; have m0 := cell_keep g0 hb; have m1 := cell_keep g1 hb; have m2 := cell_keep g2 hb; have m3 := cell_keep g3 hb; have m4 := cell_keep g4 hb; have m5 := cell_keep g5 hb; have m6 := cell_keep g6 hb; have m7 := cell_keep g7 hb; have HV1 := Lib.hid (HBN.out.trans (hb.mono HBN.out.size)); clear hb g0 g1 g2 g3 g4 g5 g6 g7)
        | (go_at_call 9; (with_reducible refine (HPT.out _).mono ?_); rintro e V2 ⟨A2, n2, c2, rfl, ho, hb⟩; have r0 := cell_keep m0 hb; have r1 := cell_keep m1 hb; have r2 := cell_keep m2 hb; have r3 := cell_keep m3 hb; have r4 := cell_keep m4 hb; have r5 := cell_keep m5 hb; have r6 := cell_keep m6 hb; have r7 := cell_keep m7 hb; have HV2 := Lib.hid (HV1.out.trans (hb.mono HV1.out.size)); have HSM := Lib.hid (same_any A2 A n2 m c2 cp l l V2 ho.1 HE.out.len (by have := HE.out.few; have := ho.1; omega) (by have := HE.out.few; have := HE.out.len; omega) ho.rd (HE.out.rd.below HV2.out)); clear hb ho m0 m1 m2 m3 m4 m5 m6 m7)
        | (go_at_call 10; (with_reducible refine HSM.out.mono ?_); rintro e V3 ⟨rfl, hb⟩; have hdd : decide (l = l) = true := decide_eq_true rfl; have HV3 := Lib.hid (HV2.out.trans (hb.mono HV2.out.size)); clear hb))
      go_roundw
      case rel => exact ⟨k + 1, by go_num, by omega, Lib.hid (HS.out.trans (HV3.out.mono HS.out.size))⟩
      case measure => simp [intOf]; omega
    · obtain rfl : k = 5 := by omega
      have x1 := exa1.1; have x2 := exa1.2; have x3 := exa2; have x4 := exa3; have x5 := exa4
      unfold sAB at x1 x2 x4
      unfold sA at x5
      have HW := Lib.hid (HB2.out.trans (HS.out.mono HB2.out.size))
      clear HT HB2 HS HDear HB0
      go_wp2_with (first
        | (go_at_call 6; (with_reducible refine (ON.out _).mono ?_); rintro e V ⟨rfl, hb⟩; have HW := Lib.hid (HW.out.trans (hb.mono HW.out.size)); clear hb)
        | (go_at_call 11; (with_reducible refine (WI1.out _).mono ?_); rintro e V ⟨rfl, hb⟩; have HW := Lib.hid (HW.out.trans (hb.mono HW.out.size)); clear hb)
        | (go_at_call 11; (with_reducible refine (WI2.out _).mono ?_); rintro e V ⟨rfl, hb⟩; have HW := Lib.hid (HW.out.trans (hb.mono HW.out.size)); clear hb)
        | (go_at_call 7; (with_reducible refine (K6.out _).mono ?_); rintro e V ⟨A6, n6, c6, rfl, ho, hb⟩; have AP := Lib.hid (fun s => apply_any A6 n6 c6 [(3, 0)] s V ho.1 (by decide) ho.rd); have HW := Lib.hid ((HW.out.trans ((below_new _ _).mono HW.out.size)).trans (hb.mono (HW.out.trans ((below_new _ _).mono HW.out.size)).size)); clear hb ho)
        | (go_at_call 7; (with_reducible refine (K7.out _).mono ?_); rintro e V ⟨A6, n6, c6, rfl, ho, hb⟩; have AP := Lib.hid (fun s => apply_any A6 n6 c6 [(1, 0)] s V ho.1 (by decide) ho.rd); have HW := Lib.hid ((HW.out.trans ((below_new _ _).mono HW.out.size)).trans (hb.mono (HW.out.trans ((below_new _ _).mono HW.out.size)).size)); clear hb ho)
        | (go_at_call 7; (with_reducible refine (K8.out _).mono ?_); rintro e V ⟨A6, n6, c6, rfl, ho, hb⟩; have AP := Lib.hid (fun s => apply_any A6 n6 c6 [(2, 65)] s V ho.1 (by decide) ho.rd); have HW := Lib.hid ((HW.out.trans ((below_new _ _).mono HW.out.size)).trans (hb.mono (HW.out.trans ((below_new _ _).mono HW.out.size)).size)); clear hb ho)
        | (go_at_call 12; (with_reducible refine (AP.out _).mono ?_); rintro e V ⟨rfl, hb⟩; have HW := Lib.hid (HW.out.trans (hb.mono HW.out.size)); clear hb))
      go_ret
      exact ⟨rfl, HW.out⟩
end Go.Proofs.Ythojojjdamchpaa
