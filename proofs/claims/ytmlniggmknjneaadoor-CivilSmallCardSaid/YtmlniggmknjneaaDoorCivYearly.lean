/-
  The walk of the law CivilYearly.
-/
import Derived.Test.YtmlniggmknjneaaDoorCivRdy
namespace Go.Proofs.YtmlniggmknjneaaDoor
open Go.RowKit
set_option linter.unusedVariables false

theorem isY_md (n : Int) (h0 : 0 ≤ n) (h1 : n ≤ 730484) : isY (md n) = true := by
  have hd := (Cv.date_is n h0 h1).1
  have bd := isD_bd hd
  have e1 : (md n).tdiv 100 = Cv.mo n := by rw [Int.tdiv_eq_ediv_of_nonneg (by unfold md; omega)]; unfold md; omega
  have e2 : (md n).tmod 100 = Cv.dm n := by rw [Int.tmod_eq_emod_of_nonneg (by unfold md; omega)]; unfold md; omega
  unfold isY; rw [e1, e2]
  unfold Cv.isD Cv.inM at hd
  simp only [Bool.and_eq_true, decide_eq_true_eq] at hd
  unfold Cv.inM
  rw [decide_eq_true_eq]
  have hm : Cv.mo n = 1 ∨ Cv.mo n = 2 ∨ Cv.mo n = 3 ∨ Cv.mo n = 4 ∨ Cv.mo n = 5 ∨ Cv.mo n = 6 ∨ Cv.mo n = 7 ∨ Cv.mo n = 8 ∨ Cv.mo n = 9 ∨ Cv.mo n = 10 ∨ Cv.mo n = 11 ∨ Cv.mo n = 12 := by omega
  have l1 := Cv.lp_01 (Cv.yr n)
  have l2 : Cv.lp 2004 = 1 := by decide
  refine ⟨by omega, by omega, by omega, ?_⟩
  have h2 := hd.2.2.2.2
  clear e1 e2 hd
  generalize Cv.mo n = m at *
  rcases hm with rfl | rfl | rfl | rfl | rfl | rfl | rfl | rfl | rfl | rfl | rfl | rfl <;> simp [Cv.ms, Cv.tab] at h2 ⊢ <;> omega
theorem md_bd (n : Int) (h0 : 0 ≤ n) (h1 : n ≤ 730484) : 101 ≤ md n ∧ md n ≤ 1231 := by
  have := dm_bd n h0 h1
  unfold md; omega

set_option maxHeartbeats 400000 in
theorem mdClosure_any (n : Int) (w : World) (ht : Tab w) (h0 : 0 ≤ n) (h1 : n ≤ 730484) :
    Calls Tryd.prog 37 #[.int .i64 n] w fun e w' => e = .returned (.int .i64 (md n)) ∧ w = w' := by
  have bd := dm_bd n h0 h1
  go_enter Tryd.func37, Tryd.ntmps37
  go_wp2_with (go_at_call 27; refine (date_yes _ _ ht h0 h1).mono ?_; rintro e w' ⟨rfl, rfl⟩)
  go_ret
  exact ⟨rfl, rfl⟩
set_option maxHeartbeats 400000 in
theorem lawDay_any (n : Int) (w : World) (n0 : -9223372036854775808 ≤ n) (n1 : n ≤ 9223372036854775807) :
    Calls Tryd.prog 33 #[.int .i64 n] w fun e w' => e = .returned (.int .i64 (n % 730485)) ∧ w = w' := by
  go_enter Tryd.func33, Tryd.ntmps33
  go_wp2_with (go_at_call 26; refine (pick_any _ _ _ (by omega) (by omega)).mono ?_; rintro e w' ⟨rfl, rfl⟩)
  go_ret
  exact ⟨rfl, rfl⟩

theorem yb_iff (n X Y D : Int) (h : md n = D) : yearlyB n X Y = true ↔ (if Y < X then X ≤ D ∨ D ≤ Y else X ≤ D ∧ D ≤ Y) := by
  unfold yearlyB; rw [h]; split <;> simp

set_option maxHeartbeats 1000000 in
/-- the law at two different days of the year -/
theorem yearly_two (a0 a1 a2 d x y X Y D : Int) (b1 b2 : Bool) (w : World) (R0 : Hid (Rdy w)) (hne : X ≠ Y) (X0 : 0 ≤ X) (Y0 : 0 ≤ Y)
    (P0 : Hid (∀ W, Calls Tryd.prog 33 #[.int .i64 a0] W fun e w' => e = .returned (.int .i64 d) ∧ W = w'))
    (P1 : Hid (∀ W, Calls Tryd.prog 33 #[.int .i64 a1] W fun e w' => e = .returned (.int .i64 x) ∧ W = w'))
    (P2 : Hid (∀ W, Calls Tryd.prog 33 #[.int .i64 a2] W fun e w' => e = .returned (.int .i64 y) ∧ W = w'))
    (M0 : Hid (∀ W, Tab W → Calls Tryd.prog 37 #[.int .i64 d] W fun e w' => e = .returned (.int .i64 D) ∧ W = w'))
    (M1 : Hid (∀ W, Tab W → Calls Tryd.prog 37 #[.int .i64 x] W fun e w' => e = .returned (.int .i64 X) ∧ W = w'))
    (M2 : Hid (∀ W, Tab W → Calls Tryd.prog 37 #[.int .i64 y] W fun e w' => e = .returned (.int .i64 Y) ∧ W = w'))
    (Y1 : Hid (∀ W, Tab W → Calls Tryd.prog 38 #[.int .i64 d, .int .i64 X, .int .i64 Y] W fun e w' => e = .returned (.tuple #[.bool b1, .int .i64 0]) ∧ W = w'))
    (Y2 : Hid (∀ W, Tab W → Calls Tryd.prog 38 #[.int .i64 d, .int .i64 Y, .int .i64 X] W fun e w' => e = .returned (.tuple #[.bool b2, .int .i64 0]) ∧ W = w'))
    (h1 : b1 = true ↔ (if Y < X then X ≤ D ∨ D ≤ Y else X ≤ D ∧ D ≤ Y)) (h2 : b2 = true ↔ (if X < Y then Y ≤ D ∨ D ≤ X else Y ≤ D ∧ D ≤ X)) :
    Calls Tryd.prog 12 #[.int .i64 a0, .int .i64 a1, .int .i64 a2] w fun e w' => e = .returned (.bool true) ∧ Below w.heap.size w w' := by
  have cases3 : (D = X ∧ D ≠ Y ∧ b1 = true ∧ b2 = true) ∨ (D ≠ X ∧ D = Y ∧ b1 = true ∧ b2 = true) ∨ (D ≠ X ∧ D ≠ Y ∧ b1 = true ∧ b2 = false) ∨ (D ≠ X ∧ D ≠ Y ∧ b1 = false ∧ b2 = true) := by
    cases b1 <;> cases b2 <;> simp at h1 h2 ⊢ <;> (split at h1 <;> split at h2 <;> omega)
  have n1 : (X == Y) = false := beq_eq_false_iff_ne.2 hne
  clear h1 h2 hne
  rcases cases3 with ⟨c1, c2, rfl, rfl⟩ | ⟨c1, c2, rfl, rfl⟩ | ⟨c1, c2, rfl, rfl⟩ | ⟨c1, c2, rfl, rfl⟩
  · have n2 : (D == X) = true := beq_iff_eq.2 c1
    have n3 : (D == Y) = false := beq_eq_false_iff_ne.2 c2
    clear c1 c2
    go_enter Tryd.func12, Tryd.ntmps12
    go_wp2_with (first
      | (go_at_call 19; refine (awake_any _ R0.out).mono ?_; rintro e w1 ⟨rfl, hb1⟩; have R1 := Lib.hid (R0.out.below hb1); have B1 := Lib.hid hb1; clear hb1)
      | (go_at_call 33; (with_reducible refine (P0.out _).mono ?_); rintro e w' ⟨rfl, rfl⟩)
      | (go_at_call 33; (with_reducible refine (P1.out _).mono ?_); rintro e w' ⟨rfl, rfl⟩)
      | (go_at_call 33; (with_reducible refine (P2.out _).mono ?_); rintro e w' ⟨rfl, rfl⟩)
      | (go_at_call 37; (with_reducible refine (M0.out _ R1.out.tab).mono ?_); rintro e w' ⟨rfl, rfl⟩)
      | (go_at_call 37; (with_reducible refine (M1.out _ R1.out.tab).mono ?_); rintro e w' ⟨rfl, rfl⟩)
      | (go_at_call 37; (with_reducible refine (M2.out _ R1.out.tab).mono ?_); rintro e w' ⟨rfl, rfl⟩)
      | (go_at_call 38; (with_reducible refine (Y1.out _ R1.out.tab).mono ?_); rintro e w' ⟨rfl, rfl⟩)
      | (go_at_call 38; (with_reducible refine (Y2.out _ R1.out.tab).mono ?_); rintro e w' ⟨rfl, rfl⟩))
    go_ret
    exact ⟨rfl, B1.out⟩
  · have n2 : (D == X) = false := beq_eq_false_iff_ne.2 c1
    have n3 : (D == Y) = true := beq_iff_eq.2 c2
    clear c1 c2
    go_enter Tryd.func12, Tryd.ntmps12
    go_wp2_with (first
      | (go_at_call 19; refine (awake_any _ R0.out).mono ?_; rintro e w1 ⟨rfl, hb1⟩; have R1 := Lib.hid (R0.out.below hb1); have B1 := Lib.hid hb1; clear hb1)
      | (go_at_call 33; (with_reducible refine (P0.out _).mono ?_); rintro e w' ⟨rfl, rfl⟩)
      | (go_at_call 33; (with_reducible refine (P1.out _).mono ?_); rintro e w' ⟨rfl, rfl⟩)
      | (go_at_call 33; (with_reducible refine (P2.out _).mono ?_); rintro e w' ⟨rfl, rfl⟩)
      | (go_at_call 37; (with_reducible refine (M0.out _ R1.out.tab).mono ?_); rintro e w' ⟨rfl, rfl⟩)
      | (go_at_call 37; (with_reducible refine (M1.out _ R1.out.tab).mono ?_); rintro e w' ⟨rfl, rfl⟩)
      | (go_at_call 37; (with_reducible refine (M2.out _ R1.out.tab).mono ?_); rintro e w' ⟨rfl, rfl⟩)
      | (go_at_call 38; (with_reducible refine (Y1.out _ R1.out.tab).mono ?_); rintro e w' ⟨rfl, rfl⟩)
      | (go_at_call 38; (with_reducible refine (Y2.out _ R1.out.tab).mono ?_); rintro e w' ⟨rfl, rfl⟩))
    go_ret
    exact ⟨rfl, B1.out⟩
  · have n2 : (D == X) = false := beq_eq_false_iff_ne.2 c1
    have n3 : (D == Y) = false := beq_eq_false_iff_ne.2 c2
    clear c1 c2
    go_enter Tryd.func12, Tryd.ntmps12
    go_wp2_with (first
      | (go_at_call 19; refine (awake_any _ R0.out).mono ?_; rintro e w1 ⟨rfl, hb1⟩; have R1 := Lib.hid (R0.out.below hb1); have B1 := Lib.hid hb1; clear hb1)
      | (go_at_call 33; (with_reducible refine (P0.out _).mono ?_); rintro e w' ⟨rfl, rfl⟩)
      | (go_at_call 33; (with_reducible refine (P1.out _).mono ?_); rintro e w' ⟨rfl, rfl⟩)
      | (go_at_call 33; (with_reducible refine (P2.out _).mono ?_); rintro e w' ⟨rfl, rfl⟩)
      | (go_at_call 37; (with_reducible refine (M0.out _ R1.out.tab).mono ?_); rintro e w' ⟨rfl, rfl⟩)
      | (go_at_call 37; (with_reducible refine (M1.out _ R1.out.tab).mono ?_); rintro e w' ⟨rfl, rfl⟩)
      | (go_at_call 37; (with_reducible refine (M2.out _ R1.out.tab).mono ?_); rintro e w' ⟨rfl, rfl⟩)
      | (go_at_call 38; (with_reducible refine (Y1.out _ R1.out.tab).mono ?_); rintro e w' ⟨rfl, rfl⟩)
      | (go_at_call 38; (with_reducible refine (Y2.out _ R1.out.tab).mono ?_); rintro e w' ⟨rfl, rfl⟩))
    go_ret
    exact ⟨rfl, B1.out⟩
  · have n2 : (D == X) = false := beq_eq_false_iff_ne.2 c1
    have n3 : (D == Y) = false := beq_eq_false_iff_ne.2 c2
    clear c1 c2
    go_enter Tryd.func12, Tryd.ntmps12
    go_wp2_with (first
      | (go_at_call 19; refine (awake_any _ R0.out).mono ?_; rintro e w1 ⟨rfl, hb1⟩; have R1 := Lib.hid (R0.out.below hb1); have B1 := Lib.hid hb1; clear hb1)
      | (go_at_call 33; (with_reducible refine (P0.out _).mono ?_); rintro e w' ⟨rfl, rfl⟩)
      | (go_at_call 33; (with_reducible refine (P1.out _).mono ?_); rintro e w' ⟨rfl, rfl⟩)
      | (go_at_call 33; (with_reducible refine (P2.out _).mono ?_); rintro e w' ⟨rfl, rfl⟩)
      | (go_at_call 37; (with_reducible refine (M0.out _ R1.out.tab).mono ?_); rintro e w' ⟨rfl, rfl⟩)
      | (go_at_call 37; (with_reducible refine (M1.out _ R1.out.tab).mono ?_); rintro e w' ⟨rfl, rfl⟩)
      | (go_at_call 37; (with_reducible refine (M2.out _ R1.out.tab).mono ?_); rintro e w' ⟨rfl, rfl⟩)
      | (go_at_call 38; (with_reducible refine (Y1.out _ R1.out.tab).mono ?_); rintro e w' ⟨rfl, rfl⟩)
      | (go_at_call 38; (with_reducible refine (Y2.out _ R1.out.tab).mono ?_); rintro e w' ⟨rfl, rfl⟩))
    go_ret
    exact ⟨rfl, B1.out⟩

set_option maxHeartbeats 1000000 in
/-- the law at the same day of the year twice -/
theorem yearly_one (a0 a1 a2 d x y X D : Int) (b1 : Bool) (w : World) (R0 : Hid (Rdy w)) (X0 : 0 ≤ X)
    (P0 : Hid (∀ W, Calls Tryd.prog 33 #[.int .i64 a0] W fun e w' => e = .returned (.int .i64 d) ∧ W = w'))
    (P1 : Hid (∀ W, Calls Tryd.prog 33 #[.int .i64 a1] W fun e w' => e = .returned (.int .i64 x) ∧ W = w'))
    (P2 : Hid (∀ W, Calls Tryd.prog 33 #[.int .i64 a2] W fun e w' => e = .returned (.int .i64 y) ∧ W = w'))
    (M0 : Hid (∀ W, Tab W → Calls Tryd.prog 37 #[.int .i64 d] W fun e w' => e = .returned (.int .i64 D) ∧ W = w'))
    (M1 : Hid (∀ W, Tab W → Calls Tryd.prog 37 #[.int .i64 x] W fun e w' => e = .returned (.int .i64 X) ∧ W = w'))
    (M2 : Hid (∀ W, Tab W → Calls Tryd.prog 37 #[.int .i64 y] W fun e w' => e = .returned (.int .i64 X) ∧ W = w'))
    (Y1 : Hid (∀ W, Tab W → Calls Tryd.prog 38 #[.int .i64 d, .int .i64 X, .int .i64 X] W fun e w' => e = .returned (.tuple #[.bool b1, .int .i64 0]) ∧ W = w'))
    (h1 : b1 = true ↔ D = X) :
    Calls Tryd.prog 12 #[.int .i64 a0, .int .i64 a1, .int .i64 a2] w fun e w' => e = .returned (.bool true) ∧ Below w.heap.size w w' := by
  have Y2 := Y1
  by_cases c : D = X
  · obtain rfl : b1 = true := h1.2 c
    have n2 : (D == X) = true := beq_iff_eq.2 c
    clear c h1
    go_enter Tryd.func12, Tryd.ntmps12
    go_wp2_with (first
      | (go_at_call 19; refine (awake_any _ R0.out).mono ?_; rintro e w1 ⟨rfl, hb1⟩; have R1 := Lib.hid (R0.out.below hb1); have B1 := Lib.hid hb1; clear hb1)
      | (go_at_call 33; (with_reducible refine (P0.out _).mono ?_); rintro e w' ⟨rfl, rfl⟩)
      | (go_at_call 33; (with_reducible refine (P1.out _).mono ?_); rintro e w' ⟨rfl, rfl⟩)
      | (go_at_call 33; (with_reducible refine (P2.out _).mono ?_); rintro e w' ⟨rfl, rfl⟩)
      | (go_at_call 37; (with_reducible refine (M0.out _ R1.out.tab).mono ?_); rintro e w' ⟨rfl, rfl⟩)
      | (go_at_call 37; (with_reducible refine (M1.out _ R1.out.tab).mono ?_); rintro e w' ⟨rfl, rfl⟩)
      | (go_at_call 37; (with_reducible refine (M2.out _ R1.out.tab).mono ?_); rintro e w' ⟨rfl, rfl⟩)
      | (go_at_call 38; (with_reducible refine (Y1.out _ R1.out.tab).mono ?_); rintro e w' ⟨rfl, rfl⟩)
      | (go_at_call 38; (with_reducible refine (Y2.out _ R1.out.tab).mono ?_); rintro e w' ⟨rfl, rfl⟩))
    go_ret
    exact ⟨rfl, B1.out⟩
  · obtain rfl : b1 = false := by cases b1; rfl; exact absurd (h1.1 rfl) c
    have n2 : (D == X) = false := beq_eq_false_iff_ne.2 c
    clear c h1
    go_enter Tryd.func12, Tryd.ntmps12
    go_wp2_with (first
      | (go_at_call 19; refine (awake_any _ R0.out).mono ?_; rintro e w1 ⟨rfl, hb1⟩; have R1 := Lib.hid (R0.out.below hb1); have B1 := Lib.hid hb1; clear hb1)
      | (go_at_call 33; (with_reducible refine (P0.out _).mono ?_); rintro e w' ⟨rfl, rfl⟩)
      | (go_at_call 33; (with_reducible refine (P1.out _).mono ?_); rintro e w' ⟨rfl, rfl⟩)
      | (go_at_call 33; (with_reducible refine (P2.out _).mono ?_); rintro e w' ⟨rfl, rfl⟩)
      | (go_at_call 37; (with_reducible refine (M0.out _ R1.out.tab).mono ?_); rintro e w' ⟨rfl, rfl⟩)
      | (go_at_call 37; (with_reducible refine (M1.out _ R1.out.tab).mono ?_); rintro e w' ⟨rfl, rfl⟩)
      | (go_at_call 37; (with_reducible refine (M2.out _ R1.out.tab).mono ?_); rintro e w' ⟨rfl, rfl⟩)
      | (go_at_call 38; (with_reducible refine (Y1.out _ R1.out.tab).mono ?_); rintro e w' ⟨rfl, rfl⟩)
      | (go_at_call 38; (with_reducible refine (Y2.out _ R1.out.tab).mono ?_); rintro e w' ⟨rfl, rfl⟩))
    go_ret
    exact ⟨rfl, B1.out⟩

set_option maxHeartbeats 2000000 in
theorem walk_civilYearly (a0 : Int) (w0 : (Lit.int .i64 a0).wf = true) (a1 : Int) (w1 : (Lit.int .i64 a1).wf = true) (a2 : Int) (w2 : (Lit.int .i64 a2).wf = true) (w : World) (hw : Rdy w) :
    Calls Tryd.prog 12 #[.int .i64 a0, .int .i64 a1, .int .i64 a2] w fun e w' => e = .returned (.bool true) ∧ Below w.heap.size w w' := by
  have b0 := int_bd w0
  have b1 := int_bd w1
  have b2 := int_bd w2
  clear w0 w1 w2
  have R0 := Lib.hid hw; clear hw
  obtain ⟨d, hd⟩ : ∃ d, d = a0 % 730485 := ⟨_, rfl⟩
  obtain ⟨x, hx⟩ : ∃ d, d = a1 % 730485 := ⟨_, rfl⟩
  obtain ⟨y, hy⟩ : ∃ d, d = a2 % 730485 := ⟨_, rfl⟩
  have hp : ∀ W, Calls Tryd.prog 33 #[.int .i64 a0] W fun e w' => e = .returned (.int .i64 d) ∧ W = w' := by
    intro W; rw [hd]; exact lawDay_any a0 W (by omega) (by omega)
  have hp1 : ∀ W, Calls Tryd.prog 33 #[.int .i64 a1] W fun e w' => e = .returned (.int .i64 x) ∧ W = w' := by
    intro W; rw [hx]; exact lawDay_any a1 W (by omega) (by omega)
  have hp2 : ∀ W, Calls Tryd.prog 33 #[.int .i64 a2] W fun e w' => e = .returned (.int .i64 y) ∧ W = w' := by
    intro W; rw [hy]; exact lawDay_any a2 W (by omega) (by omega)
  have d0 : 0 ≤ d := by omega
  have d1 : d ≤ 730484 := by omega
  have x0 : 0 ≤ x := by omega
  have x1 : x ≤ 730484 := by omega
  have y0 : 0 ≤ y := by omega
  have y1 : y ≤ 730484 := by omega
  clear hd hx hy b0 b1 b2
  have P0 := Lib.hid hp; clear hp
  have P1 := Lib.hid hp1; clear hp1
  have P2 := Lib.hid hp2; clear hp2
  have m0 := Lib.hid (fun W hW => mdClosure_any d W hW d0 d1)
  have m1 := Lib.hid (fun W hW => mdClosure_any x W hW x0 x1)
  have m2 := Lib.hid (fun W hW => mdClosure_any y W hW y0 y1)
  have bx := md_bd x x0 x1
  have by' := md_bd y y0 y1
  have yy := Lib.hid (fun W (hW : Tab W) => yearly_yes d (md x) (md y) W hW d0 d1 (by omega) (by omega) (by omega) (by omega) (isY_md x x0 x1) (isY_md y y0 y1))
  have yy2 := Lib.hid (fun W (hW : Tab W) => yearly_yes d (md y) (md x) W hW d0 d1 (by omega) (by omega) (by omega) (by omega) (isY_md y y0 y1) (isY_md x x0 x1))
  by_cases c : md x = md y
  · rw [← c] at m2 yy
    exact yearly_one a0 a1 a2 d x y (md x) (md d) _ w R0 (by omega) P0 P1 P2 m0 m1 m2 yy (by rw [yb_iff _ _ _ _ rfl, if_neg (by omega)]; omega)
  · exact yearly_two a0 a1 a2 d x y (md x) (md y) (md d) _ _ w R0 c (by omega) (by omega) P0 P1 P2 m0 m1 m2 yy yy2 (yb_iff _ _ _ _ rfl) (yb_iff _ _ _ _ rfl)

end Go.Proofs.YtmlniggmknjneaaDoor
