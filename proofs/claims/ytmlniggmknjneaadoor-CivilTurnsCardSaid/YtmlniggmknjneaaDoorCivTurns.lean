/-
  The walk of the law CivilTurns.
-/
import Derived.Test.YtmlniggmknjneaaDoorCivRdy
namespace Go.Proofs.YtmlniggmknjneaaDoor
open Go.RowKit
set_option linter.unusedVariables false

theorem leapB_400 (y : Int) (h : 0 ≤ y) : Cv.leapB (y + 400) = Cv.leapB y := by
  rw [Bool.eq_iff_iff, Cv.leapB_iff _ h, Cv.leapB_iff _ (by omega)]; omega
theorem ms_400 (y m : Int) (h : 0 ≤ y) : Cv.ms (y + 400) m = Cv.ms y m := by
  unfold Cv.ms Cv.lp; rw [leapB_400 y h]
theorem moTo_400 (y r : Int) (h : 0 ≤ y) (k : Nat) : Cv.moTo (y + 400) r k = Cv.moTo y r k := by
  induction k with
  | zero => rfl
  | succ k ih => simp only [Cv.moTo, ms_400 y _ h, ih]
theorem cycle (d : Int) (h0 : 0 ≤ d) (h1 : d ≤ 584387) : Cv.yr (d + 146097) = Cv.yr d + 400 ∧ Cv.mo (d + 146097) = Cv.mo d ∧ Cv.dm (d + 146097) = Cv.dm d := by
  have e1 : (d + 146097) / 146097 = d / 146097 + 1 := by omega
  have e2 : (d + 146097) % 146097 = d % 146097 := by omega
  have hy : Cv.yr (d + 146097) = Cv.yr d + 400 := by unfold Cv.yr; rw [e1, e2]; omega
  have hr : Cv.rs (d + 146097) = Cv.rs d := by unfold Cv.rs; rw [e2]
  have y0 := (Cv.yr_rs d h0 (by omega)).2.2.2.1
  have hm : Cv.mo (d + 146097) = Cv.mo d := by unfold Cv.mo; rw [hy, hr, moTo_400 _ _ (by omega)]
  exact ⟨hy, hm, by unfold Cv.dm; rw [hm, hr, hy, ms_400 _ _ (by omega)]⟩

theorem weekday_in (n : Int) (W : World) (h0 : 0 ≤ n) (h1 : n ≤ 730484) : Calls Tryd.prog 28 #[.int .i64 n] W fun e w' => e = .returned (.tuple #[.int .i64 (n % 7), .int .i64 0]) ∧ W = w' := by
  refine (weekday_any n W).mono fun e w' x => ⟨?_, x.2⟩
  rw [x.1]
  exact ret_two (by rw [wdV, if_pos ⟨h0, h1⟩]) (by unfold erD; (repeat' split) <;> omega)

set_option maxHeartbeats 2000000 in
theorem walk_civilTurns (a0 : Int) (w0 : (Lit.int .i64 a0).wf = true) (w : World) (hw : Rdy w) :
    Calls Tryd.prog 8 #[.int .i64 a0] w fun e w' => e = .returned (.bool true) ∧ Below w.heap.size w w' := by
  have b := int_bd w0
  clear w0
  have R0 := Lib.hid hw; clear hw
  obtain ⟨d, hd⟩ : ∃ d, d = a0 % 584388 := ⟨_, rfl⟩
  have d0 : 0 ≤ d := by omega
  have d1 : d ≤ 584387 := by omega
  have hp : ∀ W, Calls Tryd.prog 26 #[.int .i64 a0, .int .i64 584388] W fun e w' => e = .returned (.int .i64 d) ∧ W = w' := by
    intro W; rw [hd]; exact pick_any a0 584388 W (by omega) (by omega)
  have HP := Lib.hid hp; clear hp hd
  have hd1 : ∀ W, Tab W → Calls Tryd.prog 27 #[.int .i64 d] W fun e w' => e = .returned (.tuple #[.int .i64 (Cv.yr d), .int .i64 (Cv.mo d), .int .i64 (Cv.dm d), .int .i64 0]) ∧ W = w' := fun W hW => date_yes d W hW d0 (by omega)
  have hd2 : ∀ W, Tab W → Calls Tryd.prog 27 #[.int .i64 (d + 146097)] W fun e w' => e = .returned (.tuple #[.int .i64 (Cv.yr (d + 146097)), .int .i64 (Cv.mo (d + 146097)), .int .i64 (Cv.dm (d + 146097)), .int .i64 0]) ∧ W = w' := fun W hW => date_yes (d + 146097) W hW (by omega) (by omega)
  obtain ⟨e1, e2, e3⟩ := cycle d d0 d1
  rw [e1, e2, e3] at hd2
  clear e1 e2 e3
  have y0 := (Cv.yr_rs d d0 (by omega)).2.2.2
  have hl1 : ∀ W, Calls Tryd.prog 16 #[.int .i64 (Cv.yr d)] W fun e w' => e = .returned (.bool (Cv.leapB (Cv.yr d))) ∧ W = w' := fun W => leap_any _ W
  have hl2 : ∀ W, Calls Tryd.prog 16 #[.int .i64 (Cv.yr d + 400)] W fun e w' => e = .returned (.bool (Cv.leapB (Cv.yr d))) ∧ W = w' := by
    intro W; rw [← leapB_400 _ (by omega)]; exact leap_any _ W
  generalize Cv.leapB (Cv.yr d) = lb at *
  generalize Cv.yr d = y at *
  generalize Cv.mo d = m at *
  generalize Cv.dm d = k at *
  have H1 := Lib.hid hd1; clear hd1
  have H3 := Lib.hid hd2; clear hd2
  have L1 := Lib.hid hl1; clear hl1
  have L2 := Lib.hid hl2; clear hl2
  go_enter Tryd.func8, Tryd.ntmps8
  go_wp2_with (first
    | (go_at_call 19; refine (awake_any _ R0.out).mono ?_; rintro e w1 ⟨rfl, hb1⟩; have R1 := Lib.hid (R0.out.below hb1); have B1 := Lib.hid hb1; clear hb1)
    | (go_at_call 26; refine (HP.out _).mono ?_; rintro e w' ⟨rfl, rfl⟩)
    | (go_at_call 27; (with_reducible refine (H1.out _ R1.out.tab).mono ?_); rintro e w' ⟨rfl, rfl⟩)
    | (go_at_call 27; (with_reducible refine (H3.out _ R1.out.tab).mono ?_); rintro e w' ⟨rfl, rfl⟩)
    | (go_at_call 28; refine (weekday_in _ _ (by omega) (by omega)).mono ?_; rintro e w' ⟨rfl, rfl⟩)
    | (go_at_call 16; (with_reducible refine (L1.out _).mono ?_); rintro e w' ⟨rfl, rfl⟩)
    | (go_at_call 16; (with_reducible refine (L2.out _).mono ?_); rintro e w' ⟨rfl, rfl⟩))
  go_ret
  exact ⟨rfl, B1.out⟩

end Go.Proofs.YtmlniggmknjneaaDoor
