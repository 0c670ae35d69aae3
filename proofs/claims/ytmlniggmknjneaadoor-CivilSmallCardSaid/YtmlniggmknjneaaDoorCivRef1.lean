/-
  The walks of the reference implementation of dates: they answer what civil's functions answer.
-/
import Derived.Test.YtmlniggmknjneaaDoorCivOrder
import Derived.Test.YtmlniggmknjneaaDoorCivWrites
import Derived.Laws.NewBlocks
namespace Go.Proofs.YtmlniggmknjneaaDoor
open Go.RowKit
set_option linter.unusedVariables false

set_option maxHeartbeats 400000 in
theorem rLeap_any (y : Int) (w : World) :
    Calls Tryd.prog 17 #[.int .i64 y] w fun e w' => e = .returned (.bool (Cv.leapB y)) ∧ w = w' := by
  have h4 : y.tmod 400 = 0 → y.tmod 4 = 0 ∧ y.tmod 100 = 0 := by
    intro h
    have d := Int.dvd_of_tmod_eq_zero h
    exact ⟨Int.tmod_eq_zero_of_dvd (Int.dvd_trans (by decide) d), Int.tmod_eq_zero_of_dvd (Int.dvd_trans (by decide) d)⟩
  have H4 := Lib.hid h4; clear h4
  go_enter Tryd.func17, Tryd.ntmps17
  go_wp2
  all_goals
    go_ret
    refine ⟨ret_bool ?_, rfl⟩
    have := H4.out
    rw [Bool.eq_iff_iff]
    simp [Cv.leapB]
    try omega

/-- how long a month is -/
theorem long_is (y m : Int) (h1 : 1 ≤ m) (h2 : m ≤ 12) : Cv.ms y (m + 1) - Cv.ms y m = if m = 2 then 28 + Cv.lp y else if m = 4 ∨ m = 6 ∨ m = 9 ∨ m = 11 then 30 else 31 := by
  have hm : m = 1 ∨ m = 2 ∨ m = 3 ∨ m = 4 ∨ m = 5 ∨ m = 6 ∨ m = 7 ∨ m = 8 ∨ m = 9 ∨ m = 10 ∨ m = 11 ∨ m = 12 := by omega
  rcases hm with rfl | rfl | rfl | rfl | rfl | rfl | rfl | rfl | rfl | rfl | rfl | rfl <;> simp [Cv.ms, Cv.tab] <;> omega
set_option maxHeartbeats 400000 in
theorem rLong_any (y m : Int) (w : World) (h1 : 1 ≤ m) (h2 : m ≤ 12) :
    Calls Tryd.prog 44 #[.int .i64 y, .int .i64 m] w fun e w' => e = .returned (.int .i64 (Cv.ms y (m + 1) - Cv.ms y m)) ∧ w = w' := by
  have hl := long_is y m h1 h2
  generalize Cv.ms y (m + 1) - Cv.ms y m = L at *
  have HL := Lib.hid hl; clear hl
  have hm : m = 1 ∨ m = 2 ∨ m = 3 ∨ m = 4 ∨ m = 5 ∨ m = 6 ∨ m = 7 ∨ m = 8 ∨ m = 9 ∨ m = 10 ∨ m = 11 ∨ m = 12 := by omega
  rcases hm with rfl | rfl | rfl | rfl | rfl | rfl | rfl | rfl | rfl | rfl | rfl | rfl
  all_goals
    clear h1 h2
    go_enter Tryd.func44, Tryd.ntmps44
    go_wp2_with (go_at_call 17; refine (rLeap_any _ _).mono ?_; rintro e w' ⟨rfl, rfl⟩)
    all_goals
      go_ret
      exact ⟨ret_int (by rw [HL.out]; simp [Cv.lp, *]), rfl⟩

set_option maxHeartbeats 400000 in
theorem rIsD_any (y m d : Int) (w : World) :
    Calls Tryd.prog 43 #[.int .i64 y, .int .i64 m, .int .i64 d] w fun e w' => e = .returned (.bool (Cv.isD y m d)) ∧ w = w' := by
  have hd : Cv.isD y m d = true ↔ (2001 ≤ y ∧ y ≤ 4000) ∧ 1 ≤ m ∧ m ≤ 12 ∧ 1 ≤ d ∧ d ≤ Cv.ms y (m + 1) - Cv.ms y m := by
    unfold Cv.isD Cv.inM; simp only [Bool.and_eq_true, decide_eq_true_eq]
  have HD := Lib.hid hd; clear hd
  go_enter Tryd.func43, Tryd.ntmps43
  by_cases c1 : 1 ≤ m ∧ m ≤ 12
  · obtain ⟨m0, m1⟩ := c1
    go_wp2_with (go_at_call 44; refine (rLong_any _ _ _ m0 m1).mono ?_; rintro e w' ⟨rfl, rfl⟩)
    all_goals
      go_ret
      exact ⟨ret_bool (by rw [Bool.eq_iff_iff, HD.out]; simp; try omega), rfl⟩
  · by_cases c2 : 1 ≤ m
    · have c3 : 12 < m := by omega
      clear c1
      go_wp2
      all_goals
        go_ret
        exact ⟨ret_bool (by rw [Bool.eq_iff_iff, HD.out]; simp; try omega), rfl⟩
    · clear c1
      go_wp2
      all_goals
        go_ret
        exact ⟨ret_bool (by rw [Bool.eq_iff_iff, HD.out]; simp; try omega), rfl⟩

/-- the error of a number that should be from 0 to a greatest one -/
def erW (n k : Int) : Int := if n < 0 then 2 else if k < n then 3 else 0
set_option maxHeartbeats 400000 in
theorem rWithin_any (n k : Int) (w : World) :
    Calls Tryd.prog 68 #[.int .i64 n, .int .i64 k] w fun e w' => e = .returned (.int .i64 (erW n k)) ∧ w = w' := by
  go_enter Tryd.func68, Tryd.ntmps68
  go_wp2
  all_goals (go_ret; exact ⟨ret_int (by unfold erW; (repeat' split) <;> omega), rfl⟩)
theorem erW_D (n : Int) : erW n 730484 = erD n := rfl
theorem erW_T (n : Int) : erW n 1051898399 = erT n := rfl

set_option maxHeartbeats 400000 in
theorem rWeekday_any (n : Int) (w : World) :
    Calls Tryd.prog 46 #[.int .i64 n] w fun e w' => e = .returned (.tuple #[.int .i64 (wdV n), .int .i64 (erD n)]) ∧ w = w' := by
  by_cases h : 0 ≤ n ∧ n ≤ 730484
  · have he : erW n 730484 = 0 := by unfold erW; (repeat' split) <;> omega
    have he2 : erD n = 0 := by unfold erD; (repeat' split) <;> omega
    have H := Lib.hid h
    have HE := Lib.hid he2; clear he2
    obtain ⟨h0, h1⟩ := h
    go_enter Tryd.func46, Tryd.ntmps46
    go_wp2_with (go_at_call 68; refine (rWithin_any _ _ _).mono ?_; rintro e w' ⟨rfl, rfl⟩)
    go_ret2
    exact ⟨ret_two (by rw [wdV, if_pos H.out]) HE.out.symm, rfl⟩
  · have he : (erW n 730484 != 0) = true := by unfold erW; (repeat' split) <;> first | rfl | omega
    have H := Lib.hid h; clear h
    go_enter Tryd.func46, Tryd.ntmps46
    go_wp2_with (go_at_call 68; refine (rWithin_any _ _ _).mono ?_; rintro e w' ⟨rfl, rfl⟩)
    go_ret2
    exact ⟨ret_two (by rw [wdV, if_neg H.out]) (erW_D n), rfl⟩
set_option maxHeartbeats 400000 in
theorem rTime_any (d m : Int) (w : World) :
    Calls Tryd.prog 48 #[.int .i64 d, .int .i64 m] w fun e w' => e = .returned (.tuple #[.int .i64 (tmV d m), .int .i64 (erM d m)]) ∧ w = w' := by
  by_cases h1 : d < 0
  · go_enter Tryd.func48, Tryd.ntmps48
    go_wp2
    go_ret2
    exact ⟨ret_two (by rw [tmV, if_pos (by omega)]) (by rw [erM, if_pos (by omega)]), rfl⟩
  by_cases h2 : m < 0
  · go_enter Tryd.func48, Tryd.ntmps48
    go_wp2
    go_ret2
    exact ⟨ret_two (by rw [tmV, if_pos (by omega)]) (by rw [erM, if_pos (by omega)]), rfl⟩
  by_cases h3 : 1439 < m
  · go_enter Tryd.func48, Tryd.ntmps48
    go_wp2
    go_ret2
    exact ⟨ret_two (by rw [tmV, if_pos (by omega)]) (by rw [erM, if_pos (by omega)]), rfl⟩
  by_cases h4 : 730484 < d
  · go_enter Tryd.func48, Tryd.ntmps48
    go_wp2
    go_ret2
    exact ⟨ret_two (by rw [tmV, if_neg (by omega), if_pos h4]) (by rw [erM, if_neg (by omega), if_pos h4]), rfl⟩
  · go_enter Tryd.func48, Tryd.ntmps48
    go_wp2
    go_ret2
    exact ⟨ret_two (by rw [tmV, if_neg (by omega), if_neg (by omega)]; omega) (by rw [erM, if_neg (by omega), if_neg (by omega)]), rfl⟩
set_option maxHeartbeats 400000 in
theorem rSplit_any (n : Int) (w : World) :
    Calls Tryd.prog 70 #[.int .i64 n] w fun e w' => e = .returned (.tuple #[.int .i64 (spD n), .int .i64 (spM n), .int .i64 (erT n)]) ∧ w = w' := by
  by_cases h : 0 ≤ n ∧ n ≤ 1051898399
  · have he : erW n 1051898399 = 0 := by unfold erW; (repeat' split) <;> omega
    obtain ⟨h0, h1⟩ := h
    go_enter Tryd.func70, Tryd.ntmps70
    go_wp2_with (go_at_call 68; refine (rWithin_any _ _ _).mono ?_; rintro e w' ⟨rfl, rfl⟩)
    go_ret3
    exact ⟨ret_three (by rw [spD, if_neg (by omega), if_neg (by omega)]) (by rw [spM, if_neg (by omega), if_neg (by omega)]) (by rw [erT, if_neg (by omega), if_neg (by omega)]), rfl⟩
  · have he : (erW n 1051898399 != 0) = true := by unfold erW; (repeat' split) <;> first | rfl | omega
    have e1 : spD n = 0 := by unfold spD; (repeat' split) <;> omega
    have e2 : spM n = 0 := by unfold spM; (repeat' split) <;> omega
    have E1 := Lib.hid e1; clear e1
    have E2 := Lib.hid e2; clear e2
    clear h
    go_enter Tryd.func70, Tryd.ntmps70
    go_wp2_with (go_at_call 68; refine (rWithin_any _ _ _).mono ?_; rintro e w' ⟨rfl, rfl⟩)
    go_ret3
    exact ⟨ret_three E1.out.symm E2.out.symm (erW_T n), rfl⟩

end Go.Proofs.YtmlniggmknjneaaDoor
