/-
  The walks of civil's small functions.
-/
import Derived.Test.YtmlniggmknjneaaDoorRows
import Derived.Test.YtmlniggmknjneaaDoorCivPlain
import Derived.WalkKit
import Derived.WalkSpells
import Derived.WalkLawsBesides
import Derived.BigQuiet
import Derived.Deep.QuietTactic
import Derived.Lib.Hide
namespace Go.Proofs.YtmlniggmknjneaaDoor
open Go.RowKit

theorem ret_int {k : IntKind} {a b : Int} (h : a = b) : Ending.returned (.int k a) = .returned (.int k b) := by rw [h]
theorem ret_two {k l : IntKind} {a b c d : Int} (h : a = c) (g : b = d) : Ending.returned (.tuple #[.int k a, .int l b]) = .returned (.tuple #[.int k c, .int l d]) := by rw [h, g]
theorem ret_bi {l : IntKind} {a c : Bool} {b d : Int} (h : a = c) (g : b = d) : Ending.returned (.tuple #[.bool a, .int l b]) = .returned (.tuple #[.bool c, .int l d]) := by rw [h, g]
theorem ret_four {k l m n : IntKind} {a b c d a' b' c' d' : Int} (h : a = a') (g : b = b') (i : c = c') (j : d = d') : Ending.returned (.tuple #[.int k a, .int l b, .int m c, .int n d]) = .returned (.tuple #[.int k a', .int l b', .int m c', .int n d']) := by rw [h, g, i, j]
theorem results_tmp4 {fn : Func} {t u v x : Tmp} (h : fn.results = #[.tmp t, .tmp u, .tmp v, .tmp x]) (tmps : Array Value) (P : Program) (w : World) :
    (results fn tmps).run P w = .ok (.tuple #[tmps.getD t undef, tmps.getD u undef, tmps.getD v undef, tmps.getD x undef]) w := by
  simp [results, h]
theorem ret_bool {a b : Bool} (h : a = b) : Ending.returned (.bool a) = .returned (.bool b) := by rw [h]

/-- the table of the days ahead of each month lies as it was laid -/
def Tab (w : World) : Prop := ∀ k : Nat, k < 13 → w.cell? ⟨0, k, none⟩ = some (.int .i64 (Cv.tab (k + 1)))
theorem Tab.at {w : World} (h : Tab w) (m : Int) (h1 : 1 ≤ m) (h2 : m ≤ 13) : w.cell? ⟨0, m.toNat - 1, none⟩ = some (.int .i64 (Cv.tab m)) := by
  have := h (m.toNat - 1) (by omega)
  rw [this, show ((m.toNat - 1 : Nat) : Int) + 1 = m from by omega]

set_option maxHeartbeats 400000 in
theorem leap_any (y : Int) (w : World) :
    Calls Tryd.prog 16 #[.int .i64 y] w fun e w' => e = .returned (.bool (Cv.leapB y)) ∧ w = w' := by
  go_enter Tryd.func16, Tryd.ntmps16
  go_wp2
  all_goals (go_ret; exact ⟨ret_bool (by simp [Cv.leapB, *]), rfl⟩)

set_option maxHeartbeats 400000 in
theorem ms_any (y m : Int) (w : World) (ht : Tab w) (h1 : 1 ≤ m) (h2 : m ≤ 13) :
    Calls Tryd.prog 42 #[.int .i64 y, .int .i64 m] w fun e w' => e = .returned (.int .i64 (Cv.ms y m)) ∧ w = w' := by
  have hc := ht.at m h1 h2
  have hb := Cv.tab_bd m
  go_enter Tryd.func42, Tryd.ntmps42
  by_cases h : 2 < m
  · go_wp2_with (go_at_call 16; refine (leap_any _ _).mono ?_; rintro e w' ⟨rfl, rfl⟩)
    all_goals (go_ret; exact ⟨ret_int (by simp [Cv.ms, Cv.lp, *]), rfl⟩)
  · go_wp2_with (go_at_call 16; refine (leap_any _ _).mono ?_; rintro e w' ⟨rfl, rfl⟩)
    all_goals (go_ret; exact ⟨ret_int (by rw [Cv.ms, if_neg (by omega)]; omega), rfl⟩)

set_option maxHeartbeats 400000 in
theorem inMonth_any (y m d : Int) (w : World) (ht : Tab w) :
    Calls Tryd.prog 41 #[.int .i64 y, .int .i64 m, .int .i64 d] w fun e w' => e = .returned (.bool (Cv.inM y m d)) ∧ w = w' := by
  by_cases h1 : m < 1
  · go_enter Tryd.func41, Tryd.ntmps41
    go_wp2
    go_ret
    exact ⟨ret_bool (by simp [Cv.inM]; omega), rfl⟩
  by_cases h2 : 12 < m
  · go_enter Tryd.func41, Tryd.ntmps41
    go_wp2
    go_ret
    exact ⟨ret_bool (by simp [Cv.inM]; omega), rfl⟩
  by_cases h3 : d < 1
  · go_enter Tryd.func41, Tryd.ntmps41
    go_wp2
    go_ret
    exact ⟨ret_bool (by simp [Cv.inM]; omega), rfl⟩
  have b1 := Cv.ms_bd y m
  have b2 := Cv.ms_bd y (m + 1)
  have hm1 : 1 ≤ m := by omega
  have hm2 : m ≤ 12 := by omega
  clear h1 h2
  go_enter Tryd.func41, Tryd.ntmps41
  go_wp2_with (go_at_call 42; refine (ms_any _ _ _ ht (by omega) (by omega)).mono ?_; rintro e w' ⟨rfl, rfl⟩)
  go_ret
  exact ⟨ret_bool (by rw [Cv.inM, decide_eq_decide]; omega), rfl⟩

/-- the error of a number that should be from 0 to a greatest one -/
def erD (n : Int) : Int := if n < 0 then 2 else if 730484 < n then 3 else 0
set_option maxHeartbeats 400000 in
theorem checkDay_any (n : Int) (w : World) :
    Calls Tryd.prog 60 #[.int .i64 n] w fun e w' => e = .returned (.int .i64 (erD n)) ∧ w = w' := by
  go_enter Tryd.func60, Tryd.ntmps60
  go_wp2
  all_goals (go_ret; exact ⟨ret_int (by unfold erD; (repeat' split) <;> omega), rfl⟩)

set_option maxHeartbeats 400000 in
theorem yearOf_any (n : Int) (w : World) (h0 : 0 ≤ n) (h1 : n ≤ 730484) :
    Calls Tryd.prog 61 #[.int .i64 n] w fun e w' => e = .returned (.tuple #[.int .i64 (Cv.yr n), .int .i64 (Cv.rs n)]) ∧ w = w' := by
  go_enter Tryd.func61, Tryd.ntmps61
  go_wp2
  all_goals (go_ret2; exact ⟨ret_two (by unfold Cv.yr; omega) (by unfold Cv.rs; omega), rfl⟩)

set_option maxHeartbeats 400000 in
theorem day_no (y m d : Int) (w : World) (ht : Tab w) (h : Cv.isD y m d = false) :
    Calls Tryd.prog 14 #[.int .i64 y, .int .i64 m, .int .i64 d] w fun e w' => e = .returned (.tuple #[.int .i64 0, .int .i64 10]) ∧ w = w' := by
  by_cases h1 : y < 2001
  · go_enter Tryd.func14, Tryd.ntmps14
    go_wp2
    go_ret2
    exact ⟨rfl, rfl⟩
  by_cases h2 : 4000 < y
  · go_enter Tryd.func14, Tryd.ntmps14
    go_wp2
    go_ret2
    exact ⟨rfl, rfl⟩
  have h3 : Cv.inM y m d = false := by
    rw [Cv.isD, decide_eq_true (by omega)] at h; simpa using h
  clear h
  go_enter Tryd.func14, Tryd.ntmps14
  go_wp2_with (go_at_call 41; refine (inMonth_any _ _ _ _ ht).mono ?_; rintro e w' ⟨rfl, rfl⟩)
  go_ret2
  exact ⟨rfl, rfl⟩

set_option maxHeartbeats 400000 in
theorem day_yes (y m d : Int) (w : World) (ht : Tab w) (h : Cv.isD y m d = true) :
    Calls Tryd.prog 14 #[.int .i64 y, .int .i64 m, .int .i64 d] w fun e w' => e = .returned (.tuple #[.int .i64 (Cv.num y m d), .int .i64 0]) ∧ w = w' := by
  have h3 : Cv.inM y m d = true := by
    rw [Cv.isD] at h; simp at h; exact h.2
  have h4 : 2001 ≤ y ∧ y ≤ 4000 := by
    rw [Cv.isD] at h; simp at h; exact h.1
  have h5 : 1 ≤ m ∧ m ≤ 12 ∧ 1 ≤ d ∧ d ≤ Cv.ms y (m + 1) - Cv.ms y m := by simpa [Cv.inM] using h3
  obtain ⟨y0, y1⟩ := h4
  obtain ⟨m0, m1, d0, d1⟩ := h5
  have b1 := Cv.ms_bd y m
  have b2 := Cv.ms_bd y (m + 1)
  clear h
  go_enter Tryd.func14, Tryd.ntmps14
  go_wp2_with (first | (go_at_call 41; refine (inMonth_any _ _ _ _ ht).mono ?_; rintro e w' ⟨rfl, rfl⟩) | (go_at_call 42; refine (ms_any _ _ _ ht (by omega) (by omega)).mono ?_; rintro e w' ⟨rfl, rfl⟩))
  go_ret2
  exact ⟨ret_two (by unfold Cv.num Cv.yd; omega) rfl, rfl⟩

set_option maxHeartbeats 400000 in
theorem date_no (n : Int) (w : World) (h : ¬ (0 ≤ n ∧ n ≤ 730484)) :
    Calls Tryd.prog 27 #[.int .i64 n] w fun e w' => e = .returned (.tuple #[.int .i64 0, .int .i64 0, .int .i64 0, .int .i64 (erD n)]) ∧ w = w' := by
  have he : (erD n != 0) = true := by unfold erD; (repeat' split) <;> simp; omega
  go_enter Tryd.func27, Tryd.ntmps27
  go_wp2_with (go_at_call 60; refine (checkDay_any _ _).mono ?_; rintro e w' ⟨rfl, rfl⟩)
  refine bodyPost_ret (results_tmp4 rfl _ _ _) rfl ?_
  exact ⟨rfl, rfl⟩

set_option maxHeartbeats 400000 in
theorem date_yes (n : Int) (w : World) (ht : Tab w) (h0 : 0 ≤ n) (h1 : n ≤ 730484) :
    Calls Tryd.prog 27 #[.int .i64 n] w fun e w' => e = .returned (.tuple #[.int .i64 (Cv.yr n), .int .i64 (Cv.mo n), .int .i64 (Cv.dm n), .int .i64 0]) ∧ w = w' := by
  have he : erD n = 0 := by unfold erD; (repeat' split) <;> omega
  have hr := (Cv.yr_rs n h0 h1).2
  have hmo : Cv.mo n = Cv.moTo (Cv.yr n) (Cv.rs n) 11 := rfl
  have hdm : Cv.dm n = Cv.rs n - Cv.ms (Cv.yr n) (Cv.mo n) + 1 := rfl
  have Hmo := Lib.hid hmo; clear hmo
  have Hdm := Lib.hid hdm; clear hdm
  obtain ⟨r0, r1, y0, y1⟩ := hr
  have r2 : Cv.rs n < 366 := by have := Cv.lp_01 (Cv.yr n); omega
  clear r1
  go_enter Tryd.func27, Tryd.ntmps27
  go_wp2_with (first | (go_at_call 60; refine (checkDay_any _ _).mono ?_; rintro e w' ⟨rfl, rfl⟩) | (go_at_call 61; refine (yearOf_any _ _ h0 h1).mono ?_; rintro e w' ⟨rfl, rfl⟩))
  go_loop [9] (fun t => ∃ k : Nat, k ≤ 11 ∧ Hid (Cv.moTo (Cv.yr n) (Cv.rs n) k = Cv.moTo (Cv.yr n) (Cv.rs n) 11) ∧ t = .int .i64 ((k : Int) + 1)) (fun t => (intOf t).toNat)
  case atStart => exact ⟨11, by omega, Lib.hid rfl, rfl⟩
  case round =>
    obtain ⟨k, hk, hm, rfl⟩ := hrel
    have mb := Cv.ms_bd (Cv.yr n) ((k : Int) + 1)
    by_cases hlt : Cv.rs n < Cv.ms (Cv.yr n) ((k : Int) + 1)
    · go_wp2_with (go_at_call 42; refine (ms_any _ _ _ ht (by omega) (by omega)).mono ?_; rintro e w' ⟨rfl, rfl⟩)
      go_round
      case rel =>
        have hk0 : k ≠ 0 := by
          rintro rfl
          rw [show ((0 : Nat) : Int) + 1 = 1 from rfl, Cv.ms_one] at hlt
          omega
        obtain ⟨j, rfl⟩ : ∃ j, k = j + 1 := ⟨k - 1, by omega⟩
        refine ⟨j, by omega, ?_, by simp⟩
        have := hm.out
        rw [Cv.moTo, if_pos (by rw [show ((j + 1 : Nat) : Int) + 1 = (j : Int) + 2 from by omega] at hlt; exact hlt)] at this
        exact this
      case measure => simp [intOf]
    · go_wp2_with (go_at_call 42; refine (ms_any _ _ _ ht (by omega) (by omega)).mono ?_; rintro e w' ⟨rfl, rfl⟩)
      have hmk : (k : Int) + 1 = Cv.mo n := by
        rw [Hmo.out, ← hm.out]
        rcases k with _ | k
        · rfl
        · rw [Cv.moTo, if_neg (by rw [show ((k : Int) + 2) = ((k + 1 : Nat) : Int) + 1 from by omega]; exact Int.not_lt.2 hlt)]; omega
      refine bodyPost_ret (results_tmp4 rfl _ _ _) rfl ?_
      exact ⟨ret_four rfl hmk (by rw [Hdm.out, ← hmk]) rfl, rfl⟩

def wdV (n : Int) : Int := if 0 ≤ n ∧ n ≤ 730484 then n % 7 else 0
set_option maxHeartbeats 400000 in
theorem weekday_any (n : Int) (w : World) :
    Calls Tryd.prog 28 #[.int .i64 n] w fun e w' => e = .returned (.tuple #[.int .i64 (wdV n), .int .i64 (erD n)]) ∧ w = w' := by
  by_cases h : 0 ≤ n ∧ n ≤ 730484
  · have he : erD n = 0 := by unfold erD; (repeat' split) <;> omega
    have H := Lib.hid h
    obtain ⟨h0, h1⟩ := h
    go_enter Tryd.func28, Tryd.ntmps28
    go_wp2_with (go_at_call 60; refine (checkDay_any _ _).mono ?_; rintro e w' ⟨rfl, rfl⟩)
    go_ret2
    exact ⟨ret_two (by rw [wdV, if_pos H.out]) he.symm, rfl⟩
  · have he : (erD n != 0) = true := by unfold erD; (repeat' split) <;> first | rfl | omega
    have H := Lib.hid h; clear h
    go_enter Tryd.func28, Tryd.ntmps28
    go_wp2_with (go_at_call 60; refine (checkDay_any _ _).mono ?_; rintro e w' ⟨rfl, rfl⟩)
    go_ret2
    exact ⟨ret_two (by rw [wdV, if_neg H.out]) rfl, rfl⟩

/-- the error of a time -/
def erT (n : Int) : Int := if n < 0 then 2 else if 1051898399 < n then 3 else 0
def erM (d m : Int) : Int := if d < 0 ∨ m < 0 ∨ 1439 < m then 2 else if 730484 < d then 3 else 0
def tmV (d m : Int) : Int := if d < 0 ∨ m < 0 ∨ 1439 < m then 0 else if 730484 < d then 0 else d * 1440 + m
def spD (n : Int) : Int := if n < 0 then 0 else if 1051898399 < n then 0 else n / 1440
def spM (n : Int) : Int := if n < 0 then 0 else if 1051898399 < n then 0 else n % 1440
set_option maxHeartbeats 400000 in
theorem time_any (d m : Int) (w : World) :
    Calls Tryd.prog 39 #[.int .i64 d, .int .i64 m] w fun e w' => e = .returned (.tuple #[.int .i64 (tmV d m), .int .i64 (erM d m)]) ∧ w = w' := by
  by_cases h1 : d < 0
  · go_enter Tryd.func39, Tryd.ntmps39
    go_wp2
    go_ret2
    exact ⟨ret_two (by rw [tmV, if_pos (by omega)]) (by rw [erM, if_pos (by omega)]), rfl⟩
  by_cases h2 : m < 0
  · go_enter Tryd.func39, Tryd.ntmps39
    go_wp2
    go_ret2
    exact ⟨ret_two (by rw [tmV, if_pos (by omega)]) (by rw [erM, if_pos (by omega)]), rfl⟩
  by_cases h3 : 1439 < m
  · go_enter Tryd.func39, Tryd.ntmps39
    go_wp2
    go_ret2
    exact ⟨ret_two (by rw [tmV, if_pos (by omega)]) (by rw [erM, if_pos (by omega)]), rfl⟩
  by_cases h4 : 730484 < d
  · go_enter Tryd.func39, Tryd.ntmps39
    go_wp2
    go_ret2
    exact ⟨ret_two (by rw [tmV, if_neg (by omega), if_pos h4]) (by rw [erM, if_neg (by omega), if_pos h4]), rfl⟩
  · go_enter Tryd.func39, Tryd.ntmps39
    go_wp2
    go_ret2
    exact ⟨ret_two (by rw [tmV, if_neg (by omega), if_neg (by omega)]) (by rw [erM, if_neg (by omega), if_neg (by omega)]), rfl⟩

theorem ret_three {k l m : IntKind} {a b c a' b' c' : Int} (h : a = a') (g : b = b') (i : c = c') : Ending.returned (.tuple #[.int k a, .int l b, .int m c]) = .returned (.tuple #[.int k a', .int l b', .int m c']) := by rw [h, g, i]
set_option maxHeartbeats 400000 in
theorem split_any (n : Int) (w : World) :
    Calls Tryd.prog 30 #[.int .i64 n] w fun e w' => e = .returned (.tuple #[.int .i64 (spD n), .int .i64 (spM n), .int .i64 (erT n)]) ∧ w = w' := by
  by_cases h1 : n < 0
  · go_enter Tryd.func30, Tryd.ntmps30
    go_wp2
    go_ret3
    exact ⟨ret_three (by rw [spD, if_pos (by omega)]) (by rw [spM, if_pos (by omega)]) (by rw [erT, if_pos (by omega)]), rfl⟩
  by_cases h2 : 1051898399 < n
  · go_enter Tryd.func30, Tryd.ntmps30
    go_wp2
    go_ret3
    exact ⟨ret_three (by rw [spD, if_neg (by omega), if_pos (by omega)]) (by rw [spM, if_neg (by omega), if_pos (by omega)]) (by rw [erT, if_neg (by omega), if_pos (by omega)]), rfl⟩
  · go_enter Tryd.func30, Tryd.ntmps30
    go_wp2
    go_ret3
    exact ⟨ret_three (by rw [spD, if_neg (by omega), if_neg (by omega)]) (by rw [spM, if_neg (by omega), if_neg (by omega)]) (by rw [erT, if_neg (by omega), if_neg (by omega)]), rfl⟩

/-- is it a day of the year? -/
def isY (n : Int) : Bool := Cv.inM 2004 (n.tdiv 100) (n.tmod 100)
set_option maxHeartbeats 400000 in
theorem inYear_any (n : Int) (w : World) (ht : Tab w) (h0 : -9223372036854775808 ≤ n) (h1 : n ≤ 9223372036854775807) :
    Calls Tryd.prog 67 #[.int .i64 n] w fun e w' => e = .returned (.bool (isY n)) ∧ w = w' := by
  go_enter Tryd.func67, Tryd.ntmps67
  go_wp2_with (go_at_call 41; refine (inMonth_any _ _ _ _ ht).mono ?_; rintro e w' ⟨rfl, rfl⟩)
  go_ret
  exact ⟨rfl, rfl⟩

/-- a day's number of the year -/
def md (n : Int) : Int := 100 * Cv.mo n + Cv.dm n
def yearlyB (n a b : Int) : Bool := if b < a then decide (a ≤ md n) || decide (md n ≤ b) else decide (a ≤ md n) && decide (md n ≤ b)
theorem dm_bd (n : Int) (h0 : 0 ≤ n) (h1 : n ≤ 730484) : 1 ≤ Cv.mo n ∧ Cv.mo n ≤ 12 ∧ 1 ≤ Cv.dm n ∧ Cv.dm n ≤ 31 := by
  have h := (Cv.date_is n h0 h1).1
  unfold Cv.isD Cv.inM at h
  simp only [Bool.and_eq_true, decide_eq_true_eq] at h
  have := Cv.ms_step (Cv.yr n) (Cv.mo n) h.2.1 h.2.2.1
  omega
set_option maxHeartbeats 400000 in
theorem yearly_no (n a b : Int) (w : World) (h : ¬ (0 ≤ n ∧ n ≤ 730484)) :
    Calls Tryd.prog 38 #[.int .i64 n, .int .i64 a, .int .i64 b] w fun e w' => e = .returned (.tuple #[.bool false, .int .i64 (erD n)]) ∧ w = w' := by
  have he : (erD n != 0) = true := by unfold erD; (repeat' split) <;> first | rfl | omega
  have H := Lib.hid h; clear h
  go_enter Tryd.func38, Tryd.ntmps38
  go_wp2_with (go_at_call 27; refine (date_no _ _ H.out).mono ?_; rintro e w' ⟨rfl, rfl⟩)
  go_ret2
  exact ⟨rfl, rfl⟩
set_option maxHeartbeats 400000 in
theorem yearly_noY (n a b : Int) (w : World) (ht : Tab w) (h0 : 0 ≤ n) (h1 : n ≤ 730484) (a0 : -9223372036854775808 ≤ a) (a1 : a ≤ 9223372036854775807) (b0 : -9223372036854775808 ≤ b) (b1 : b ≤ 9223372036854775807)
    (h : (isY a && isY b) = false) :
    Calls Tryd.prog 38 #[.int .i64 n, .int .i64 a, .int .i64 b] w fun e w' => e = .returned (.tuple #[.bool false, .int .i64 10]) ∧ w = w' := by
  by_cases ha : isY a = true
  · have hb : isY b = false := by rw [ha] at h; simpa using h
    clear h
    go_enter Tryd.func38, Tryd.ntmps38
    go_wp2_with (first | (go_at_call 27; refine (date_yes _ _ ht h0 h1).mono ?_; rintro e w' ⟨rfl, rfl⟩) | (go_at_call 67; refine (inYear_any _ _ ht (by omega) (by omega)).mono ?_; rintro e w' ⟨rfl, rfl⟩))
    go_ret2
    exact ⟨rfl, rfl⟩
  · have ha : isY a = false := by simpa using ha
    clear h
    go_enter Tryd.func38, Tryd.ntmps38
    go_wp2_with (first | (go_at_call 27; refine (date_yes _ _ ht h0 h1).mono ?_; rintro e w' ⟨rfl, rfl⟩) | (go_at_call 67; refine (inYear_any _ _ ht (by omega) (by omega)).mono ?_; rintro e w' ⟨rfl, rfl⟩))
    go_ret2
    exact ⟨rfl, rfl⟩
set_option maxHeartbeats 400000 in
theorem yearly_yes (n a b : Int) (w : World) (ht : Tab w) (h0 : 0 ≤ n) (h1 : n ≤ 730484) (a0 : -9223372036854775808 ≤ a) (a1 : a ≤ 9223372036854775807) (b0 : -9223372036854775808 ≤ b) (b1 : b ≤ 9223372036854775807)
    (ha : isY a = true) (hb : isY b = true) :
    Calls Tryd.prog 38 #[.int .i64 n, .int .i64 a, .int .i64 b] w fun e w' => e = .returned (.tuple #[.bool (yearlyB n a b), .int .i64 0]) ∧ w = w' := by
  have bd := dm_bd n h0 h1
  by_cases hab : b < a
  all_goals
    by_cases c1 : a ≤ 100 * Cv.mo n + Cv.dm n
    all_goals
      by_cases c2 : 100 * Cv.mo n + Cv.dm n ≤ b
      all_goals
        go_enter Tryd.func38, Tryd.ntmps38
        go_wp2_with (first | (go_at_call 27; refine (date_yes _ _ ht h0 h1).mono ?_; rintro e w' ⟨rfl, rfl⟩) | (go_at_call 67; refine (inYear_any _ _ ht (by omega) (by omega)).mono ?_; rintro e w' ⟨rfl, rfl⟩))
        all_goals
          go_ret2
          exact ⟨ret_bi (by rw [Bool.eq_iff_iff]; unfold yearlyB md; split <;> simp <;> omega) rfl, rfl⟩

set_option maxHeartbeats 400000 in
theorem pick_any (x n : Int) (w : World) (h : 1 ≤ n) (h' : n ≤ 9223372036854775807) :
    Calls Tryd.prog 26 #[.int .i64 x, .int .i64 n] w fun e w' => e = .returned (.int .i64 (x % n)) ∧ w = w' := by
  have t1 : x.tmod n < n := Int.tmod_lt_of_pos _ (by omega)
  have t2 : -n < x.tmod n := by
    have := Int.tmod_lt_of_pos (-x) (b := n) (by omega)
    rw [Int.neg_tmod] at this
    omega
  have t3 : x.tmod n < 0 → x % n = x.tmod n + n := by
    intro ht
    have e1 := Int.mul_tdiv_add_tmod x n
    have e2 : x % n = (x.tmod n + n) % n := by
      rw [show x % n = (n * x.tdiv n + x.tmod n) % n from by rw [e1]]
      rw [Int.mul_add_emod_self_left, Int.add_emod_right]
    rw [e2, Int.emod_eq_of_lt (by omega) (by omega)]
  have t4 : 0 ≤ x.tmod n → x % n = x.tmod n := by
    intro ht
    have e1 := Int.mul_tdiv_add_tmod x n
    have e2 : x % n = (x.tmod n) % n := by
      rw [show x % n = (n * x.tdiv n + x.tmod n) % n from by rw [e1]]
      rw [Int.mul_add_emod_self_left]
    rw [e2, Int.emod_eq_of_lt ht t1]
  have T3 := Lib.hid t3; clear t3
  have T4 := Lib.hid t4; clear t4
  go_enter Tryd.func26, Tryd.ntmps26
  go_wp2
  · go_ret
    exact ⟨ret_int (T3.out ‹_›).symm, rfl⟩
  · go_ret
    exact ⟨ret_int (T4.out ‹_›).symm, rfl⟩

end Go.Proofs.YtmlniggmknjneaaDoor
