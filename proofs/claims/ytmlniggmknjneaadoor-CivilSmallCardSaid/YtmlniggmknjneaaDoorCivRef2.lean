/-
  The walks of the reference implementation of dates: dates of days, days of dates.
-/
import Derived.Test.YtmlniggmknjneaaDoorCivRef1
namespace Go.Proofs.YtmlniggmknjneaaDoor
open Go.RowKit
set_option linter.unusedVariables false

set_option maxHeartbeats 400000 in
theorem rDate_no (n : Int) (w : World) (h : ¬ (0 ≤ n ∧ n ≤ 730484)) :
    Calls Tryd.prog 45 #[.int .i64 n] w fun e w' => e = .returned (.tuple #[.int .i64 0, .int .i64 0, .int .i64 0, .int .i64 (erD n)]) ∧ w = w' := by
  have he : (erW n 730484 != 0) = true := by unfold erW; (repeat' split) <;> first | rfl | omega
  clear h
  go_enter Tryd.func45, Tryd.ntmps45
  go_wp2_with (go_at_call 68; refine (rWithin_any _ _ _).mono ?_; rintro e w' ⟨rfl, rfl⟩)
  refine bodyPost_ret (results_tmp4 rfl _ _ _) rfl ?_
  exact ⟨ret_four rfl rfl rfl (erW_D n), rfl⟩

/-- the date that a year, a month and a rest of days tell -/
theorem date_from (n y m r : Int) (hn : n = Cv.yd y + Cv.ms y m + r) (y0 : 2001 ≤ y) (y1 : y ≤ 4000) (m0 : 1 ≤ m) (m1 : m ≤ 12) (r0 : 0 ≤ r) (r1 : r < Cv.ms y (m + 1) - Cv.ms y m) :
    y = Cv.yr n ∧ m = Cv.mo n ∧ r + 1 = Cv.dm n := by
  have hi : Cv.isD y m (r + 1) = true := by
    unfold Cv.isD Cv.inM
    simp only [Bool.and_eq_true, decide_eq_true_eq]
    omega
  have hd := Cv.date_of y m (r + 1) hi
  rw [show Cv.num y m (r + 1) = n by unfold Cv.num; omega] at hd
  exact ⟨hd.1.symm, hd.2.1.symm, hd.2.2.symm⟩

set_option maxHeartbeats 1000000 in
theorem rDate_yes (n : Int) (w : World) (h0 : 0 ≤ n) (h1 : n ≤ 730484) :
    Calls Tryd.prog 45 #[.int .i64 n] w fun e w' => e = .returned (.tuple #[.int .i64 (Cv.yr n), .int .i64 (Cv.mo n), .int .i64 (Cv.dm n), .int .i64 0]) ∧ w = w' := by
  have he : erW n 730484 = 0 := by unfold erW; (repeat' split) <;> omega
  have hf := fun y m r a b c d e f g => date_from n y m r a b c d e f g
  have HF := Lib.hid hf; clear hf
  have hy := Cv.yd_4001
  have hy1 := Cv.yd_2001
  have HY := Lib.hid hy; clear hy
  have HY1 := Lib.hid hy1; clear hy1
  generalize Cv.yr n = Y at *
  generalize Cv.mo n = M at *
  generalize Cv.dm n = D at *
  go_enter Tryd.func45, Tryd.ntmps45
  go_wp2_with (go_at_call 68; refine (rWithin_any _ _ _).mono ?_; rintro e w' ⟨rfl, rfl⟩)
  go_loop [0, 7] (fun s t => ∃ r y : Int, s = .int .i64 r ∧ t = .int .i64 y ∧ 0 ≤ r ∧ r ≤ n ∧ 2001 ≤ y ∧ y ≤ 4000 ∧ Hid (n = Cv.yd y + r)) (fun s t => (4001 - intOf t).toNat)
  case atStart => exact ⟨n, 2001, rfl, rfl, h0, by omega, by omega, by omega, by unfold Hid; have := HY1.out; omega⟩
  case round =>
    obtain ⟨r, y, rfl, rfl, r0, r1, y0, y1, hn⟩ := hrel
    have hs := Cv.yd_step y y0
    have Hs := Lib.hid hs; clear hs
    have hy4 : Cv.yd y + r < 730485 := by have := hn.out; omega
    have HY4 := Lib.hid hy4; clear hy4
    have hm1 : 365 + Cv.lp y ≤ r → y + 1 ≤ 4000 := by
      intro hlt
      have a1 := HY4.out
      have a2 := Hs.out
      rcases Int.lt_or_le y 4000 with c | c
      · omega
      · have a3 := HY.out
        have : y + 1 = 4001 := by omega
        rw [this] at a2; omega
    have HM1 := Lib.hid hm1; clear hm1
    have hlp : Cv.lp y = if Cv.leapB y = true then 1 else 0 := rfl
    by_cases hl : Cv.leapB y = true
    · have HLP := Lib.hid (hlp.trans (if_pos hl))
      clear hlp
      by_cases hlt : 366 ≤ r
      · have HN := Lib.hid (show n = Cv.yd (y + 1) + (r - 366) by have := hn.out; have := Hs.out; have := HLP.out; omega)
        have hy5 : y + 1 ≤ 4000 := HM1.out (by have := HLP.out; omega)
        go_wp2_with (go_at_call 17; refine (rLeap_any _ _).mono ?_; rintro e w' ⟨rfl, rfl⟩)
        go_round
        case rel => exact ⟨r - 366, y + 1, rfl, rfl, by omega, by omega, by omega, hy5, HN.out⟩
        case measure => simp [intOf]; omega
      · have hr1 : r < 366 := by omega
        clear hlt
        have HR := Lib.hid (show r < Cv.ms y 13 by rw [Cv.ms_13]; have := HLP.out; omega)
        go_wp2_with (go_at_call 17; refine (rLeap_any _ _).mono ?_; rintro e w' ⟨rfl, rfl⟩)
        go_loop [0, 8] (fun s t => ∃ q m : Int, s = .int .i64 q ∧ t = .int .i64 m ∧ 0 ≤ q ∧ q ≤ 366 ∧ 1 ≤ m ∧ m ≤ 12 ∧ Hid (r = Cv.ms y m + q)) (fun s t => (12 - intOf t).toNat)
        case atStart => exact ⟨r, 1, rfl, rfl, r0, by omega, by omega, by omega, by unfold Hid; rw [Cv.ms_one]; omega⟩
        case round =>
          obtain ⟨q, m, rfl, rfl, q0, q1, m0, m1, hq⟩ := hrel
          have st := Cv.ms_step y m m0 m1
          by_cases hlt2 : Cv.ms y (m + 1) - Cv.ms y m ≤ q
          · have hm11 : m ≤ 11 := by
              rcases Int.lt_or_le m 12 with c | c
              · omega
              · have e12 : m = 12 := by omega
                have h1 := hq.out
                have h2 := HR.out
                rw [e12] at h1 hlt2
                rw [show (12 : Int) + 1 = 13 from rfl] at hlt2
                omega
            have HQ := Lib.hid (show r = Cv.ms y (m + 1) + (q - (Cv.ms y (m + 1) - Cv.ms y m)) by have := hq.out; omega)
            go_wp2_with (go_at_call 44; refine (rLong_any _ _ _ m0 m1).mono ?_; rintro e w' ⟨rfl, rfl⟩)
            go_round
            case rel => exact ⟨_, m + 1, rfl, rfl, by omega, by omega, by omega, by omega, HQ.out⟩
            case measure => simp [intOf]; omega
          · have HFF := Lib.hid (HF.out y m q (by have := hq.out; have := hn.out; omega) y0 y1 m0 m1 q0 (by omega))
            go_wp2_with (go_at_call 44; refine (rLong_any _ _ _ m0 m1).mono ?_; rintro e w' ⟨rfl, rfl⟩)
            refine bodyPost_ret (results_tmp4 rfl _ _ _) rfl ?_
            exact ⟨ret_four HFF.out.1 HFF.out.2.1 HFF.out.2.2 rfl, rfl⟩
    · have hl : Cv.leapB y = false := by simpa using hl
      have HLP := Lib.hid (hlp.trans (if_neg (by simp [hl])))
      clear hlp
      by_cases hlt : 365 ≤ r
      · have HN := Lib.hid (show n = Cv.yd (y + 1) + (r - 365) by have := hn.out; have := Hs.out; have := HLP.out; omega)
        have hy5 : y + 1 ≤ 4000 := HM1.out (by have := HLP.out; omega)
        go_wp2_with (go_at_call 17; refine (rLeap_any _ _).mono ?_; rintro e w' ⟨rfl, rfl⟩)
        go_round
        case rel => exact ⟨r - 365, y + 1, rfl, rfl, by omega, by omega, by omega, hy5, HN.out⟩
        case measure => simp [intOf]; omega
      · have hr1 : r < 365 := by omega
        clear hlt
        have HR := Lib.hid (show r < Cv.ms y 13 by rw [Cv.ms_13]; have := HLP.out; omega)
        go_wp2_with (go_at_call 17; refine (rLeap_any _ _).mono ?_; rintro e w' ⟨rfl, rfl⟩)
        go_loop [0, 8] (fun s t => ∃ q m : Int, s = .int .i64 q ∧ t = .int .i64 m ∧ 0 ≤ q ∧ q ≤ 366 ∧ 1 ≤ m ∧ m ≤ 12 ∧ Hid (r = Cv.ms y m + q)) (fun s t => (12 - intOf t).toNat)
        case atStart => exact ⟨r, 1, rfl, rfl, r0, by omega, by omega, by omega, by unfold Hid; rw [Cv.ms_one]; omega⟩
        case round =>
          obtain ⟨q, m, rfl, rfl, q0, q1, m0, m1, hq⟩ := hrel
          have st := Cv.ms_step y m m0 m1
          by_cases hlt2 : Cv.ms y (m + 1) - Cv.ms y m ≤ q
          · have hm11 : m ≤ 11 := by
              rcases Int.lt_or_le m 12 with c | c
              · omega
              · have e12 : m = 12 := by omega
                have h1 := hq.out
                have h2 := HR.out
                rw [e12] at h1 hlt2
                rw [show (12 : Int) + 1 = 13 from rfl] at hlt2
                omega
            have HQ := Lib.hid (show r = Cv.ms y (m + 1) + (q - (Cv.ms y (m + 1) - Cv.ms y m)) by have := hq.out; omega)
            go_wp2_with (go_at_call 44; refine (rLong_any _ _ _ m0 m1).mono ?_; rintro e w' ⟨rfl, rfl⟩)
            go_round
            case rel => exact ⟨_, m + 1, rfl, rfl, by omega, by omega, by omega, by omega, HQ.out⟩
            case measure => simp [intOf]; omega
          · have HFF := Lib.hid (HF.out y m q (by have := hq.out; have := hn.out; omega) y0 y1 m0 m1 q0 (by omega))
            go_wp2_with (go_at_call 44; refine (rLong_any _ _ _ m0 m1).mono ?_; rintro e w' ⟨rfl, rfl⟩)
            refine bodyPost_ret (results_tmp4 rfl _ _ _) rfl ?_
            exact ⟨ret_four HFF.out.1 HFF.out.2.1 HFF.out.2.2 rfl, rfl⟩

end Go.Proofs.YtmlniggmknjneaaDoor
