/-
  Plain mathematics of the civil calendar: no program in sight.
-/
import GoSem.Core.Value
namespace Go.Proofs.YtmlniggmknjneaaDoor.Cv

/-- a leap year, as Go's own '%' computes it -/
def leapB (y : Int) : Bool := (y.tmod 4 == 0) && ((y.tmod 100 != 0) || (y.tmod 400 == 0))
/-- a day more in a leap year -/
def lp (y : Int) : Int := if leapB y = true then 1 else 0
/-- the days ahead of a month, in a year that is no leap year; m from 1 to 13 -/
def tab (m : Int) : Int :=
  if m ≤ 1 then 0 else if m ≤ 2 then 31 else if m ≤ 3 then 59 else if m ≤ 4 then 90 else if m ≤ 5 then 120 else if m ≤ 6 then 151 else if m ≤ 7 then 181
  else if m ≤ 8 then 212 else if m ≤ 9 then 243 else if m ≤ 10 then 273 else if m ≤ 11 then 304 else if m ≤ 12 then 334 else 365
/-- the days of a year ahead of a month -/
def ms (y m : Int) : Int := tab m + if 2 < m then lp y else 0
/-- has the month of the year the day? -/
def inM (y m d : Int) : Bool := decide (1 ≤ m ∧ m ≤ 12 ∧ 1 ≤ d ∧ d ≤ ms y (m + 1) - ms y m)
/-- is it a date? -/
def isD (y m d : Int) : Bool := decide (2001 ≤ y ∧ y ≤ 4000) && inM y m d
/-- the days ahead of a year -/
def yd (y : Int) : Int := (y - 2001) * 365 + (y - 2001) / 4 - (y - 2001) / 100 + (y - 2001) / 400
/-- the day of a date -/
def num (y m d : Int) : Int := yd y + ms y m + d - 1
/-- the year of a day, and the days of it ahead, as the code reckons them -/
def yr (n : Int) : Int := 2001 + n / 146097 * 400 + min (n % 146097 / 36524) 3 * 100 + (n % 146097 - min (n % 146097 / 36524) 3 * 36524) / 1461 * 4 + min ((n % 146097 - min (n % 146097 / 36524) 3 * 36524) % 1461 / 365) 3
def rs (n : Int) : Int := (n % 146097 - min (n % 146097 / 36524) 3 * 36524) % 1461 - min ((n % 146097 - min (n % 146097 / 36524) 3 * 36524) % 1461 / 365) 3 * 365

theorem lp_01 (y : Int) : 0 ≤ lp y ∧ lp y ≤ 1 := by unfold lp; split <;> omega
theorem tmod_nn (y k : Int) (h : 0 ≤ y) : y.tmod k = y % k := Int.tmod_eq_emod_of_nonneg h
theorem leapB_iff (y : Int) (h : 0 ≤ y) : leapB y = true ↔ (y % 4 = 0 ∧ (y % 100 ≠ 0 ∨ y % 400 = 0)) := by
  unfold leapB; rw [tmod_nn _ _ h, tmod_nn _ _ h, tmod_nn _ _ h]; simp
theorem lp_eq (y : Int) (h : 0 ≤ y) : lp y = if y % 4 = 0 ∧ (y % 100 ≠ 0 ∨ y % 400 = 0) then 1 else 0 := by
  unfold lp; simp only [leapB_iff y h]
theorem tab_bd (m : Int) : 0 ≤ tab m ∧ tab m ≤ 365 := by unfold tab; repeat' split <;> omega
theorem ms_bd (y m : Int) : 0 ≤ ms y m ∧ ms y m ≤ 366 := by have := tab_bd m; have := lp_01 y; unfold ms; split <;> omega
theorem ms_one (y : Int) : ms y 1 = 0 := by simp [ms, tab]
theorem ms_13 (y : Int) : ms y 13 = 365 + lp y := by simp [ms, tab]
/-- months are of 28 to 31 days -/
theorem ms_step (y m : Int) (h1 : 1 ≤ m) (h2 : m ≤ 12) : ms y m + 28 ≤ ms y (m + 1) ∧ ms y (m + 1) ≤ ms y m + 31 := by
  have := lp_01 y
  have hm : m = 1 ∨ m = 2 ∨ m = 3 ∨ m = 4 ∨ m = 5 ∨ m = 6 ∨ m = 7 ∨ m = 8 ∨ m = 9 ∨ m = 10 ∨ m = 11 ∨ m = 12 := by omega
  rcases hm with rfl | rfl | rfl | rfl | rfl | rfl | rfl | rfl | rfl | rfl | rfl | rfl <;> simp [ms, tab] <;> omega
theorem ms_mono (y : Int) (a b : Int) (h1 : 1 ≤ a) (h : a ≤ b) (h2 : b ≤ 13) : ms y a ≤ ms y b := by
  obtain ⟨k, rfl⟩ : ∃ k : Nat, b = a + k := ⟨(b - a).toNat, by omega⟩
  clear h
  induction k with
  | zero => simp
  | succ k ih => have := ih (by omega); have := ms_step y (a + k) (by omega) (by omega); rw [show a + ((k + 1 : Nat) : Int) = a + k + 1 from by omega]; omega
theorem yd_step (y : Int) (h : 2001 ≤ y) : yd (y + 1) = yd y + 365 + lp y := by
  rw [lp_eq y (by omega)]; unfold yd; split <;> omega
theorem yd_mono (a b : Int) (h : a ≤ b) : yd a ≤ yd b := by
  unfold yd; omega
theorem yd_2001 : yd 2001 = 0 := by decide
theorem yd_4001 : yd 4001 = 730485 := by decide
/-- the year of a day, told by its days -/
theorem yr_rs (n : Int) (h0 : 0 ≤ n) (h1 : n ≤ 730484) : n = yd (yr n) + rs n ∧ 0 ≤ rs n ∧ rs n < 365 + lp (yr n) ∧ 2001 ≤ yr n ∧ yr n ≤ 4000 := by
  obtain ⟨a, ha⟩ : ∃ a, a = n / 146097 := ⟨_, rfl⟩
  obtain ⟨r, hr⟩ : ∃ r, r = n % 146097 := ⟨_, rfl⟩
  obtain ⟨b, hb⟩ : ∃ b, b = min (r / 36524) 3 := ⟨_, rfl⟩
  obtain ⟨r2, hr2⟩ : ∃ r2, r2 = r - b * 36524 := ⟨_, rfl⟩
  obtain ⟨c, hc⟩ : ∃ c, c = r2 / 1461 := ⟨_, rfl⟩
  obtain ⟨r3, hr3⟩ : ∃ r3, r3 = r2 % 1461 := ⟨_, rfl⟩
  obtain ⟨d, hd⟩ : ∃ d, d = min (r3 / 365) 3 := ⟨_, rfl⟩
  have ey : yr n = 2001 + a * 400 + b * 100 + c * 4 + d := by unfold yr; rw [← ha, ← hr, ← hb, ← hr2, ← hc, ← hr3, ← hd]
  have er : rs n = r3 - d * 365 := by unfold rs; rw [← hr, ← hb, ← hr2, ← hr3, ← hd]
  have hn : n = 146097 * a + r := by omega
  have r0 : 0 ≤ r ∧ r < 146097 := by omega
  have b0 : 0 ≤ b ∧ b ≤ 3 := by omega
  have b1 : 0 ≤ r2 ∧ (b < 3 → r2 < 36524) ∧ r2 ≤ 36524 := by omega
  have b2 : r = 36524 * b + r2 := by omega
  have c0 : 0 ≤ c ∧ c ≤ 24 ∧ r2 = 1461 * c + r3 ∧ 0 ≤ r3 ∧ r3 < 1461 := by omega
  have d0 : 0 ≤ d ∧ d ≤ 3 ∧ 0 ≤ r3 - d * 365 ∧ (d < 3 → r3 - d * 365 < 365) ∧ r3 - d * 365 ≤ 365 := by omega
  have a0 : 0 ≤ a ∧ a ≤ 4 ∧ (a = 4 → r < 146097) := by omega
  clear ha hr hb hr2 hc hr3 hd
  rw [er, ey]
  rw [lp_eq _ (by omega)]
  have hyd : yd (2001 + a * 400 + b * 100 + c * 4 + d) = 146097 * a + 36524 * b + 1461 * c + 365 * d := by
    have e4 : (2001 + a * 400 + b * 100 + c * 4 + d - 2001) / 4 = 100 * a + 25 * b + c := by omega
    have e100 : (2001 + a * 400 + b * 100 + c * 4 + d - 2001) / 100 = 4 * a + b := by omega
    have e400 : (2001 + a * 400 + b * 100 + c * 4 + d - 2001) / 400 = a := by omega
    unfold yd; rw [e4, e100, e400]; omega
  rw [hyd]
  refine ⟨by omega, by omega, ?_, by omega, by omega⟩
  by_cases hd3 : d < 3
  · have := d0.2.2.2.1 hd3; split <;> omega
  · have e3 : d = 3 := by omega
    subst e3
    by_cases hc24 : c < 24
    · rw [if_pos (by omega)]; omega
    · have e24 : c = 24 := by omega
      subst e24
      by_cases hb3 : b < 3
      · have := b1.2.1 hb3
        rw [if_neg (by omega)]; omega
      · rw [if_pos (by omega)]; omega

/-- the month of a day of the year, as the code looks for it: from 12 down -/
def moTo (y r : Int) : Nat → Int
  | 0 => 1
  | k + 1 => if r < ms y (k + 2) then moTo y r k else (k + 2 : Nat)
def mo (n : Int) : Int := moTo (yr n) (rs n) 11
def dm (n : Int) : Int := rs n - ms (yr n) (mo n) + 1
theorem moTo_is (y r : Int) (h : 0 ≤ r) (k : Nat) (hk : k ≤ 11) (hr : r < ms y (k + 2)) : 1 ≤ moTo y r k ∧ moTo y r k ≤ k + 1 ∧ ms y (moTo y r k) ≤ r ∧ r < ms y (moTo y r k + 1) := by
  induction k with
  | zero => simp only [moTo]; rw [ms_one]; exact ⟨by omega, by omega, h, hr⟩
  | succ k ih =>
    simp only [moTo]
    split
    · rename_i hlt
      have := ih (by omega) hlt
      exact ⟨this.1, by omega, this.2.2.1, this.2.2.2⟩
    · rename_i hge
      refine ⟨by omega, by omega, ?_, ?_⟩
      · rw [show ((k + 2 : Nat) : Int) = (k : Int) + 2 from by omega]; omega
      · rw [show ((k + 2 : Nat) : Int) + 1 = ((k + 1 : Nat) : Int) + 2 from by omega]; exact hr

/-- THE DATE OF A DAY -/
theorem date_is (n : Int) (h0 : 0 ≤ n) (h1 : n ≤ 730484) : isD (yr n) (mo n) (dm n) = true ∧ num (yr n) (mo n) (dm n) = n := by
  obtain ⟨e, r0, r1, y0, y1⟩ := yr_rs n h0 h1
  have hm := moTo_is (yr n) (rs n) r0 11 (by omega) (by rw [show ((11 : Nat) : Int) + 2 = 13 from rfl, ms_13]; exact r1)
  change 1 ≤ mo n ∧ mo n ≤ _ ∧ ms (yr n) (mo n) ≤ _ ∧ _ < ms (yr n) (mo n + 1) at hm
  unfold isD inM num dm
  simp only [Bool.and_eq_true, decide_eq_true_eq]
  refine ⟨⟨by omega, by omega, by omega, by omega, by omega⟩, by omega⟩

/-- days and dates are one to one -/
theorem num_inj (y m d z o l : Int) (h : isD y m d = true) (g : isD z o l = true) (e : num y m d = num z o l) : y = z ∧ m = o ∧ d = l := by
  unfold isD inM at h g
  simp only [Bool.and_eq_true, decide_eq_true_eq] at h g
  obtain ⟨⟨y0, y1⟩, m0, m1, d0, d1⟩ := h
  obtain ⟨⟨z0, z1⟩, o0, o1, l0, l1⟩ := g
  unfold num at e
  have a1 := ms_mono y (m + 1) 13 (by omega) (by omega) (by omega)
  have a2 := ms_mono z (o + 1) 13 (by omega) (by omega) (by omega)
  rw [ms_13] at a1 a2
  have a3 := ms_bd y m
  have a4 := ms_bd z o
  have hy : y = z := by
    rcases Int.lt_trichotomy y z with h | h | h
    · have := yd_mono (y + 1) z (by omega); rw [yd_step y y0] at this; omega
    · exact h
    · have := yd_mono (z + 1) y (by omega); rw [yd_step z z0] at this; omega
  subst hy
  have hm : m = o := by
    rcases Int.lt_trichotomy m o with h | h | h
    · have := ms_mono y (m + 1) o (by omega) (by omega) (by omega); omega
    · exact h
    · have := ms_mono y (o + 1) m (by omega) (by omega) (by omega); omega
  subst hm
  exact ⟨rfl, rfl, by omega⟩
theorem num_bd (y m d : Int) (h : isD y m d = true) : 0 ≤ num y m d ∧ num y m d ≤ 730484 := by
  unfold isD inM at h
  simp only [Bool.and_eq_true, decide_eq_true_eq] at h
  obtain ⟨⟨y0, y1⟩, m0, m1, d0, d1⟩ := h
  have a1 := ms_mono y (m + 1) 13 (by omega) (by omega) (by omega)
  rw [ms_13] at a1
  have a3 := ms_bd y m
  have b1 := yd_mono 2001 y (by omega)
  have b2 := yd_mono (y + 1) 4001 (by omega)
  rw [yd_step y y0, yd_4001] at b2
  rw [yd_2001] at b1
  unfold num; omega
/-- a date is its day's date -/
theorem date_of (y m d : Int) (h : isD y m d = true) : yr (num y m d) = y ∧ mo (num y m d) = m ∧ dm (num y m d) = d := by
  have hb := num_bd y m d h
  obtain ⟨h1, h2⟩ := date_is (num y m d) hb.1 hb.2
  exact num_inj _ _ _ _ _ _ h1 h h2

end Go.Proofs.YtmlniggmknjneaaDoor.Cv
