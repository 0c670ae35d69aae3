/-
  Texts of dates and times: they are read as what they are texts of, and are in the order of the times.
-/
import Derived.Test.YtmlniggmknjneaaDoorCivRdy
namespace Go.Proofs.YtmlniggmknjneaaDoor
open Go.Op (bytesLess)
set_option linter.unusedVariables false

theorem isDg_dgt (n : Int) : Cv.isDg (Cv.dgt n) = true := by unfold Cv.isDg; rw [Cv.dgt_toNat, decide_eq_true_eq]; omega
theorem numTo_cons (a n : Int) (l : List UInt8) : Cv.numTo a (Cv.dgt n :: l) = Cv.numTo (a * 10 + n % 10) l := by
  rw [Cv.numTo, if_pos (isDg_dgt n), Cv.dgt_toNat]
  congr 1
  omega
theorem numL_two (n : Int) (h0 : 0 ≤ n) (h1 : n < 100) : Cv.numL (Cv.two n) = n := by
  unfold Cv.numL Cv.two
  rw [numTo_cons, numTo_cons, Cv.numTo]; omega
theorem numL_four (n : Int) (h0 : 0 ≤ n) (h1 : n < 10000) : Cv.numL (Cv.four n) = n := by
  unfold Cv.numL Cv.four
  rw [numTo_cons, numTo_cons, numTo_cons, numTo_cons, Cv.numTo]; omega

theorem dateT_parts (n : Int) : (Cv.dateT n).take 4 = Cv.four (Cv.yr n) ∧ ((Cv.dateT n).drop 5).take 2 = Cv.two (Cv.mo n) ∧ (Cv.dateT n).drop 8 = Cv.two (Cv.dm n) ∧ (Cv.dateT n).getD 4 0 = 45 ∧ (Cv.dateT n).getD 7 0 = 45 := by
  unfold Cv.dateT Cv.four Cv.two
  exact ⟨rfl, rfl, rfl, rfl, rfl⟩
theorem timeT_parts (t : Int) : (Cv.timeT t).take 10 = Cv.dateT (t / 1440) ∧ ((Cv.timeT t).drop 11).take 2 = Cv.two (t % 1440 / 60) ∧ (Cv.timeT t).drop 14 = Cv.two (t % 1440 % 60) ∧ (Cv.timeT t).getD 10 0 = 32 ∧ (Cv.timeT t).getD 13 0 = 58 ∧ (Cv.timeT t).length = 16 := by
  unfold Cv.timeT Cv.dateT Cv.four Cv.two
  exact ⟨rfl, rfl, rfl, rfl, rfl, rfl⟩
theorem isT_dateT (n : Int) (h0 : 0 ≤ n) (h1 : n ≤ 730484) : isT (Cv.dateT n) = true ∧ yT (Cv.dateT n) = Cv.yr n ∧ mT (Cv.dateT n) = Cv.mo n ∧ dT (Cv.dateT n) = Cv.dm n := by
  obtain ⟨hd, _⟩ := Cv.date_is n h0 h1
  have bd := isD_bd hd
  obtain ⟨p1, p2, p3, p4, p5⟩ := dateT_parts n
  have e1 : yT (Cv.dateT n) = Cv.yr n := by unfold yT; rw [p1, numL_four _ (by omega) (by omega)]
  have e2 : mT (Cv.dateT n) = Cv.mo n := by unfold mT; rw [p2, numL_two _ (by omega) (by omega)]
  have e3 : dT (Cv.dateT n) = Cv.dm n := by unfold dT; rw [p3, numL_two _ (by omega) (by omega)]
  refine ⟨?_, e1, e2, e3⟩
  unfold isT; rw [e1, e2, e3, p4, p5, hd, dateT_len]; rfl
theorem rd_dateT (n : Int) (h0 : 0 ≤ n) (h1 : n ≤ 730484) : rdV (Cv.dateT n) = n ∧ rdE (Cv.dateT n) = 0 := by
  obtain ⟨h, e1, e2, e3⟩ := isT_dateT n h0 h1
  have := rd_yes h
  rw [e1, e2, e3, (Cv.date_is n h0 h1).2] at this
  exact this
theorem rt_timeT (t : Int) (h0 : 0 ≤ t) (h1 : t ≤ 1051898399) : rtV (Cv.timeT t) = t ∧ rtE (Cv.timeT t) = 0 := by
  obtain ⟨p1, p2, p3, p4, p5, p6⟩ := timeT_parts t
  have e2 : hT (Cv.timeT t) = t % 1440 / 60 := by unfold hT; rw [p2, numL_two _ (by omega) (by omega)]
  have e3 : miT (Cv.timeT t) = t % 1440 % 60 := by unfold miT; rw [p3, numL_two _ (by omega) (by omega)]
  have hi : isTT (Cv.timeT t) = true := by
    unfold isTT; rw [p1, p4, p5, p6, e2, e3, (isT_dateT _ (by omega) (by omega)).1, decide_eq_true (show 0 ≤ t % 1440 / 60 ∧ t % 1440 / 60 ≤ 23 ∧ 0 ≤ t % 1440 % 60 ∧ t % 1440 % 60 ≤ 59 by omega)]; rfl
  rw [rtV, rtE, if_pos hi, if_pos hi, p1, e2, e3, (rd_dateT _ (by omega) (by omega)).1]
  exact ⟨by omega, rfl⟩

/-! ### order -/
theorem bl_app (p q s t : List UInt8) (h : p.length = q.length) : bytesLess (p ++ s) (q ++ t) = (bytesLess p q || (p == q && bytesLess s t)) := by
  induction p generalizing q with
  | nil => cases q with
    | nil => simp [bytesLess]
    | cons => simp at h
  | cons a p ih => cases q with
    | nil => simp at h
    | cons b q =>
      simp only [List.cons_append, bytesLess, ih q (by simpa using h), List.cons_beq_cons]
      cases decide (a < b) <;> cases (a == b) <;> cases (bytesLess p q) <;> simp
theorem bl_same (c : UInt8) (s t : List UInt8) : bytesLess (c :: s) (c :: t) = bytesLess s t := by simp [bytesLess]
theorem dgt_lt (a b : Int) : (Cv.dgt a < Cv.dgt b) ↔ a % 10 < b % 10 := by
  rw [UInt8.lt_iff_toNat_lt, Cv.dgt_toNat, Cv.dgt_toNat]; omega
theorem dgt_eq (a b : Int) : (Cv.dgt a = Cv.dgt b) ↔ a % 10 = b % 10 := by
  rw [← UInt8.toNat_inj, Cv.dgt_toNat, Cv.dgt_toNat]; omega
theorem bl_two (a b : Int) (a0 : 0 ≤ a) (a1 : a < 100) (b0 : 0 ≤ b) (b1 : b < 100) : bytesLess (Cv.two a) (Cv.two b) = decide (a < b) := by
  rw [Bool.eq_iff_iff]
  simp only [Cv.two, bytesLess, Bool.or_eq_true, Bool.and_eq_true, decide_eq_true_eq, beq_iff_eq, dgt_lt, dgt_eq, Bool.false_eq_true, and_false, or_false]
  omega
theorem eq_two (a b : Int) (a0 : 0 ≤ a) (a1 : a < 100) (b0 : 0 ≤ b) (b1 : b < 100) : (Cv.two a == Cv.two b) = decide (a = b) := by
  rw [Bool.eq_iff_iff]
  simp only [Cv.two, beq_iff_eq, List.cons.injEq, dgt_eq, decide_eq_true_eq, and_true]
  omega
theorem four_two (a : Int) : Cv.four a = Cv.two (a / 100) ++ Cv.two (a % 100) := by
  have e1 : Cv.dgt (a / 100 / 10) = Cv.dgt (a / 1000) := (dgt_eq _ _).2 (by omega)
  have e2 : Cv.dgt (a % 100 / 10) = Cv.dgt (a / 10) := (dgt_eq _ _).2 (by omega)
  have e3 : Cv.dgt (a % 100) = Cv.dgt a := (dgt_eq _ _).2 (by omega)
  unfold Cv.four Cv.two; rw [e1, e2, e3]; rfl
theorem two_len (a : Int) : (Cv.two a).length = 2 := rfl
theorem four_len (a : Int) : (Cv.four a).length = 4 := rfl
theorem bl_four (a b : Int) (a0 : 0 ≤ a) (a1 : a < 10000) (b0 : 0 ≤ b) (b1 : b < 10000) : bytesLess (Cv.four a) (Cv.four b) = decide (a < b) := by
  rw [four_two a, four_two b, bl_app _ _ _ _ (by rw [two_len, two_len]), bl_two _ _ (by omega) (by omega) (by omega) (by omega), eq_two _ _ (by omega) (by omega) (by omega) (by omega), bl_two _ _ (by omega) (by omega) (by omega) (by omega), Bool.eq_iff_iff]
  simp only [Bool.or_eq_true, Bool.and_eq_true, decide_eq_true_eq]
  omega
theorem eq_four (a b : Int) (a0 : 0 ≤ a) (a1 : a < 10000) (b0 : 0 ≤ b) (b1 : b < 10000) : (Cv.four a == Cv.four b) = decide (a = b) := by
  rw [Bool.eq_iff_iff]
  simp only [Cv.four, beq_iff_eq, List.cons.injEq, dgt_eq, decide_eq_true_eq, and_true]
  omega
/-- dates are in the order of days -/
theorem num_lt (y m d z o l : Int) (h : Cv.isD y m d = true) (g : Cv.isD z o l = true) (c : y < z ∨ y = z ∧ (m < o ∨ m = o ∧ d < l)) : Cv.num y m d < Cv.num z o l := by
  unfold Cv.isD Cv.inM at h g
  simp only [Bool.and_eq_true, decide_eq_true_eq] at h g
  obtain ⟨⟨y0, y1⟩, m0, m1, d0, d1⟩ := h
  obtain ⟨⟨z0, z1⟩, o0, o1, l0, l1⟩ := g
  unfold Cv.num
  rcases c with c | ⟨rfl, c | ⟨rfl, c⟩⟩
  · have a1 := Cv.ms_mono y (m + 1) 13 (by omega) (by omega) (by omega)
    rw [Cv.ms_13] at a1
    have a4 := Cv.ms_bd z o
    have := Cv.yd_mono (y + 1) z (by omega)
    rw [Cv.yd_step y y0] at this
    omega
  · have := Cv.ms_mono y (m + 1) o (by omega) (by omega) (by omega)
    omega
  · omega
theorem date_lt (a b : Int) (a0 : 0 ≤ a) (a1 : a ≤ 730484) (b0 : 0 ≤ b) (b1 : b ≤ 730484) :
    (Cv.yr a < Cv.yr b ∨ Cv.yr a = Cv.yr b ∧ (Cv.mo a < Cv.mo b ∨ Cv.mo a = Cv.mo b ∧ Cv.dm a < Cv.dm b)) ↔ a < b := by
  obtain ⟨h1, e1⟩ := Cv.date_is a a0 a1
  obtain ⟨h2, e2⟩ := Cv.date_is b b0 b1
  constructor
  · intro c; have := num_lt _ _ _ _ _ _ h1 h2 c; omega
  · intro c
    rcases Int.lt_trichotomy (Cv.yr a) (Cv.yr b) with x | x | x
    · exact .inl x
    · refine .inr ⟨x, ?_⟩
      rcases Int.lt_trichotomy (Cv.mo a) (Cv.mo b) with z | z | z
      · exact .inl z
      · refine .inr ⟨z, ?_⟩
        rcases Int.lt_trichotomy (Cv.dm a) (Cv.dm b) with v | v | v
        · exact v
        · rw [x, z, v] at e1; omega
        · have := num_lt _ _ _ _ _ _ h2 h1 (.inr ⟨x.symm, .inr ⟨z.symm, v⟩⟩); omega
      · have := num_lt _ _ _ _ _ _ h2 h1 (.inr ⟨x.symm, .inl z⟩); omega
    · have := num_lt _ _ _ _ _ _ h2 h1 (.inl x); omega
theorem bl_dateT (a b : Int) (a0 : 0 ≤ a) (a1 : a ≤ 730484) (b0 : 0 ≤ b) (b1 : b ≤ 730484) : bytesLess (Cv.dateT a) (Cv.dateT b) = decide (a < b) := by
  have k1 := isD_bd (Cv.date_is a a0 a1).1
  have k2 := isD_bd (Cv.date_is b b0 b1).1
  unfold Cv.dateT
  rw [bl_app _ _ _ _ (by rw [four_len, four_len]), bl_same, bl_app _ _ _ _ (by rw [two_len, two_len]), bl_same, bl_four _ _ (by omega) (by omega) (by omega) (by omega), eq_four _ _ (by omega) (by omega) (by omega) (by omega),
    bl_two _ _ (by omega) (by omega) (by omega) (by omega), eq_two _ _ (by omega) (by omega) (by omega) (by omega), bl_two _ _ (by omega) (by omega) (by omega) (by omega), Bool.eq_iff_iff]
  simp only [Bool.or_eq_true, Bool.and_eq_true, decide_eq_true_eq]
  exact date_lt a b a0 a1 b0 b1
theorem eq_dateT (a b : Int) (a0 : 0 ≤ a) (a1 : a ≤ 730484) (b0 : 0 ≤ b) (b1 : b ≤ 730484) : (Cv.dateT a == Cv.dateT b) = decide (a = b) := by
  rw [Bool.eq_iff_iff, beq_iff_eq, decide_eq_true_eq]
  constructor
  · intro h
    have e1 := (rd_dateT a a0 a1).1
    rw [h, (rd_dateT b b0 b1).1] at e1
    exact e1.symm
  · rintro rfl; rfl
theorem bl_timeT (a b : Int) (a0 : 0 ≤ a) (a1 : a ≤ 1051898399) (b0 : 0 ≤ b) (b1 : b ≤ 1051898399) : bytesLess (Cv.timeT a) (Cv.timeT b) = decide (a < b) := by
  unfold Cv.timeT
  rw [bl_app _ _ _ _ (by rw [dateT_len, dateT_len]), bl_same, bl_app _ _ _ _ (by rw [two_len, two_len]), bl_same, bl_dateT _ _ (by omega) (by omega) (by omega) (by omega), eq_dateT _ _ (by omega) (by omega) (by omega) (by omega),
    bl_two _ _ (by omega) (by omega) (by omega) (by omega), eq_two _ _ (by omega) (by omega) (by omega) (by omega), bl_two _ _ (by omega) (by omega) (by omega) (by omega), Bool.eq_iff_iff]
  simp only [Bool.or_eq_true, Bool.and_eq_true, decide_eq_true_eq]
  omega

end Go.Proofs.YtmlniggmknjneaaDoor
