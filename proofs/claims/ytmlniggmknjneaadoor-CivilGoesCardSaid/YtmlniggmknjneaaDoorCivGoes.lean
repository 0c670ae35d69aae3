/-
  The walk of the law CivilGoes.
-/
import Derived.Test.YtmlniggmknjneaaDoorCivRdy
namespace Go.Proofs.YtmlniggmknjneaaDoor
open Go.RowKit
set_option linter.unusedVariables false

/-- the date of the next day -/
theorem next_same (d : Int) (h0 : 0 ≤ d) (h1 : d < 730484) (h : Cv.isD (Cv.yr d) (Cv.mo d) (Cv.dm d + 1) = true) :
    Cv.yr (d + 1) = Cv.yr d ∧ Cv.mo (d + 1) = Cv.mo d ∧ Cv.dm (d + 1) = Cv.dm d + 1 := by
  have e := (Cv.date_is d h0 (by omega)).2
  have := Cv.date_of _ _ _ h
  rwa [show Cv.num (Cv.yr d) (Cv.mo d) (Cv.dm d + 1) = d + 1 by unfold Cv.num at e ⊢; omega] at this
theorem next_other (d : Int) (h0 : 0 ≤ d) (h1 : d < 730484) (h : Cv.isD (Cv.yr d) (Cv.mo d) (Cv.dm d + 1) = false) :
    Cv.dm (d + 1) = 1 ∧ (Cv.yr (d + 1) = Cv.yr d ∧ Cv.mo (d + 1) = Cv.mo d + 1 ∧ Cv.mo d < 12 ∨ Cv.yr (d + 1) = Cv.yr d + 1 ∧ Cv.mo (d + 1) = 1 ∧ Cv.mo d = 12) := by
  obtain ⟨hd, e⟩ := Cv.date_is d h0 (by omega)
  have bd := isD_bd hd
  unfold Cv.isD Cv.inM at hd h
  simp only [Bool.and_eq_true, decide_eq_true_eq] at hd
  rw [decide_eq_true (show 2001 ≤ Cv.yr d ∧ Cv.yr d ≤ 4000 by omega), Bool.true_and, decide_eq_false_iff_not] at h
  have hl : Cv.dm d = Cv.ms (Cv.yr d) (Cv.mo d + 1) - Cv.ms (Cv.yr d) (Cv.mo d) := by omega
  by_cases hm : Cv.mo d < 12
  · have st := Cv.ms_step (Cv.yr d) (Cv.mo d + 1) (by omega) (by omega)
    have hi : Cv.isD (Cv.yr d) (Cv.mo d + 1) 1 = true := by
      unfold Cv.isD Cv.inM
      simp only [Bool.and_eq_true, decide_eq_true_eq]
      omega
    have := Cv.date_of _ _ _ hi
    rw [show Cv.num (Cv.yr d) (Cv.mo d + 1) 1 = d + 1 by unfold Cv.num at e ⊢; omega] at this
    exact ⟨this.2.2, .inl ⟨this.1, this.2.1, hm⟩⟩
  · have e12 : Cv.mo d = 12 := by omega
    rw [e12] at hl e
    have m13 := Cv.ms_13 (Cv.yr d)
    have ys := Cv.yd_step (Cv.yr d) (by omega)
    have m1 := Cv.ms_one (Cv.yr d + 1)
    have ylt : Cv.yr d + 1 ≤ 4000 := by
      rcases Int.lt_or_le (Cv.yr d) 4000 with c | c
      · omega
      · have e4 : Cv.yr d = 4000 := by omega
        have := Cv.yd_4001
        unfold Cv.num at e
        rw [e4] at e ys hl m13
        rw [show (4000 : Int) + 1 = 4001 from rfl] at ys
        rw [show (12 : Int) + 1 = 13 from rfl] at hl
        omega
    have hi : Cv.isD (Cv.yr d + 1) 1 1 = true := by
      have st := Cv.ms_step (Cv.yr d + 1) 1 (by omega) (by omega)
      unfold Cv.isD Cv.inM
      simp only [Bool.and_eq_true, decide_eq_true_eq]
      omega
    have := Cv.date_of _ _ _ hi
    rw [show Cv.num (Cv.yr d + 1) 1 1 = d + 1 by
      unfold Cv.num at e ⊢
      rw [show (12 : Int) + 1 = 13 from rfl] at hl
      omega] at this
    exact ⟨this.2.2, .inr ⟨this.1, this.2.1, e12⟩⟩

set_option maxHeartbeats 2000000 in
theorem walk_civilGoes (a0 : Int) (w0 : (Lit.int .i64 a0).wf = true) (w : World) (hw : Rdy w) :
    Calls Tryd.prog 7 #[.int .i64 a0] w fun e w' => e = .returned (.bool true) ∧ Below w.heap.size w w' := by
  have b := int_bd w0
  clear w0
  have R0 := Lib.hid hw; clear hw
  obtain ⟨d, hd⟩ : ∃ d, d = a0 % 730484 := ⟨_, rfl⟩
  have d0 : 0 ≤ d := by omega
  have d1 : d < 730484 := by omega
  have hp : ∀ W, Calls Tryd.prog 26 #[.int .i64 a0, .int .i64 730484] W fun e w' => e = .returned (.int .i64 d) ∧ W = w' := by
    intro W; rw [hd]; exact pick_any a0 730484 W (by omega) (by omega)
  have HP := Lib.hid hp; clear hp hd
  have hwd : ∀ W n, 0 ≤ n → n ≤ 730484 → Calls Tryd.prog 28 #[.int .i64 n] W fun e w' => e = .returned (.tuple #[.int .i64 (n % 7), .int .i64 0]) ∧ W = w' := by
    intro W n h0 h1
    refine (weekday_any n W).mono fun e w' x => ⟨?_, x.2⟩
    rw [x.1]
    exact ret_two (by rw [wdV, if_pos ⟨h0, h1⟩]) (by unfold erD; (repeat' split) <;> omega)
  have HWD := Lib.hid hwd; clear hwd
  obtain ⟨hv, hn⟩ := Cv.date_is d d0 (by omega)
  have bd := isD_bd hv
  have HV := Lib.hid hv; clear hv
  have HN := Lib.hid hn; clear hn
  have hd1 : ∀ W, Tab W → Calls Tryd.prog 27 #[.int .i64 d] W fun e w' => e = .returned (.tuple #[.int .i64 (Cv.yr d), .int .i64 (Cv.mo d), .int .i64 (Cv.dm d), .int .i64 0]) ∧ W = w' := fun W hW => date_yes d W hW d0 (by omega)
  have hy1 : ∀ W, Tab W → Calls Tryd.prog 14 #[.int .i64 (Cv.yr d), .int .i64 (Cv.mo d), .int .i64 (Cv.dm d)] W fun e w' => e = .returned (.tuple #[.int .i64 d, .int .i64 0]) ∧ W = w' := by
    intro W hW
    have := day_yes _ _ _ W hW HV.out
    rw [HN.out] at this
    exact this
  have H1 := Lib.hid hd1; clear hd1
  have H2 := Lib.hid hy1; clear hy1
  have hd2 : ∀ W, Tab W → Calls Tryd.prog 27 #[.int .i64 (d + 1)] W fun e w' => e = .returned (.tuple #[.int .i64 (Cv.yr (d + 1)), .int .i64 (Cv.mo (d + 1)), .int .i64 (Cv.dm (d + 1)), .int .i64 0]) ∧ W = w' := fun W hW => date_yes (d + 1) W hW (by omega) (by omega)
  by_cases hm : Cv.isD (Cv.yr d) (Cv.mo d) (Cv.dm d + 1) = true
  · obtain ⟨e1, e2, e3⟩ := next_same d d0 d1 hm
    rw [e1, e2, e3] at hd2
    have hy2 := fun W hW => day_yes _ _ _ W hW hm
    clear e1 e2 e3 hm HV HN
    generalize Cv.num (Cv.yr d) (Cv.mo d) (Cv.dm d + 1) = x at hy2
    generalize Cv.yr d = y at *
    generalize Cv.mo d = m at *
    generalize Cv.dm d = k at *
    have H3 := Lib.hid hd2; clear hd2
    have H4 := Lib.hid hy2; clear hy2
    go_enter Tryd.func7, Tryd.ntmps7
    go_wp2_with (first
      | (go_at_call 19; refine (awake_any _ R0.out).mono ?_; rintro e w1 ⟨rfl, hb1⟩; have R1 := Lib.hid (R0.out.below hb1); have B1 := Lib.hid hb1; clear hb1)
      | (go_at_call 26; refine (HP.out _).mono ?_; rintro e w' ⟨rfl, rfl⟩)
      | (go_at_call 27; (with_reducible refine (H1.out _ R1.out.tab).mono ?_); rintro e w' ⟨rfl, rfl⟩)
      | (go_at_call 27; (with_reducible refine (H3.out _ R1.out.tab).mono ?_); rintro e w' ⟨rfl, rfl⟩)
      | (go_at_call 28; refine (HWD.out _ _ (by omega) (by omega)).mono ?_; rintro e w' ⟨rfl, rfl⟩)
      | (go_at_call 14; (with_reducible refine (H2.out _ R1.out.tab).mono ?_); rintro e w' ⟨rfl, rfl⟩)
      | (go_at_call 14; (with_reducible refine (H4.out _ R1.out.tab).mono ?_); rintro e w' ⟨rfl, rfl⟩))
    go_ret
    exact ⟨rfl, B1.out⟩
  · have hm' : Cv.isD (Cv.yr d) (Cv.mo d) (Cv.dm d + 1) = false := by simpa using hm
    obtain ⟨e3, ⟨e1, e2, e4⟩ | ⟨e1, e2, e4⟩⟩ := next_other d d0 d1 hm'
    · rw [e1, e2, e3] at hd2
      have hy2 := fun W hW => day_no _ _ _ W hW hm'
      clear e1 e2 e3 hm hm' HV HN
      generalize Cv.yr d = y at *
      generalize Cv.mo d = m at *
      generalize Cv.dm d = k at *
      have H3 := Lib.hid hd2; clear hd2
      have H4 := Lib.hid hy2; clear hy2
      go_enter Tryd.func7, Tryd.ntmps7
      go_wp2_with (first
        | (go_at_call 19; refine (awake_any _ R0.out).mono ?_; rintro e w1 ⟨rfl, hb1⟩; have R1 := Lib.hid (R0.out.below hb1); have B1 := Lib.hid hb1; clear hb1)
        | (go_at_call 26; refine (HP.out _).mono ?_; rintro e w' ⟨rfl, rfl⟩)
        | (go_at_call 27; (with_reducible refine (H1.out _ R1.out.tab).mono ?_); rintro e w' ⟨rfl, rfl⟩)
        | (go_at_call 27; (with_reducible refine (H3.out _ R1.out.tab).mono ?_); rintro e w' ⟨rfl, rfl⟩)
        | (go_at_call 28; refine (HWD.out _ _ (by omega) (by omega)).mono ?_; rintro e w' ⟨rfl, rfl⟩)
        | (go_at_call 14; (with_reducible refine (H2.out _ R1.out.tab).mono ?_); rintro e w' ⟨rfl, rfl⟩)
        | (go_at_call 14; (with_reducible refine (H4.out _ R1.out.tab).mono ?_); rintro e w' ⟨rfl, rfl⟩))
      go_ret
      exact ⟨rfl, B1.out⟩
    · rw [e1, e2, e3] at hd2
      have hy2 := fun W hW => day_no _ _ _ W hW hm'
      rw [e4] at hy2 H1 H2
      clear e1 e2 e3 e4 hm hm' HV HN
      generalize Cv.yr d = y at *
      generalize Cv.mo d = m at *
      generalize Cv.dm d = k at *
      have H3 := Lib.hid hd2; clear hd2
      have H4 := Lib.hid hy2; clear hy2
      go_enter Tryd.func7, Tryd.ntmps7
      go_wp2_with (first
        | (go_at_call 19; refine (awake_any _ R0.out).mono ?_; rintro e w1 ⟨rfl, hb1⟩; have R1 := Lib.hid (R0.out.below hb1); have B1 := Lib.hid hb1; clear hb1)
        | (go_at_call 26; refine (HP.out _).mono ?_; rintro e w' ⟨rfl, rfl⟩)
        | (go_at_call 27; (with_reducible refine (H1.out _ R1.out.tab).mono ?_); rintro e w' ⟨rfl, rfl⟩)
        | (go_at_call 27; (with_reducible refine (H3.out _ R1.out.tab).mono ?_); rintro e w' ⟨rfl, rfl⟩)
        | (go_at_call 28; refine (HWD.out _ _ (by omega) (by omega)).mono ?_; rintro e w' ⟨rfl, rfl⟩)
        | (go_at_call 14; (with_reducible refine (H2.out _ R1.out.tab).mono ?_); rintro e w' ⟨rfl, rfl⟩)
        | (go_at_call 14; (with_reducible refine (H4.out _ R1.out.tab).mono ?_); rintro e w' ⟨rfl, rfl⟩))
      go_ret
      exact ⟨rfl, B1.out⟩

end Go.Proofs.YtmlniggmknjneaaDoor
