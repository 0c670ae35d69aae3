/-
  The examples of the chapter hold: awake answers true.
-/
import Derived.Test.YtmlniggmknjneaaDoorCivWalk6
namespace Go.Proofs.YtmlniggmknjneaaDoor
open Go.RowKit
set_option linter.unusedVariables false

theorem aw_day1 (W : World) (h : Tab W) : Calls Tryd.prog 14 #[.int .i64 2001, .int .i64 1, .int .i64 1] W fun e w' => e = .returned (.tuple #[.int .i64 0, .int .i64 0]) ∧ W = w' :=
  (day_yes 2001 1 1 W h (by decide)).mono fun e w' x => ⟨x.1, x.2⟩
theorem aw_day2 (W : World) (h : Tab W) : Calls Tryd.prog 14 #[.int .i64 2004, .int .i64 2, .int .i64 29] W fun e w' => e = .returned (.tuple #[.int .i64 1154, .int .i64 0]) ∧ W = w' :=
  (day_yes 2004 2 29 W h (by decide)).mono fun e w' x => ⟨x.1, x.2⟩
theorem aw_day3 (W : World) (h : Tab W) : Calls Tryd.prog 14 #[.int .i64 2100, .int .i64 2, .int .i64 29] W fun e w' => e = .returned (.tuple #[.int .i64 0, .int .i64 10]) ∧ W = w' :=
  day_no 2100 2 29 W h (by decide)
theorem aw_date (W : World) (h : Tab W) : Calls Tryd.prog 27 #[.int .i64 1461] W fun e w' => e = .returned (.tuple #[.int .i64 2005, .int .i64 1, .int .i64 1, .int .i64 0]) ∧ W = w' :=
  (date_yes 1461 W h (by decide) (by decide)).mono fun e w' x => ⟨x.1, x.2⟩
theorem aw_wd (W : World) : Calls Tryd.prog 28 #[.int .i64 5] W fun e w' => e = .returned (.tuple #[.int .i64 5, .int .i64 0]) ∧ W = w' :=
  (weekday_any 5 W).mono fun e w' x => ⟨x.1, x.2⟩
theorem aw_text (W : World) (h : Rdy W) : Calls Tryd.prog 31 #[.int .i64 59] W fun e w' => e = .returned (.tuple #[.string ⟨#[50, 48, 48, 49, 45, 48, 51, 45, 48, 49]⟩, .int .i64 0]) ∧ Below W.heap.size W w' :=
  (text_yes 59 W h (by decide) (by decide)).mono fun e w' x => ⟨by rw [x.1]; exact ret_si (by rw [show Cv.dateT 59 = [50, 48, 48, 49, 45, 48, 51, 45, 48, 49] by decide]) rfl, x.2⟩
theorem aw_time (W : World) (h : Tab W) : Calls Tryd.prog 22 #[.string ⟨#[50, 48, 48, 49, 45, 48, 49, 45, 48, 50, 32, 48, 48, 58, 48, 49]⟩] W fun e w' => e = .returned (.tuple #[.int .i64 1441, .int .i64 0]) ∧ Below W.heap.size W w' :=
  (readTime_any _ W (by decide) h).mono fun e w' x => ⟨by rw [x.1]; exact ret_two (by decide) (by decide), x.2⟩
theorem aw_between (A : Option Addr) (cap : Nat) (W : World) (h : Rd W A [1]) : Calls Tryd.prog 34 #[.int .i64 0, .int .i64 7, .slice A 1 cap] W fun e w' => e = .returned (.tuple #[.int .i64 4, .int .i64 0]) ∧ Below W.heap.size W w' :=
  (between_yes 0 7 A cap [1] W h (by decide) (by decide) (by decide) (by decide)).mono fun e w' x => ⟨by rw [x.1]; exact ret_two (by decide) rfl, x.2⟩
theorem aw_ahead1 (A : Option Addr) (cap : Nat) (W : World) (h : Rd W A [1]) : Calls Tryd.prog 36 #[.int .i64 0, .int .i64 1, .slice A 1 cap] W fun e w' => e = .returned (.tuple #[.int .i64 2, .int .i64 0]) ∧ Below W.heap.size W w' := by
  refine (ahead_yes 0 1 A cap [1] W h (by decide) (by decide) (by decide) (by decide) (by decide)).mono ?_
  rintro e w' ⟨r, er, rfl, ha, hb⟩
  have := Cv.ahead_one [1] (by decide) 0 1 r er 2 0 ha (.inl (by decide))
  exact ⟨ret_two this.1 this.2, hb⟩
theorem aw_ahead2 (W : World) : Calls Tryd.prog 36 #[.int .i64 5, .int .i64 0, .slice none 0 0] W fun e w' => e = .returned (.tuple #[.int .i64 7, .int .i64 0]) ∧ Below W.heap.size W w' := by
  refine (ahead_yes 5 0 none 0 [] W (Rd.nil _ _) (by decide) (by decide) (by decide) (by decide) (by decide)).mono ?_
  rintro e w' ⟨r, er, rfl, ha, hb⟩
  have := Cv.ahead_one [] (by decide) 5 0 r er 7 0 ha (.inl (by decide))
  exact ⟨ret_two this.1 this.2, hb⟩
theorem aw_yearly1 (W : World) (h : Tab W) : Calls Tryd.prog 38 #[.int .i64 364, .int .i64 1201, .int .i64 228] W fun e w' => e = .returned (.tuple #[.bool true, .int .i64 0]) ∧ W = w' :=
  (yearly_yes 364 1201 228 W h (by decide) (by decide) (by decide) (by decide) (by decide) (by decide) (by decide) (by decide)).mono fun e w' x => ⟨by rw [x.1]; exact ret_bi (by decide) rfl, x.2⟩
theorem aw_yearly2 (W : World) (h : Tab W) : Calls Tryd.prog 38 #[.int .i64 59, .int .i64 1201, .int .i64 228] W fun e w' => e = .returned (.tuple #[.bool false, .int .i64 0]) ∧ W = w' :=
  (yearly_yes 59 1201 228 W h (by decide) (by decide) (by decide) (by decide) (by decide) (by decide) (by decide) (by decide)).mono fun e w' x => ⟨by rw [x.1]; exact ret_bi (by decide) rfl, x.2⟩

theorem Rd_one (w : World) (z : Int) (t : TypeId) : Rd (w.alloc (.cells #[.int .i64 z] t)) (some ⟨w.heap.size, 0, none⟩) [z] := by
  intro _
  refine ⟨w.heap.size, 0, rfl, by simp, fun i hi => ?_⟩
  have : i = 0 := by simpa using hi
  subst this
  go_simp

set_option maxHeartbeats 2000000 in
set_option maxRecDepth 100000 in
theorem awake_any (w : World) (hw : Rdy w) : Calls Tryd.prog 19 #[] w fun e w' => e = .returned (.bool true) ∧ Below w.heap.size w w' := by
  have R0 := Lib.hid hw; clear hw
  go_enter Tryd.func19, Tryd.ntmps19
  go_wp2_with (first
    | (go_at_call 14; (with_reducible refine (aw_day1 _ R0.out.tab).mono ?_); rintro e w' ⟨rfl, rfl⟩)
    | (go_at_call 14; (with_reducible refine (aw_day2 _ R0.out.tab).mono ?_); rintro e w' ⟨rfl, rfl⟩)
    | (go_at_call 14; (with_reducible refine (aw_day3 _ R0.out.tab).mono ?_); rintro e w' ⟨rfl, rfl⟩)
    | (go_at_call 27; (with_reducible refine (aw_date _ R0.out.tab).mono ?_); rintro e w' ⟨rfl, rfl⟩)
    | (go_at_call 28; (with_reducible refine (aw_wd _).mono ?_); rintro e w' ⟨rfl, rfl⟩)
    | (go_at_call 31; (with_reducible refine (aw_text _ R0.out).mono ?_); rintro e w1 ⟨rfl, hb1⟩; have R1 := Lib.hid (R0.out.below hb1); have B1 := Lib.hid hb1; clear hb1)
    | (go_at_call 22; (with_reducible refine (aw_time _ R1.out.tab).mono ?_); rintro e w2 ⟨rfl, hb2⟩; have R2 := Lib.hid (R1.out.below hb2); have B2 := Lib.hid hb2; clear hb2)
    | (go_at_call 34; (with_reducible refine (aw_between _ _ _ (Rd_one _ _ _)).mono ?_); rintro e w3 ⟨rfl, hb3⟩; have B3 := Lib.hid (((Below.refl _ _).alloc (Nat.le_refl _) _).trans (hb3.mono (by simp))); have R3 := Lib.hid (R2.out.below B3.out); clear hb3)
    | (go_at_call 36; (with_reducible refine (aw_ahead1 _ _ _ (Rd_one _ _ _)).mono ?_); rintro e w4 ⟨rfl, hb4⟩; have B4 := Lib.hid (((Below.refl _ _).alloc (Nat.le_refl _) _).trans (hb4.mono (by simp))); have R4 := Lib.hid (R3.out.below B4.out); clear hb4)
    | (go_at_call 36; (with_reducible refine (aw_ahead2 _).mono ?_); rintro e w5 ⟨rfl, hb5⟩; have R5 := Lib.hid (R4.out.below hb5); have B5 := Lib.hid hb5; clear hb5)
    | (go_at_call 38; (with_reducible refine (aw_yearly1 _ R5.out.tab).mono ?_); rintro e w' ⟨rfl, rfl⟩)
    | (go_at_call 38; (with_reducible refine (aw_yearly2 _ R5.out.tab).mono ?_); rintro e w' ⟨rfl, rfl⟩))
  go_ret
  have t1 := B1.out.trans (B2.out.mono B1.out.size)
  have t2 := t1.trans (B3.out.mono t1.size)
  have t3 := t2.trans (B4.out.mono t2.size)
  exact ⟨rfl, t3.trans (B5.out.mono t3.size)⟩

end Go.Proofs.YtmlniggmknjneaaDoor
