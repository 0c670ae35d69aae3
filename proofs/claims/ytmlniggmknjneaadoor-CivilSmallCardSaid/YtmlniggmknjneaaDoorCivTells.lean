/-
  The walk of the law CivilTells.
-/
import Derived.Test.YtmlniggmknjneaaDoorCivRef3
namespace Go.Proofs.YtmlniggmknjneaaDoor
open Go.RowKit
set_option linter.unusedVariables false

set_option maxHeartbeats 1000000 in
theorem lawSplit_any (n : Int) (w : World) (hw : Rdy w) :
    Calls Tryd.prog 49 #[.int .i64 n] w fun e w' => e = .returned (.bool true) ∧ Below w.heap.size w w' := by
  have R0 := Lib.hid hw; clear hw
  by_cases h : 0 ≤ n ∧ n ≤ 1051898399
  · obtain ⟨h0, h1⟩ := h
    go_enter Tryd.func49, Tryd.ntmps49
    go_wp2_with (first
      | (go_at_call 30; refine (split_in n _ h0 h1).mono ?_; rintro e w' ⟨rfl, rfl⟩)
      | (go_at_call 70; refine (rSplit_in n _ h0 h1).mono ?_; rintro e w' ⟨rfl, rfl⟩)
      | (go_at_call 29; refine (timeText_yes n _ R0.out h0 h1).mono ?_; rintro e w1 ⟨rfl, hb1⟩; have B1 := Lib.hid hb1; clear hb1)
      | (go_at_call 71; refine (rTimeText_yes n _ h0 h1).mono ?_; rintro e w2 ⟨rfl, hb2⟩; have B2 := Lib.hid (B1.out.trans (hb2.mono B1.out.size)); clear hb2))
    go_ret
    exact ⟨rfl, B2.out⟩
  · have H := Lib.hid h; clear h
    go_enter Tryd.func49, Tryd.ntmps49
    go_wp2_with (first
      | (go_at_call 30; refine (split_any n _).mono ?_; rintro e w' ⟨rfl, rfl⟩)
      | (go_at_call 70; refine (rSplit_any n _).mono ?_; rintro e w' ⟨rfl, rfl⟩)
      | (go_at_call 29; refine (timeText_no n _ H.out).mono ?_; rintro e w' ⟨rfl, rfl⟩)
      | (go_at_call 71; refine (rTimeText_no n _ H.out).mono ?_; rintro e w' ⟨rfl, rfl⟩))
    go_ret
    exact ⟨rfl, Below.refl _ _⟩

set_option maxHeartbeats 2000000 in
theorem lawDate_any (n m : Int) (w : World) (hw : Rdy w) :
    Calls Tryd.prog 18 #[.int .i64 n, .int .i64 m] w fun e w' => e = .returned (.bool true) ∧ Below w.heap.size w w' := by
  have R0 := Lib.hid hw; clear hw
  have tok1 : True := trivial
  have tok2 : True := trivial
  by_cases h : 0 ≤ n ∧ n ≤ 730484
  · obtain ⟨h0, h1⟩ := h
    go_enter Tryd.func18, Tryd.ntmps18
    go_wp2_with (first
      | (go_at_call 27; refine (date_yes n _ R0.out.tab h0 h1).mono ?_; rintro e w' ⟨rfl, rfl⟩)
      | (go_at_call 45; refine (rDate_yes n _ h0 h1).mono ?_; rintro e w' ⟨rfl, rfl⟩)
      | (go_at_call 28; refine (weekday_any n _).mono ?_; rintro e w' ⟨rfl, rfl⟩)
      | (go_at_call 46; refine (rWeekday_any n _).mono ?_; rintro e w' ⟨rfl, rfl⟩)
      | (go_at_call 31; refine (text_yes n _ R0.out h0 h1).mono ?_; rintro e w1 ⟨rfl, hb1⟩; have R1 := Lib.hid (R0.out.below hb1); have B1 := Lib.hid hb1; clear hb1)
      | (go_at_call 47; refine (rText_yes n _ h0 h1).mono ?_; rintro e w2 ⟨rfl, hb2⟩; have R2 := Lib.hid (R1.out.below hb2); have B2 := Lib.hid (B1.out.trans (hb2.mono B1.out.size)); clear hb2)
      | (go_at_call 39; refine (time_any n m _).mono ?_; rintro e w' ⟨rfl, rfl⟩)
      | (go_at_call 48; refine (rTime_any n m _).mono ?_; rintro e w' ⟨rfl, rfl⟩)
      | (go_at_call 49; have _t := tok1; refine (lawSplit_any _ _ R2.out).mono ?_; rintro e w3 ⟨rfl, hb3⟩; have R3 := Lib.hid (R2.out.below hb3); have B3 := Lib.hid (B2.out.trans (hb3.mono B2.out.size)); clear hb3 tok1)
      | (go_at_call 49; have _t := tok2; refine (lawSplit_any _ _ R3.out).mono ?_; rintro e w4 ⟨rfl, hb4⟩; have R4 := Lib.hid (R3.out.below hb4); have B4 := Lib.hid (B3.out.trans (hb4.mono B3.out.size)); clear hb4 tok2)
      | (go_at_call 49; refine (lawSplit_any _ _ R4.out).mono ?_; rintro e w5 ⟨rfl, hb5⟩; have B5 := Lib.hid (B4.out.trans (hb5.mono B4.out.size)); clear hb5))
    go_ret
    exact ⟨rfl, B5.out⟩
  · have H := Lib.hid h; clear h
    have R2 := R0
    have B2 := Lib.hid (Below.refl w.heap.size w)
    go_enter Tryd.func18, Tryd.ntmps18
    go_wp2_with (first
      | (go_at_call 27; refine (date_no n _ H.out).mono ?_; rintro e w' ⟨rfl, rfl⟩)
      | (go_at_call 45; refine (rDate_no n _ H.out).mono ?_; rintro e w' ⟨rfl, rfl⟩)
      | (go_at_call 28; refine (weekday_any n _).mono ?_; rintro e w' ⟨rfl, rfl⟩)
      | (go_at_call 46; refine (rWeekday_any n _).mono ?_; rintro e w' ⟨rfl, rfl⟩)
      | (go_at_call 31; refine (text_no n _ H.out).mono ?_; rintro e w1 ⟨rfl, rfl⟩)
      | (go_at_call 47; refine (rText_no n _ H.out).mono ?_; rintro e w2 ⟨rfl, rfl⟩)
      | (go_at_call 39; refine (time_any n m _).mono ?_; rintro e w' ⟨rfl, rfl⟩)
      | (go_at_call 48; refine (rTime_any n m _).mono ?_; rintro e w' ⟨rfl, rfl⟩)
      | (go_at_call 49; have _t := tok1; refine (lawSplit_any _ _ R2.out).mono ?_; rintro e w3 ⟨rfl, hb3⟩; have R3 := Lib.hid (R2.out.below hb3); have B3 := Lib.hid (B2.out.trans (hb3.mono B2.out.size)); clear hb3 tok1)
      | (go_at_call 49; have _t := tok2; refine (lawSplit_any _ _ R3.out).mono ?_; rintro e w4 ⟨rfl, hb4⟩; have R4 := Lib.hid (R3.out.below hb4); have B4 := Lib.hid (B3.out.trans (hb4.mono B3.out.size)); clear hb4 tok2)
      | (go_at_call 49; refine (lawSplit_any _ _ R4.out).mono ?_; rintro e w5 ⟨rfl, hb5⟩; have B5 := Lib.hid (B4.out.trans (hb5.mono B4.out.size)); clear hb5))
    go_ret
    exact ⟨rfl, B5.out⟩

set_option maxHeartbeats 1000000 in
/-- CivilTells at any numbers -/
theorem tells_any (y m d n k : Int) (w : World) (hw : Rdy w) :
    Calls Tryd.prog 3 #[.int .i64 y, .int .i64 m, .int .i64 d, .int .i64 n, .int .i64 k] w fun e w' => e = .returned (.bool true) ∧ Below w.heap.size w w' := by
  have R0 := Lib.hid hw; clear hw
  go_enter Tryd.func3, Tryd.ntmps3
  go_wp2_with (first
    | (go_at_call 14; refine (day_any y m d _ R0.out.tab).mono ?_; rintro e w' ⟨rfl, rfl⟩)
    | (go_at_call 15; refine (rDay_any y m d _).mono ?_; rintro e w' ⟨rfl, rfl⟩)
    | (go_at_call 16; refine (leap_any y _).mono ?_; rintro e w' ⟨rfl, rfl⟩)
    | (go_at_call 17; refine (rLeap_any y _).mono ?_; rintro e w' ⟨rfl, rfl⟩)
    | (go_at_call 18; refine (lawDate_any n k _ R0.out).mono ?_; rintro e w1 ⟨rfl, hb1⟩; have R1 := Lib.hid (R0.out.below hb1); have B1 := Lib.hid hb1; clear hb1)
    | (go_at_call 19; refine (awake_any _ R1.out).mono ?_; rintro e w2 ⟨rfl, hb2⟩; have B2 := Lib.hid (B1.out.trans (hb2.mono B1.out.size)); clear hb2))
  go_ret
  exact ⟨rfl, B2.out⟩
theorem walk_civilTells (a0 : Int) (w0 : (Lit.int .i64 a0).wf = true) (a1 : Int) (w1 : (Lit.int .i64 a1).wf = true) (a2 : Int) (w2 : (Lit.int .i64 a2).wf = true) (a3 : Int) (w3 : (Lit.int .i64 a3).wf = true) (a4 : Int) (w4 : (Lit.int .i64 a4).wf = true) (w : World) (hw : Rdy w) :
    Calls Tryd.prog 3 #[.int .i64 a0, .int .i64 a1, .int .i64 a2, .int .i64 a3, .int .i64 a4] w fun e w' => e = .returned (.bool true) ∧ Below w.heap.size w w' :=
  tells_any a0 a1 a2 a3 a4 w hw

end Go.Proofs.YtmlniggmknjneaaDoor
