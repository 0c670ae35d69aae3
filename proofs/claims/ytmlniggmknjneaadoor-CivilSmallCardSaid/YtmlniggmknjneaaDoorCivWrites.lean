/-
  The walk of the law CivilWrites.
-/
import Derived.Test.YtmlniggmknjneaaDoorCivOrder
namespace Go.Proofs.YtmlniggmknjneaaDoor
open Go.RowKit
set_option linter.unusedVariables false

theorem split_in (n : Int) (w : World) (h0 : 0 ≤ n) (h1 : n ≤ 1051898399) : Calls Tryd.prog 30 #[.int .i64 n] w fun e w' => e = .returned (.tuple #[.int .i64 (n / 1440), .int .i64 (n % 1440), .int .i64 0]) ∧ w = w' := by
  refine (split_any n w).mono ?_
  rintro e w' ⟨rfl, rfl⟩
  exact ⟨ret_three (by rw [spD, if_neg (by omega), if_neg (by omega)]) (by rw [spM, if_neg (by omega), if_neg (by omega)]) (by rw [erT, if_neg (by omega), if_neg (by omega)]), rfl⟩
theorem readTime_timeT (n : Int) (w : World) (h0 : 0 ≤ n) (h1 : n ≤ 1051898399) (ht : Tab w) : Calls Tryd.prog 22 #[.string ⟨(Cv.timeT n).toArray⟩] w fun e w' => e = .returned (.tuple #[.int .i64 n, .int .i64 0]) ∧ Below w.heap.size w w' := by
  have hl : (⟨(Cv.timeT n).toArray⟩ : ByteArray).size = 16 := by show (Cv.timeT n).toArray.size = 16; rw [List.size_toArray, (timeT_parts n).2.2.2.2.2]
  refine (readTime_any _ w (by omega) ht).mono ?_
  rintro e w' ⟨rfl, hb⟩
  have := rt_timeT n h0 h1
  exact ⟨ret_two this.1 this.2, hb⟩
theorem read_dateT (n : Int) (w : World) (h0 : 0 ≤ n) (h1 : n ≤ 730484) (ht : Tab w) : Calls Tryd.prog 20 #[.string ⟨(Cv.dateT n).toArray⟩] w fun e w' => e = .returned (.tuple #[.int .i64 n, .int .i64 0]) ∧ Below w.heap.size w w' := by
  have hl : (⟨(Cv.dateT n).toArray⟩ : ByteArray).size = 10 := by show (Cv.dateT n).toArray.size = 10; rw [List.size_toArray, dateT_len]
  refine (read_any _ w (by omega) ht).mono ?_
  rintro e w' ⟨rfl, hb⟩
  have := rd_dateT n h0 h1
  exact ⟨ret_two this.1 this.2, hb⟩

set_option maxHeartbeats 2000000 in
theorem walk_civilWrites (a0 : Int) (w0 : (Lit.int .i64 a0).wf = true) (a1 : Int) (w1 : (Lit.int .i64 a1).wf = true) (w : World) (hw : Rdy w) :
    Calls Tryd.prog 9 #[.int .i64 a0, .int .i64 a1] w fun e w' => e = .returned (.bool true) ∧ Below w.heap.size w w' := by
  have b0 := int_bd w0
  have b1 := int_bd w1
  clear w0 w1
  have R0 := Lib.hid hw; clear hw
  obtain ⟨x, hx⟩ : ∃ d, d = a0 % 1051898400 := ⟨_, rfl⟩
  obtain ⟨y, hy⟩ : ∃ d, d = a1 % 1051898400 := ⟨_, rfl⟩
  have hp : ∀ W, Calls Tryd.prog 26 #[.int .i64 a0, .int .i64 1051898400] W fun e w' => e = .returned (.int .i64 x) ∧ W = w' := by
    intro W; rw [hx]; exact pick_any a0 _ W (by omega) (by omega)
  have hp1 : ∀ W, Calls Tryd.prog 26 #[.int .i64 a1, .int .i64 1051898400] W fun e w' => e = .returned (.int .i64 y) ∧ W = w' := by
    intro W; rw [hy]; exact pick_any a1 _ W (by omega) (by omega)
  have x0 : 0 ≤ x := by omega
  have x1 : x ≤ 1051898399 := by omega
  have y0 : 0 ≤ y := by omega
  have y1 : y ≤ 1051898399 := by omega
  clear hx hy b0 b1
  have P0 := Lib.hid hp; clear hp
  have P1 := Lib.hid hp1; clear hp1
  have hlt := bl_timeT x y x0 x1 y0 y1
  have htk := (timeT_parts x).1
  have hln := (timeT_parts x).2.2.2.2.2
  go_enter Tryd.func9, Tryd.ntmps9
  go_wp2_with (first
    | (go_at_call 19; refine (awake_any _ R0.out).mono ?_; rintro e w1 ⟨rfl, hb1⟩; have R1 := Lib.hid (R0.out.below hb1); have B1 := Lib.hid hb1; clear hb1)
    | (go_at_call 26; (with_reducible refine (P0.out _).mono ?_); rintro e w' ⟨rfl, rfl⟩)
    | (go_at_call 26; (with_reducible refine (P1.out _).mono ?_); rintro e w' ⟨rfl, rfl⟩)
    | (go_at_call 29; (with_reducible refine (timeText_yes x _ R1.out x0 x1).mono ?_); rintro e w2 ⟨rfl, hb2⟩; have R2 := Lib.hid (R1.out.below hb2); have B2 := Lib.hid (B1.out.trans (hb2.mono B1.out.size)); clear hb2)
    | (go_at_call 29; (with_reducible refine (timeText_yes y _ R2.out y0 y1).mono ?_); rintro e w3 ⟨rfl, hb3⟩; have R3 := Lib.hid (R2.out.below hb3); have B3 := Lib.hid (B2.out.trans (hb3.mono B2.out.size)); clear hb3)
    | (go_at_call 22; refine (readTime_timeT x _ x0 x1 R3.out.tab).mono ?_; rintro e w4 ⟨rfl, hb4⟩; have R4 := Lib.hid (R3.out.below hb4); have B4 := Lib.hid (B3.out.trans (hb4.mono B3.out.size)); clear hb4)
    | (go_at_call 30; refine (split_in x _ x0 x1).mono ?_; rintro e w' ⟨rfl, rfl⟩)
    | (go_at_call 31; refine (text_yes (x / 1440) _ R4.out (by omega) (by omega)).mono ?_; rintro e w5 ⟨rfl, hb5⟩; have R5 := Lib.hid (R4.out.below hb5); have B5 := Lib.hid (B4.out.trans (hb5.mono B4.out.size)); clear hb5)
    | (go_at_call 20; refine (read_dateT (x / 1440) _ (by omega) (by omega) R5.out.tab).mono ?_; rintro e w6 ⟨rfl, hb6⟩; have B6 := Lib.hid (B5.out.trans (hb6.mono B5.out.size)); clear hb6))
  go_ret
  refine ⟨ret_bool ?_, B6.out⟩
  rw [Lib.toList_data]
  have e : (({ data := (Cv.timeT x).toArray } : ByteArray).extract 0 10).data.toList = (Cv.timeT x).take 10 := by simp
  rw [e, htk]
  simp

end Go.Proofs.YtmlniggmknjneaaDoor
