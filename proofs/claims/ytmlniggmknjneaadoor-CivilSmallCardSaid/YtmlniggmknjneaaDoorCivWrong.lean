/-
  The walk of the law CivilWrong.
-/
import Derived.Test.YtmlniggmknjneaaDoorCivAdds
namespace Go.Proofs.YtmlniggmknjneaaDoor
open Go.RowKit
set_option linter.unusedVariables false

theorem new_cell (W : World) (cs : Array Value) (t : TypeId) (j : Nat) (v : Value) (h : cs[j]? = some v) : (W.alloc (.cells cs t)).cell? ⟨W.heap.size, j, none⟩ = some v := by
  have g : (W.alloc (.cells cs t)).heap[W.heap.size]? = some (.cells cs t) := by
    show (W.heap.push _)[W.heap.size]? = some _
    simp
  simp only [World.cell?, g]; exact h
theorem new_lt (W : World) (v : Value) (cs : Array Value) (t : TypeId) (h : cs[0]? = some v) : W.heap.size < (W.alloc (.cells cs t)).heap.size := World.block_lt_of_cell? _ _ (new_cell W cs t 0 v h)

/-- what the functions say of numbers that are no days and no times -/
structure BadC (x t e : Int) : Prop where
  date : ∀ W, Calls Tryd.prog 27 #[.int .i64 x] W fun r w' => r = .returned (.tuple #[.int .i64 0, .int .i64 0, .int .i64 0, .int .i64 e]) ∧ W = w'
  wd : ∀ W, Calls Tryd.prog 28 #[.int .i64 x] W fun r w' => r = .returned (.tuple #[.int .i64 0, .int .i64 e]) ∧ W = w'
  text : ∀ W, Calls Tryd.prog 31 #[.int .i64 x] W fun r w' => r = .returned (.tuple #[.string ⟨#[]⟩, .int .i64 e]) ∧ W = w'
  time : ∀ W, Calls Tryd.prog 39 #[.int .i64 x, .int .i64 0] W fun r w' => r = .returned (.tuple #[.int .i64 0, .int .i64 e]) ∧ W = w'
  split : ∀ W, Calls Tryd.prog 30 #[.int .i64 t] W fun r w' => r = .returned (.tuple #[.int .i64 0, .int .i64 0, .int .i64 e]) ∧ W = w'
  tt : ∀ W, Calls Tryd.prog 29 #[.int .i64 t] W fun r w' => r = .returned (.tuple #[.string ⟨#[]⟩, .int .i64 e]) ∧ W = w'
  works : ∀ W, Calls Tryd.prog 35 #[.int .i64 x, .slice none 0 0] W fun r w' => r = .returned (.tuple #[.bool false, .int .i64 e]) ∧ W = w'
  ahead : ∀ W, Calls Tryd.prog 36 #[.int .i64 x, .int .i64 0, .slice none 0 0] W (PostR 0 e W)
  yearly : ∀ W, Calls Tryd.prog 38 #[.int .i64 x, .int .i64 0, .int .i64 0] W fun r w' => r = .returned (.tuple #[.bool false, .int .i64 e]) ∧ W = w'
  between : ∀ W, Calls Tryd.prog 34 #[.int .i64 (min x 0), .int .i64 x, .slice none 0 0] W fun r w' => r = .returned (.tuple #[.int .i64 0, .int .i64 e]) ∧ W = w'

theorem bad_low (x t : Int) (hx : x < 0) (ht : t < 0) : BadC x t 2 := by
  have e1 : erD x = 2 := by unfold erD; rw [if_pos hx]
  have e2 : erT t = 2 := by unfold erT; rw [if_pos ht]
  constructor <;> intro W
  · have := date_no x W (by omega); rw [e1] at this; exact this
  · have := weekday_any x W; rw [e1, show wdV x = 0 from by unfold wdV; rw [if_neg (by omega)]] at this; exact this
  · have := text_no x W (by omega); rw [e1] at this; exact this
  · have := time_any x 0 W; rw [show tmV x 0 = 0 from by unfold tmV; rw [if_pos (.inl hx)], show erM x 0 = 2 from by unfold erM; rw [if_pos (.inl hx)]] at this; exact this
  · have := split_any t W; rw [e2, show spD t = 0 from by unfold spD; rw [if_pos ht], show spM t = 0 from by unfold spM; rw [if_pos ht]] at this; exact this
  · have := timeText_no t W (by omega); rw [e2] at this; exact this
  · have := works_out x none 0 [] W (Rd.nil _ _) rfl (by omega); rw [e1] at this; exact this
  · exact ahead_no x 0 none 0 [] W (Rd.nil _ _) (by simp) (by omega)
  · have := yearly_no x 0 0 W (by omega); rw [e1] at this; exact this
  · exact between_no (min x 0) x none 0 [] W (Rd.nil _ _) (by simp) (by omega)
theorem bad_high (x t : Int) (hx : 730484 < x) (ht : 1051898399 < t) : BadC x t 3 := by
  have e1 : erD x = 3 := by unfold erD; rw [if_neg (by omega), if_pos hx]
  have e2 : erT t = 3 := by unfold erT; rw [if_neg (by omega), if_pos ht]
  constructor <;> intro W
  · have := date_no x W (by omega); rw [e1] at this; exact this
  · have := weekday_any x W; rw [e1, show wdV x = 0 from by unfold wdV; rw [if_neg (by omega)]] at this; exact this
  · have := text_no x W (by omega); rw [e1] at this; exact this
  · have := time_any x 0 W; rw [show tmV x 0 = 0 from by unfold tmV; rw [if_neg (by omega), if_pos hx], show erM x 0 = 3 from by unfold erM; rw [if_neg (by omega), if_pos hx]] at this; exact this
  · have := split_any t W; rw [e2, show spD t = 0 from by unfold spD; rw [if_neg (by omega), if_pos ht], show spM t = 0 from by unfold spM; rw [if_neg (by omega), if_pos ht]] at this; exact this
  · have := timeText_no t W (by omega); rw [e2] at this; exact this
  · have := works_out x none 0 [] W (Rd.nil _ _) rfl (by omega); rw [e1] at this; exact this
  · exact ahead_long x 0 none 0 [] W (Rd.nil _ _) rfl (by omega) (by omega) (.inl hx)
  · have := yearly_no x 0 0 W (by omega); rw [e1] at this; exact this
  · rw [show min x 0 = 0 by omega]; exact between_long 0 x none 0 [] W (Rd.nil _ _) rfl (by omega) (by omega) hx

set_option maxRecDepth 100000 in
set_option maxHeartbeats 4000000 in
theorem walk_civilWrong (a0 : Int) (w0 : (Lit.int .i64 a0).wf = true) (a1 : Int) (w1 : (Lit.int .i64 a1).wf = true) (w : World) (hw : Rdy w) :
    Calls Tryd.prog 13 #[.int .i64 a0, .int .i64 a1] w fun e w' => e = .returned (.bool true) ∧ Below w.heap.size w w' := by
  have b1 := int_bd w0
  have b2 := int_bd w1
  clear w0 w1
  have R0 := Lib.hid hw; clear hw
  obtain ⟨n, hn⟩ : ∃ d, d = a0 % 1099511627776 := ⟨_, rfl⟩
  obtain ⟨m, hm⟩ : ∃ d, d = a1 % 1099511627776 := ⟨_, rfl⟩
  obtain ⟨k, hk⟩ : ∃ d, d = a0 % 1000 := ⟨_, rfl⟩
  have hp0 : ∀ W, Calls Tryd.prog 26 #[.int .i64 a0, .int .i64 1099511627776] W fun e w' => e = .returned (.int .i64 n) ∧ W = w' := by
    intro W; rw [hn]; exact pick_any a0 _ W (by omega) (by omega)
  have hp1 : ∀ W, Calls Tryd.prog 26 #[.int .i64 a1, .int .i64 1099511627776] W fun e w' => e = .returned (.int .i64 m) ∧ W = w' := by
    intro W; rw [hm]; exact pick_any a1 _ W (by omega) (by omega)
  have hp2 : ∀ W, Calls Tryd.prog 26 #[.int .i64 a0, .int .i64 1000] W fun e w' => e = .returned (.int .i64 k) ∧ W = w' := by
    intro W; rw [hk]; exact pick_any a0 _ W (by omega) (by omega)
  have n0 : 0 ≤ n ∧ n < 1099511627776 := by omega
  have m0 : 0 ≤ m ∧ m < 1099511627776 := by omega
  have k0 : 0 ≤ k ∧ k < 1000 := by omega
  clear hn hm hk b1 b2
  have P0 := Lib.hid hp0; clear hp0
  have P1 := Lib.hid hp1; clear hp1
  have P2 := Lib.hid hp2; clear hp2
  go_enter Tryd.func13, Tryd.ntmps13
  go_wp2_with (first
    | (go_at_call 19; refine (awake_any _ R0.out).mono ?_; rintro e w1 ⟨rfl, hb1⟩; have R1 := Lib.hid (R0.out.below hb1); have B1 := Lib.hid hb1; clear hb1)
    | (go_at_call 26; (with_reducible refine (P0.out _).mono ?_); rintro e w' ⟨rfl, rfl⟩)
    | (go_at_call 26; (with_reducible refine (P1.out _).mono ?_); rintro e w' ⟨rfl, rfl⟩)
    | (go_at_call 26; (with_reducible refine (P2.out _).mono ?_); rintro e w' ⟨rfl, rfl⟩))
  have hb : w.heap.size ≤ w1.heap.size := B1.out.size
  generalize hW : World.alloc w1 _ = W2
  have hx0 : Below w.heap.size w W2 := by rw [← hW]; exact B1.out.alloc hb _
  have hx1 : w1.heap.size < W2.heap.size := by rw [← hW]; exact new_lt _ _ _ _ rfl
  have hx2 : Rdy W2 := by rw [← hW]; exact R1.out.below ((Below.refl _ _).alloc (Nat.le_refl _) _)
  have c0 : W2.cell? ⟨w1.heap.size, 0, none⟩ = some (.int .i64 (-1 - n)) := by rw [← hW]; exact new_cell _ _ _ _ _ rfl
  have c1 : W2.cell? ⟨w1.heap.size, 1, none⟩ = some (.int .i64 (-1 - m)) := by rw [← hW]; exact new_cell _ _ _ _ _ rfl
  have c2 : W2.cell? ⟨w1.heap.size, 2, none⟩ = some (.int .i64 2) := by rw [← hW]; exact new_cell _ _ _ _ _ rfl
  have c3 : W2.cell? ⟨w1.heap.size, 3, none⟩ = some (.int .i64 (730485 + n)) := by rw [← hW]; exact new_cell _ _ _ _ _ rfl
  have c4 : W2.cell? ⟨w1.heap.size, 4, none⟩ = some (.int .i64 (1051898400 + m)) := by rw [← hW]; exact new_cell _ _ _ _ _ rfl
  have c5 : W2.cell? ⟨w1.heap.size, 5, none⟩ = some (.int .i64 3) := by rw [← hW]; exact new_cell _ _ _ _ _ rfl
  clear hW hb
  generalize w1.heap.size = b at *
  have D0 := Lib.hid (bad_low (-1 - n) (-1 - m) (by omega) (by omega))
  have D1 := Lib.hid (bad_high (730485 + n) (1051898400 + m) (by omega) (by omega))
  generalize (-1 - n) = x0 at *
  generalize (-1 - m) = t0 at *
  generalize (730485 + n) = x1 at *
  generalize (1051898400 + m) = t1 at *
  have BB := Lib.hid hx0; have RR := Lib.hid hx2; clear hx0 hx2
  clear R0 R1 B1 P0 P1
  have CC := Lib.hid (show _ ∧ _ ∧ _ ∧ _ ∧ _ ∧ _ from ⟨c0, c1, c2, c3, c4, c5⟩); clear c0 c1 c2 c3 c4 c5
  go_loopw [50] (fun i wr => ∃ j : Nat, i = .int .i64 j ∧ j ≤ 2 ∧ Hid (Below W2.heap.size W2 wr)) (fun i _ => 2 - (intOf i).toNat)
  case atStart => exact ⟨0, rfl, by omega, Lib.hid (Below.refl _ _)⟩
  case round =>
    obtain ⟨j, rfl, hj, HB⟩ := hrel
    have hlt : b < W2.heap.size := by omega
    obtain ⟨c0, c1, c2, c3, c4, c5⟩ := CC.out
    have hsz := HB.out.size
    rcases (by omega : j = 0 ∨ j = 1 ∨ j = 2) with rfl | rfl | rfl
    · have d0 : wr.cell? ⟨b, 0, none⟩ = _ := (bcell HB.out b 0 hlt).trans c0
      have d1 : wr.cell? ⟨b, 1, none⟩ = _ := (bcell HB.out b 1 hlt).trans c1
      have d2 : wr.cell? ⟨b, 2, none⟩ = _ := (bcell HB.out b 2 hlt).trans c2
      clear c0 c1 c2 c3 c4 c5 CC
      go_wp2_with (first
        | (go_at_call 27; (with_reducible refine (D0.out.date _).mono ?_); rintro e w' ⟨rfl, rfl⟩)
        | (go_at_call 28; (with_reducible refine (D0.out.wd _).mono ?_); rintro e w' ⟨rfl, rfl⟩)
        | (go_at_call 31; (with_reducible refine (D0.out.text _).mono ?_); rintro e w' ⟨rfl, rfl⟩)
        | (go_at_call 39; (with_reducible refine (D0.out.time _).mono ?_); rintro e w' ⟨rfl, rfl⟩)
        | (go_at_call 30; (with_reducible refine (D0.out.split _).mono ?_); rintro e w' ⟨rfl, rfl⟩)
        | (go_at_call 29; (with_reducible refine (D0.out.tt _).mono ?_); rintro e w' ⟨rfl, rfl⟩)
        | (go_at_call 35; (with_reducible refine (D0.out.works _).mono ?_); rintro e w' ⟨rfl, rfl⟩))
      refine (D0.out.ahead _).mono ?_
      rintro e w9 ⟨rfl, hb9⟩
      have hl9 := new_lt wr (.int .i64 x0) #[.int .i64 x0, .int .i64 t0, .int .i64 2] 56 rfl
      have g0 : w9.cell? ⟨wr.heap.size, 0, none⟩ = some (.int .i64 x0) := (bcell hb9 _ 0 hl9).trans (new_cell wr _ _ _ _ rfl)
      have g1 : w9.cell? ⟨wr.heap.size, 1, none⟩ = some (.int .i64 t0) := (bcell hb9 _ 1 hl9).trans (new_cell wr _ _ _ _ rfl)
      have g2 : w9.cell? ⟨wr.heap.size, 2, none⟩ = some (.int .i64 2) := (bcell hb9 _ 2 hl9).trans (new_cell wr _ _ _ _ rfl)
      have HB9 := Lib.hid ((HB.out.alloc hsz _).trans (hb9.mono (by omega)))
      clear hb9 d0 d1 d2
      go_wp2_with (first
        | (go_at_call 38; (with_reducible refine (D0.out.yearly _).mono ?_); rintro e w' ⟨rfl, rfl⟩)
        | (go_at_call 34; (with_reducible refine (D0.out.between _).mono ?_); rintro e w' ⟨rfl, rfl⟩))
      exact ⟨⟨1, rfl, by omega, HB9⟩, by simp [intOf]⟩
    · have d0 : wr.cell? ⟨b, 3, none⟩ = _ := (bcell HB.out b 3 hlt).trans c3
      have d1 : wr.cell? ⟨b, 4, none⟩ = _ := (bcell HB.out b 4 hlt).trans c4
      have d2 : wr.cell? ⟨b, 5, none⟩ = _ := (bcell HB.out b 5 hlt).trans c5
      clear c0 c1 c2 c3 c4 c5 CC
      go_wp2_with (first
        | (go_at_call 27; (with_reducible refine (D1.out.date _).mono ?_); rintro e w' ⟨rfl, rfl⟩)
        | (go_at_call 28; (with_reducible refine (D1.out.wd _).mono ?_); rintro e w' ⟨rfl, rfl⟩)
        | (go_at_call 31; (with_reducible refine (D1.out.text _).mono ?_); rintro e w' ⟨rfl, rfl⟩)
        | (go_at_call 39; (with_reducible refine (D1.out.time _).mono ?_); rintro e w' ⟨rfl, rfl⟩)
        | (go_at_call 30; (with_reducible refine (D1.out.split _).mono ?_); rintro e w' ⟨rfl, rfl⟩)
        | (go_at_call 29; (with_reducible refine (D1.out.tt _).mono ?_); rintro e w' ⟨rfl, rfl⟩)
        | (go_at_call 35; (with_reducible refine (D1.out.works _).mono ?_); rintro e w' ⟨rfl, rfl⟩))
      refine (D1.out.ahead _).mono ?_
      rintro e w9 ⟨rfl, hb9⟩
      have hl9 := new_lt wr (.int .i64 x1) #[.int .i64 x1, .int .i64 t1, .int .i64 3] 56 rfl
      have g0 : w9.cell? ⟨wr.heap.size, 0, none⟩ = some (.int .i64 x1) := (bcell hb9 _ 0 hl9).trans (new_cell wr _ _ _ _ rfl)
      have g1 : w9.cell? ⟨wr.heap.size, 1, none⟩ = some (.int .i64 t1) := (bcell hb9 _ 1 hl9).trans (new_cell wr _ _ _ _ rfl)
      have g2 : w9.cell? ⟨wr.heap.size, 2, none⟩ = some (.int .i64 3) := (bcell hb9 _ 2 hl9).trans (new_cell wr _ _ _ _ rfl)
      have HB9 := Lib.hid ((HB.out.alloc hsz _).trans (hb9.mono (by omega)))
      clear hb9 d0 d1 d2
      go_wp2_with (first
        | (go_at_call 38; (with_reducible refine (D1.out.yearly _).mono ?_); rintro e w' ⟨rfl, rfl⟩)
        | (go_at_call 34; (with_reducible refine (D1.out.between _).mono ?_); rintro e w' ⟨rfl, rfl⟩))
      exact ⟨⟨2, rfl, by omega, HB9⟩, by simp [intOf]⟩
    · clear c0 c1 c2 c3 c4 c5 CC
      go_wp2_with (first
        | (go_at_call 26; (with_reducible refine (P2.out _).mono ?_); rintro e w' ⟨rfl, rfl⟩))
      have hrb : Cv.rightB [k, 0] = false := by
        unfold Cv.rightB
        have : Cv.rgt (-1) [k, 0] = false := by
          cases hh : Cv.rgt (-1) [k, 0]
          · rfl
          · obtain ⟨-, -, h3⟩ := (Cv.rgt_cons _ _ _).1 hh
            obtain ⟨h4, -, -⟩ := (Cv.rgt_cons _ _ _).1 h3
            omega
        rw [this]; simp
      have hl9 := new_lt wr (.int .i64 k) #[.int .i64 k, .int .i64 0] 3 rfl
      have hrd : Rd (wr.alloc (.cells #[.int .i64 k, .int .i64 0] 3)) (some ⟨wr.heap.size, 0, none⟩) [k, 0] := by
        intro _
        refine ⟨wr.heap.size, 0, rfl, hl9, fun i hi => ?_⟩
        match i, hi with
        | 0, _ => exact new_cell wr _ _ _ _ rfl
        | 1, _ => exact new_cell wr _ _ _ _ rfl
      have HRD := Lib.hid hrd; clear hrd
      refine (works_no 0 (some ⟨wr.heap.size, 0, none⟩) 2 [k, 0] _ HRD.out (by simp) hrb).mono ?_
      rintro e w' ⟨rfl, rfl⟩
      go_wp2_with fail
      refine (between_no 0 1 (some ⟨wr.heap.size, 0, none⟩) 2 [k, 0] _ HRD.out (by simp) (by rw [hrb]; simp)).mono ?_
      rintro e w' ⟨rfl, rfl⟩
      go_wp2_with fail
      refine (ahead_no 0 0 (some ⟨wr.heap.size, 0, none⟩) 2 [k, 0] _ HRD.out (by simp) (by rw [hrb]; simp)).mono ?_
      rintro e w9 ⟨rfl, hb9⟩
      have HRD9 := Lib.hid (HRD.out.below hb9)
      have HB9 := Lib.hid ((HB.out.alloc hsz _).trans (hb9.mono (by omega)))
      have HR9 := Lib.hid (RR.out.below HB9.out)
      clear hb9 HRD
      go_wp2_with fail
      refine (yearly_noY 0 101 230 _ HR9.out.tab (by omega) (by omega) (by omega) (by omega) (by omega) (by omega) (by decide)).mono ?_
      rintro e w' ⟨rfl, rfl⟩
      go_wp2_with fail
      refine (yearly_noY 0 0 101 _ HR9.out.tab (by omega) (by omega) (by omega) (by omega) (by omega) (by omega) (by decide)).mono ?_
      rintro e w' ⟨rfl, rfl⟩
      go_wp2_with (go_at_call 40; refine (right_any (some ⟨wr.heap.size, 0, none⟩) 2 [k, 0] _ HRD9.out (by simp)).mono ?_; rw [hrb]; rintro e w' ⟨rfl, rfl⟩)
      go_ret
      exact ⟨rfl, BB.out.trans (HB9.out.mono BB.out.size)⟩

end Go.Proofs.YtmlniggmknjneaaDoor
