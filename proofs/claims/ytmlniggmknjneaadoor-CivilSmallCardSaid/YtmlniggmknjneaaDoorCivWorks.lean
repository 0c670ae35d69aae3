/-
  The walk of the law CivilWorks.
-/
import Derived.Test.YtmlniggmknjneaaDoorCivLent
namespace Go.Proofs.YtmlniggmknjneaaDoor
open Go.RowKit
set_option linter.unusedVariables false

def PostFew (len : Nat) (W : World) (e : Ending) (w' : World) : Prop := ∃ o : Bool, e = .returned (.bool o) ∧ (o = true → len ≤ 60) ∧ W = w'
set_option maxHeartbeats 400000 in
theorem few_any (A : Option Addr) (len cap : Nat) (a b n : Int) (w : World) :
    Calls Tryd.prog 52 #[.slice A len cap, .int .i64 a, .int .i64 b, .int .i64 n] w (PostFew len w) := by
  go_enter Tryd.func52, Tryd.ntmps52
  by_cases h : len ≤ 60
  · have h1 : (len : Int) ≤ 60 := by omega
    go_wp2
    all_goals
      go_ret
      exact ⟨_, rfl, fun _ => h, rfl⟩
  · have h1 : ¬ (len : Int) ≤ 60 := by omega
    go_wp2
    all_goals
      go_ret
      exact ⟨_, rfl, fun h => by simp at h, rfl⟩

def wkV (zs : List Int) (d : Int) : Bool := Cv.rightB zs && decide (0 ≤ d ∧ d ≤ 730484) && Cv.isW zs d
def wkE (zs : List Int) (d : Int) : Int := if Cv.rightB zs = true then erD d else 2
theorem works_all (d : Int) (A : Option Addr) (cap : Nat) (zs : List Int) (w : World) (hr : Rd w A zs) (hl : zs.length ≤ 1000) :
    Calls Tryd.prog 35 #[.int .i64 d, .slice A zs.length cap] w fun e w' => e = .returned (.tuple #[.bool (wkV zs d), .int .i64 (wkE zs d)]) ∧ Below w.heap.size w w' := by
  unfold wkV wkE
  by_cases h1 : Cv.rightB zs = true
  · rw [if_pos h1, h1]
    by_cases h2 : 0 ≤ d ∧ d ≤ 730484
    · have := works_yes d A cap zs w hr h1 h2.1 h2.2
      rw [decide_eq_true h2, show erD d = 0 from by unfold erD; rw [if_neg (by omega), if_neg (by omega)]]
      exact this
    · rw [decide_eq_false h2]
      exact (works_out d A cap zs w hr h1 h2).mono fun e w' h => ⟨h.1, h.2 ▸ Below.refl _ _⟩
  · have h1 : Cv.rightB zs = false := by simpa using h1
    rw [if_neg (by rw [h1]; simp), h1]
    exact (works_no d A cap zs w hr (by omega) h1).mono fun e w' h => ⟨h.1, h.2 ▸ Below.refl _ _⟩
theorem rWorks_all (d : Int) (A : Option Addr) (cap : Nat) (zs : List Int) (w : World) (hr : Rd w A zs) (hl : zs.length ≤ 1000) :
    Calls Tryd.prog 54 #[.int .i64 d, .slice A zs.length cap] w fun e w' => e = .returned (.tuple #[.bool (wkV zs d), .int .i64 (wkE zs d)]) ∧ Below w.heap.size w w' := by
  unfold wkV wkE
  by_cases h1 : Cv.rightB zs = true
  · rw [if_pos h1, h1]
    by_cases h2 : 0 ≤ d ∧ d ≤ 730484
    · have := rWorks_yes d A cap zs w hr (by omega) h1 h2.1 h2.2
      rw [decide_eq_true h2, show erD d = 0 from by unfold erD; rw [if_neg (by omega), if_neg (by omega)]]
      exact this
    · rw [decide_eq_false h2]
      exact rWorks_out d A cap zs w hr (by omega) h1 h2
  · have h1 : Cv.rightB zs = false := by simpa using h1
    rw [if_neg (by rw [h1]; simp), h1]
    exact rWorks_no d A cap zs w hr (by omega) h1

def btO (zs : List Int) (a b : Int) : Bool := Cv.rightB zs && decide (0 ≤ a ∧ a ≤ b)
def btV (zs : List Int) (a b : Int) : Int := if btO zs a b = true then if b ≤ 730484 then Cv.wif zs b - Cv.wif zs a else 0 else 0
def btE (zs : List Int) (a b : Int) : Int := if btO zs a b = true then if b ≤ 730484 then 0 else 3 else 2
theorem btO_iff (zs : List Int) (a b : Int) : btO zs a b = true ↔ Cv.rightB zs = true ∧ 0 ≤ a ∧ a ≤ b := by simp [btO]
theorem between_all (a b : Int) (A : Option Addr) (cap : Nat) (zs : List Int) (w : World) (hr : Rd w A zs) (hl : zs.length ≤ 1000) :
    Calls Tryd.prog 34 #[.int .i64 a, .int .i64 b, .slice A zs.length cap] w fun e w' => e = .returned (.tuple #[.int .i64 (btV zs a b), .int .i64 (btE zs a b)]) ∧ Below w.heap.size w w' := by
  unfold btV btE
  by_cases h1 : btO zs a b = true
  · rw [if_pos h1, if_pos h1]
    obtain ⟨h2, h3, h4⟩ := (btO_iff _ _ _).1 h1
    by_cases h5 : b ≤ 730484
    · rw [if_pos h5, if_pos h5]
      exact between_yes a b A cap zs w hr h2 h3 h4 h5
    · rw [if_neg h5, if_neg h5]
      exact (between_long a b A cap zs w hr h2 h3 h4 (by omega)).mono fun e w' h => ⟨h.1, h.2 ▸ Below.refl _ _⟩
  · rw [if_neg h1, if_neg h1]
    exact (between_no a b A cap zs w hr (by omega) (fun h => h1 ((btO_iff _ _ _).2 h))).mono fun e w' h => ⟨h.1, h.2 ▸ Below.refl _ _⟩
theorem rBetween_all (a b : Int) (A : Option Addr) (cap : Nat) (zs : List Int) (w : World) (hr : Rd w A zs) (hl : zs.length ≤ 1000) :
    Calls Tryd.prog 56 #[.int .i64 a, .int .i64 b, .slice A zs.length cap] w fun e w' => e = .returned (.tuple #[.int .i64 (btV zs a b), .int .i64 (btE zs a b)]) ∧ Below w.heap.size w w' := by
  unfold btV btE
  by_cases h1 : btO zs a b = true
  · rw [if_pos h1, if_pos h1]
    obtain ⟨h2, h3, h4⟩ := (btO_iff _ _ _).1 h1
    by_cases h5 : b ≤ 730484
    · rw [if_pos h5, if_pos h5]
      exact rBetween_yes a b A cap zs w hr (by omega) h2 h3 h4 h5
    · rw [if_neg h5, if_neg h5]
      exact rBetween_long a b A cap zs w hr (by omega) h2 h3 h4 (by omega)
  · rw [if_neg h1, if_neg h1]
    exact rBetween_no a b A cap zs w hr (by omega) (fun h => h1 ((btO_iff _ _ _).2 h))

/-- what Ahead answers, whatever the arguments -/
def AhIs (zs : List Int) (day n r er : Int) : Prop := if Cv.rightB zs = true ∧ 0 ≤ day ∧ 0 ≤ n then Cv.AheadIs zs day n r er else r = 0 ∧ er = 2
theorem ahIs_one (zs : List Int) (day n r er r2 er2 : Int) (a : AhIs zs day n r er) (b : AhIs zs day n r2 er2) : r = r2 ∧ er = er2 := by
  unfold AhIs at a b
  by_cases h : Cv.rightB zs = true ∧ 0 ≤ day ∧ 0 ≤ n
  · rw [if_pos h] at a b
    exact Cv.ahead_one zs (right_parts h.1).2 day n r er r2 er2 a b
  · rw [if_neg h] at a b
    exact ⟨a.1.trans b.1.symm, a.2.trans b.2.symm⟩
def PostAh (zs : List Int) (day n : Int) (W : World) (e : Ending) (w' : World) : Prop :=
  ∃ r er : Int, e = .returned (.tuple #[.int .i64 r, .int .i64 er]) ∧ AhIs zs day n r er ∧ Below W.heap.size W w'
theorem aheadAll (day n : Int) (A : Option Addr) (cap : Nat) (zs : List Int) (w : World) (hr : Rd w A zs) (hl : zs.length ≤ 1000) :
    Calls Tryd.prog 36 #[.int .i64 day, .int .i64 n, .slice A zs.length cap] w (PostAh zs day n w) := by
  by_cases h : Cv.rightB zs = true ∧ 0 ≤ day ∧ 0 ≤ n
  · refine (ahead_every day n A cap zs w hr h.1 h.2.1 h.2.2).mono ?_
    rintro e w' ⟨r, er, rfl, ha, hb⟩
    exact ⟨r, er, rfl, by unfold AhIs; rw [if_pos h]; exact ha, hb⟩
  · refine (ahead_no day n A cap zs w hr (by omega) h).mono ?_
    rintro e w' ⟨rfl, hb⟩
    exact ⟨0, 2, rfl, by unfold AhIs; rw [if_neg h]; exact ⟨rfl, rfl⟩, hb⟩
theorem rAheadAll (day n : Int) (A : Option Addr) (cap : Nat) (zs : List Int) (w : World) (hr : Rd w A zs) (hl : zs.length ≤ 1000) (h4 : n ≤ 9223372036854775807) (h5 : day ≤ 9223372036854775807) :
    Calls Tryd.prog 57 #[.int .i64 day, .int .i64 n, .slice A zs.length cap] w (PostAh zs day n w) := by
  by_cases h : Cv.rightB zs = true ∧ 0 ≤ day ∧ 0 ≤ n
  · refine (rAhead_any day n A cap zs w hr (by omega) h.1 h.2.1 h.2.2 h4 h5).mono ?_
    rintro e w' ⟨r, er, rfl, ha, hb⟩
    exact ⟨r, er, rfl, by unfold AhIs; rw [if_pos h]; exact ha, hb⟩
  · refine (rAhead_no day n A cap zs w hr (by omega) h).mono ?_
    rintro e w' ⟨rfl, hb⟩
    exact ⟨0, 2, rfl, by unfold AhIs; rw [if_neg h]; exact ⟨rfl, rfl⟩, hb⟩

def ylV (n a b : Int) : Bool := decide (0 ≤ n ∧ n ≤ 730484) && (isY a && isY b) && yearlyB n a b
def ylE (n a b : Int) : Int := if 0 ≤ n ∧ n ≤ 730484 then if (isY a && isY b) = true then 0 else 10 else erD n
theorem yearly_all (n a b : Int) (w : World) (ht : Tab w) (a0 : -9223372036854775808 ≤ a) (a1 : a ≤ 9223372036854775807) (b0 : -9223372036854775808 ≤ b) (b1 : b ≤ 9223372036854775807) :
    Calls Tryd.prog 38 #[.int .i64 n, .int .i64 a, .int .i64 b] w fun e w' => e = .returned (.tuple #[.bool (ylV n a b), .int .i64 (ylE n a b)]) ∧ w = w' := by
  unfold ylV ylE
  by_cases h : 0 ≤ n ∧ n ≤ 730484
  · rw [if_pos h, decide_eq_true h]
    by_cases h2 : (isY a && isY b) = true
    · rw [if_pos h2, h2]
      simp only [Bool.and_eq_true] at h2
      exact yearly_yes n a b w ht h.1 h.2 a0 a1 b0 b1 h2.1 h2.2
    · have h2 : (isY a && isY b) = false := by simpa using h2
      rw [if_neg (by rw [h2]; simp), h2]
      exact yearly_noY n a b w ht h.1 h.2 a0 a1 b0 b1 h2
  · rw [if_neg h, decide_eq_false h]
    exact yearly_no n a b w h
theorem rYearly_all (n a b : Int) (w : World) (a0 : -9223372036854775808 ≤ a) (a1 : a ≤ 9223372036854775807) (b0 : -9223372036854775808 ≤ b) (b1 : b ≤ 9223372036854775807) :
    Calls Tryd.prog 58 #[.int .i64 n, .int .i64 a, .int .i64 b] w fun e w' => e = .returned (.tuple #[.bool (ylV n a b), .int .i64 (ylE n a b)]) ∧ w = w' := by
  unfold ylV ylE
  by_cases h : 0 ≤ n ∧ n ≤ 730484
  · rw [if_pos h, decide_eq_true h]
    by_cases h2 : (isY a && isY b) = true
    · rw [if_pos h2, h2]
      simp only [Bool.and_eq_true] at h2
      exact rYearly_yes n a b w h.1 h.2 a0 a1 b0 b1 h2.1 h2.2
    · have h2 : (isY a && isY b) = false := by simpa using h2
      rw [if_neg (by rw [h2]; simp), h2]
      exact rYearly_noY n a b w h.1 h.2 a0 a1 b0 b1 h2
  · rw [if_neg h, decide_eq_false h]
    exact rYearly_no n a b w h

set_option maxRecDepth 100000 in
set_option maxHeartbeats 2000000 in
theorem works_law (A : Option Addr) (cap : Nat) (zs : List Int) (a b n c d : Int) (w : World) (hw : Rdy w) (hr : Rd w A zs) (hA : A = none → zs.length = 0 ∧ cap = 0)
    (a1 : a ≤ 9223372036854775807) (n1 : n ≤ 9223372036854775807) (c0 : -9223372036854775808 ≤ c) (c1 : c ≤ 9223372036854775807) (d0 : -9223372036854775808 ≤ d) (d1 : d ≤ 9223372036854775807) :
    Calls Tryd.prog 24 #[.slice A zs.length cap, .int .i64 a, .int .i64 b, .int .i64 n, .int .i64 c, .int .i64 d] w fun e w' => e = .returned (.bool true) ∧ Below w.heap.size w w' := by
  have R0 := Lib.hid hw; clear hw
  have Hr := Lib.hid hr; clear hr
  have HA := Lib.hid hA; clear hA
  go_enter Tryd.func24, Tryd.ntmps24
  go_wp2_with fail
  refine (few_any _ _ _ _ _ _ _).mono ?_
  rintro e w' ⟨o, rfl, ho, rfl⟩
  rcases o with _ | _
  · go_wp2_with fail
    go_ret
    exact ⟨rfl, Below.refl _ _⟩
  have hl := ho rfl
  clear ho
  go_wp2_with fail
  refine (lent_any A cap zs w Hr.out HA.out (by omega)).mono ?_
  rintro e w1 ⟨g, rfl, hL, hb⟩
  have HL1 := Lib.hid hL
  have H1 := Lib.hid (Hr.out.below hb)
  have R1 := Lib.hid (R0.out.below hb)
  have B1 := Lib.hid hb
  clear hL hb
  go_wp2_with fail
  refine (works_all a _ _ zs w1 HL1.out.rd (by omega)).mono ?_
  rintro e w2 ⟨rfl, hb⟩
  have HL2 := Lib.hid (HL1.out.below hb)
  have H2 := Lib.hid (H1.out.below hb)
  have R2 := Lib.hid (R1.out.below hb)
  have B2 := Lib.hid (B1.out.trans (hb.mono B1.out.size))
  clear hb HL1 H1 R1 B1
  go_wp2_with fail
  refine (rWorks_all a _ _ zs w2 H2.out (by omega)).mono ?_
  rintro e w3 ⟨rfl, hb⟩
  have HL3 := Lib.hid (HL2.out.below hb)
  have H3 := Lib.hid (H2.out.below hb)
  have R3 := Lib.hid (R2.out.below hb)
  have B3 := Lib.hid (B2.out.trans (hb.mono B2.out.size))
  clear hb HL2 H2 R2 B2
  go_wp2_with fail
  refine (right_any _ _ zs w3 HL3.out.rd (by omega)).mono ?_
  rintro e w' ⟨rfl, rfl⟩
  go_wp2_with fail
  refine (rRight_any _ _ zs w3 H3.out (by omega)).mono ?_
  rintro e w4 ⟨rfl, hb⟩
  have HL4 := Lib.hid (HL3.out.below hb)
  have H4 := Lib.hid (H3.out.below hb)
  have R4 := Lib.hid (R3.out.below hb)
  have B4 := Lib.hid (B3.out.trans (hb.mono B3.out.size))
  clear hb HL3 H3 R3 B3
  go_wp2_with fail
  refine (between_all a b _ _ zs w4 HL4.out.rd (by omega)).mono ?_
  rintro e w5 ⟨rfl, hb⟩
  have HL5 := Lib.hid (HL4.out.below hb)
  have H5 := Lib.hid (H4.out.below hb)
  have R5 := Lib.hid (R4.out.below hb)
  have B5 := Lib.hid (B4.out.trans (hb.mono B4.out.size))
  clear hb HL4 H4 R4 B4
  go_wp2_with fail
  refine (rBetween_all a b _ _ zs w5 H5.out (by omega)).mono ?_
  rintro e w6 ⟨rfl, hb⟩
  have HL6 := Lib.hid (HL5.out.below hb)
  have H6 := Lib.hid (H5.out.below hb)
  have R6 := Lib.hid (R5.out.below hb)
  have B6 := Lib.hid (B5.out.trans (hb.mono B5.out.size))
  clear hb HL5 H5 R5 B5
  go_wp2_with fail
  refine (aheadAll a n _ _ zs w6 HL6.out.rd (by omega)).mono ?_
  rintro e w7 ⟨r, er, rfl, ha, hb⟩
  have HA7 := Lib.hid ha
  have HL7 := Lib.hid (HL6.out.below hb)
  have H7 := Lib.hid (H6.out.below hb)
  have R7 := Lib.hid (R6.out.below hb)
  have B7 := Lib.hid (B6.out.trans (hb.mono B6.out.size))
  clear hb ha HL6 H6 R6 B6
  go_wp2_with fail
  refine (rAheadAll a n _ _ zs w7 H7.out (by omega) n1 a1).mono ?_
  rintro e w8 ⟨r2, er2, rfl, ha, hb⟩
  obtain ⟨rfl, rfl⟩ := ahIs_one zs a n r er r2 er2 HA7.out ha
  have HL8 := Lib.hid (HL7.out.below hb)
  have H8 := Lib.hid (H7.out.below hb)
  have R8 := Lib.hid (R7.out.below hb)
  have B8 := Lib.hid (B7.out.trans (hb.mono B7.out.size))
  clear hb ha HL7 H7 R7 B7 HA7
  go_wp2_with fail
  refine (yearly_all a c d w8 R8.out.tab c0 c1 d0 d1).mono ?_
  rintro e w' ⟨rfl, rfl⟩
  go_wp2_with fail
  refine (rYearly_all a c d w8 c0 c1 d0 d1).mono ?_
  rintro e w' ⟨rfl, rfl⟩
  go_wp2_with fail
  refine (kept_any A cap _ g zs w8 H8.out HL8.out (by omega)).mono ?_
  rintro e w9 ⟨rfl, hb⟩
  have B9 := Lib.hid (B8.out.trans (hb.mono B8.out.size))
  clear hb
  go_wp2_with fail
  go_ret
  exact ⟨rfl, B9.out⟩


theorem row_none {k : IntKind} {w : World} {a : Option Addr} {len cap : Nat} {zs : List Int} (h : IsRow k w a len cap zs) : a = none → len = 0 ∧ cap = 0 := by
  rcases h with ⟨rfl, rfl, rfl, rfl⟩ | ⟨x, rfl, hl, hm, hz, hc, hw⟩
  · exact fun _ => ⟨rfl, rfl⟩
  · intro h; cases h

theorem works_row (w : World) (a0 : Option Addr) (len0 cap0 : Nat) (z0 : List Int) (w0 : IsRow .i64 w a0 len0 cap0 z0) (a b n c d : Int) (W : World) (hw : Rdy W) (hb : Below w.heap.size w W)
    (a1 : a ≤ 9223372036854775807) (n1 : n ≤ 9223372036854775807) (c0 : -9223372036854775808 ≤ c) (c1 : c ≤ 9223372036854775807) (d0 : -9223372036854775808 ≤ d) (d1 : d ≤ 9223372036854775807) :
    Calls Tryd.prog 24 #[.slice a0 len0 cap0, .int .i64 a, .int .i64 b, .int .i64 n, .int .i64 c, .int .i64 d] W fun e w' => e = .returned (.bool true) ∧ Below W.heap.size W w' := by
  obtain ⟨e, hr⟩ := row_rd w0
  have hrd : Rd w a0 (z0.take len0) := hr
  have := works_law a0 cap0 (z0.take len0) a b n c d W hw (hrd.below hb) (by rw [e]; exact row_none w0) a1 n1 c0 c1 d0 d1
  rw [e] at this
  exact this

set_option maxHeartbeats 1000000 in
theorem walk_civilWorks (w : World) (a0 : Option Addr) (len0 cap0 : Nat) (z0 : List Int) (w0 : IsRow .i64 w a0 len0 cap0 z0) (a1 : Int) (w1 : (Lit.int .i64 a1).wf = true) (a2 : Int) (w2 : (Lit.int .i64 a2).wf = true) (a3 : Int) (w3 : (Lit.int .i64 a3).wf = true) (a4 : Int) (w4 : (Lit.int .i64 a4).wf = true) (a5 : Int) (w5 : (Lit.int .i64 a5).wf = true) (hw : Rdy w) :
    Calls Tryd.prog 5 #[.slice a0 len0 cap0, .int .i64 a1, .int .i64 a2, .int .i64 a3, .int .i64 a4, .int .i64 a5] w fun e w' => e = .returned (.bool true) ∧ Below w.heap.size w w' := by
  have b1 := int_bd w1
  have b3 := int_bd w3
  have b4 := int_bd w4
  have b5 := int_bd w5
  clear w1 w2 w3 w4 w5
  have R0 := Lib.hid hw; clear hw
  have W0 := Lib.hid w0; clear w0
  go_enter Tryd.func5, Tryd.ntmps5
  go_wp2_with (first
    | (go_at_call 19; refine (awake_any _ R0.out).mono ?_; rintro e w1 ⟨rfl, hb1⟩; have R1 := Lib.hid (R0.out.below hb1); have B1 := Lib.hid hb1; clear hb1))
  refine (works_row w a0 len0 cap0 z0 W0.out a1 a2 a3 a4 a5 w1 R1.out B1.out (by omega) (by omega) (by omega) (by omega) (by omega) (by omega)).mono ?_
  rintro e w2 ⟨rfl, hb2⟩
  have B2 := Lib.hid (B1.out.trans (hb2.mono B1.out.size))
  clear hb2
  go_wp2
  go_ret
  exact ⟨rfl, B2.out⟩

end Go.Proofs.YtmlniggmknjneaaDoor
