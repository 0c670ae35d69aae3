/-
  The walks of the reference's functions over holidays.
-/
import Derived.Test.YtmlniggmknjneaaDoorCivWrong
import Derived.Test.YtmlniggmknjneaaDoorCivTells
namespace Go.Proofs.YtmlniggmknjneaaDoor
open Go.RowKit
set_option linter.unusedVariables false

set_option maxHeartbeats 2000000 in
theorem rRight_any (A : Option Addr) (cap : Nat) (zs : List Int) (w : World) (hr : Rd w A zs) (hl : zs.length ≤ 9223372036854775807) :
    Calls Tryd.prog 55 #[.slice A zs.length cap] w fun e w' => e = .returned (.bool (Cv.rightB zs)) ∧ Below w.heap.size w w' := by
  have Hr := Lib.hid hr; clear hr
  have hb : Cv.rightB zs = (decide (zs.length ≤ 1000) && Cv.rgt (-1) zs) := rfl
  have HB := Lib.hid hb; clear hb
  go_enter Tryd.func55, Tryd.ntmps55
  go_wp2
  go_loopw [3] (fun i wr => ∃ (k : Nat) (a : Int), k ≤ zs.length ∧ i = .int .i64 k ∧ Hid ((k = 0 → a = -1) ∧ (0 < k → a = zs.getD (k - 1) 0 ∧ 0 ≤ a)) ∧ Hid (Cv.rgt (-1) zs = Cv.rgt a (zs.drop k)) ∧ Hid (Below w.heap.size w wr)) (fun i _ => zs.length - (intOf i).toNat)
  case atStart => exact ⟨0, -1, by omega, rfl, Lib.hid ⟨fun _ => rfl, fun h => by omega⟩, Lib.hid rfl, Lib.hid (Below.refl _ _)⟩
  case round =>
    obtain ⟨k, a, hk, rfl, ha, hm, BW⟩ := hrel
    by_cases hlt : k < zs.length
    · obtain ⟨b, off, rfl, hb, hc⟩ := Hr.out.below BW.out (by omega)
      have hc1 := hc k hlt
      have hd := rgt_drop k a zs hlt
      obtain ⟨z, hz⟩ : ∃ z, z = zs.getD k 0 := ⟨_, rfl⟩
      rw [← hz] at hc1 hd
      have HZ := Lib.hid hz; clear hz
      have Hd := Lib.hid hd; clear hd
      have hno : z < 0 ∨ 730484 < z ∨ z ≤ a → Cv.rightB zs = false := by
        intro h
        have : Cv.rgt (-1) zs = false := by
          rw [hm.out, Hd.out]
          by_cases c1 : a < z
          · by_cases c2 : z ≤ 730484
            · have : a < 0 := by omega
              have hk0 : ¬ 0 < k := fun c => by have := (ha.out.2 c).2; omega
              have := ha.out.1 (by omega)
              omega
            · rw [decide_eq_false c2]; simp
          · rw [decide_eq_false c1]; simp
        rw [HB.out, this]; simp
      have HNO := Lib.hid hno; clear hno
      by_cases c1 : z < 0
      · clear hc
        go_wp2_with fail
        go_quiet (fail)
        go_wp2
        go_ret
        exact ⟨ret_bool (HNO.out (.inl c1)).symm, below_drewN BW.out nq⟩
      have f1 : decide (z < 0) = false := decide_eq_false c1
      by_cases c2 : 730484 < z
      · clear hc
        go_wp2_with fail
        go_quiet (fail)
        go_wp2
        go_ret
        exact ⟨ret_bool (HNO.out (.inr (.inl c2))).symm, below_drewN BW.out nq⟩
      have f2 : decide (730484 < z) = false := decide_eq_false c2
      rcases k with _ | k
      · have Hg := Lib.hid (show Cv.rgt (-1) zs = Cv.rgt z (zs.drop (0 + 1)) by
          have := ha.out.1 rfl
          rw [hm.out, Hd.out, decide_eq_true (by omega), decide_eq_true (by omega)]; rfl)
        have i2 : (0 : Int) < (zs.length : Int) := by omega
        rw [Nat.add_zero] at hc1
        clear hc c1 c2
        go_wp2_with fail
        go_quiet (fail)
        go_wp2
        exact ⟨⟨1, z, by omega, rfl, Lib.hid ⟨fun h => by omega, fun h => ⟨HZ.out, by simpa using f1⟩⟩, Hg, Lib.hid (below_drewN BW.out nq)⟩, by simp [intOf]; omega⟩
      · have hc2 := hc k (by omega)
        have ha2 := ha.out.2 (by omega)
        rw [Nat.add_sub_cancel] at ha2
        rw [← ha2.1] at hc2
        obtain ⟨-, ha3⟩ := ha2
        have i1 : (0 : Int) < (k : Int) + 1 := by omega
        have i2 : (k : Int) + 1 < (zs.length : Int) := by omega
        have i3 : (k : Int) < (zs.length : Int) := by omega
        have i4 : (0 : Int) ≤ (k : Int) := by omega
        have e1 : IntKind.i64.wrap ((k : Int) + 1 - 1) = (k : Int) := by rw [IntWalk.i64_in _ (by omega)]; omega
        have e2 : IntKind.i64.wrap (k : Int) = (k : Int) := IntWalk.i64_in _ (by omega)
        have HI := Lib.hid (show ¬ (z < 0) ∧ ¬ (730484 < z) from ⟨c1, c2⟩)
        clear hc c1 c2
        by_cases c3 : z ≤ a
        · go_wp2_with fail
          go_quiet (fail)
          go_wp2
          go_ret
          exact ⟨ret_bool (HNO.out (.inr (.inr c3))).symm, below_drewN BW.out nq⟩
        · have Hg := Lib.hid (show Cv.rgt (-1) zs = Cv.rgt z (zs.drop (k + 1 + 1)) by
            rw [hm.out, Hd.out, decide_eq_true (by omega), decide_eq_true (by have := HI.out; omega)]; rfl)
          have z0 : 0 ≤ z := by have := HI.out; omega
          have f3 : decide (z ≤ a) = false := decide_eq_false c3
          clear c3
          go_wp2_with fail
          go_quiet (fail)
          go_wp2
          exact ⟨⟨k + 1 + 1, z, by omega, by go_num, Lib.hid ⟨fun h => by omega, fun h => ⟨HZ.out, z0⟩⟩, Hg, Lib.hid (below_drewN BW.out nq)⟩, by simp [intOf]; omega⟩
    · have HE := Lib.hid (show Cv.rightB zs = decide (zs.length ≤ 1000) by
        rw [HB.out, hm.out, List.drop_eq_nil_of_le (by omega)]
        simp [Cv.rgt])
      go_wp2
      go_ret
      exact ⟨ret_bool (by rw [HE.out, Bool.eq_iff_iff]; simp; omega), BW.out⟩

theorem contains_snoc (d z : Int) (k : Nat) (zs : List Int) (hk : k < zs.length) (hz : z = zs.getD k 0) : (zs.take (k + 1)).contains d = ((zs.take k).contains d || d == z) := by
  have e : zs.getD k 0 = zs[k] := by rw [List.getD_eq_getElem?_getD, List.getElem?_eq_getElem hk]; rfl
  rw [List.take_succ_eq_append_getElem hk, hz, e]
  generalize List.take k zs = l
  generalize zs[k] = y
  rw [Bool.eq_iff_iff]
  simp

set_option maxHeartbeats 1000000 in
theorem rworks_any (d : Int) (A : Option Addr) (cap : Nat) (zs : List Int) (w : World) (hr : Rd w A zs) (hl : zs.length ≤ 9223372036854775807) (h0 : 0 ≤ d) :
    Calls Tryd.prog 73 #[.int .i64 d, .slice A zs.length cap] w fun e w' => e = .returned (.bool (Cv.isW zs d)) ∧ w = w' := by
  have Hr := Lib.hid hr; clear hr
  have hi : Cv.isW zs d = (decide (d % 7 < 5) && !zs.contains d) := rfl
  have HI := Lib.hid hi; clear hi
  go_enter Tryd.func73, Tryd.ntmps73
  go_wp2
  go_loop [5] (fun i => ∃ (k : Nat), k ≤ zs.length ∧ i = .int .i64 k ∧ Hid ((zs.take k).contains d = false)) (fun i => zs.length - (intOf i).toNat)
  case atStart => exact ⟨0, by omega, rfl, Lib.hid rfl⟩
  case round =>
    obtain ⟨k, hk, rfl, hm⟩ := hrel
    by_cases hlt : k < zs.length
    · obtain ⟨b, off, rfl, hb, hc⟩ := Hr.out (by omega)
      have hc1 := hc k hlt; clear hc
      have hd := contains_snoc d (zs.getD k 0) k zs hlt rfl
      have hmm : zs.getD k 0 = d → zs.contains d = true := by
        intro h
        rw [List.getD_eq_getElem?_getD, List.getElem?_eq_getElem hlt] at h
        simp at h
        rw [← h]; simp
      obtain ⟨z, hz⟩ : ∃ z, z = zs.getD k 0 := ⟨_, rfl⟩
      rw [← hz] at hc1 hd hmm
      clear hz
      have Hd := Lib.hid hd; clear hd
      have HM := Lib.hid hmm; clear hmm
      by_cases c1 : z = d
      · have HC := HM.out c1
        subst c1
        go_wp2
        go_ret
        exact ⟨ret_bool (by rw [HI.out, HC]; simp), rfl⟩
      · have c2 : (z == d) = false := beq_eq_false_iff_ne.2 c1
        have Hg := Lib.hid (show (zs.take (k + 1)).contains d = false by rw [Hd.out, hm.out, beq_eq_false_iff_ne.2 (fun h => c1 h.symm)]; rfl)
        clear c1
        go_wp2
        go_round
        case rel => exact ⟨k + 1, by omega, by go_num, Hg⟩
        case measure => simp [intOf]; omega
    · have HC := Lib.hid (show zs.contains d = false by have := hm.out; rw [List.take_of_length_le (by omega)] at this; exact this)
      go_wp2
      go_ret
      exact ⟨ret_bool (by rw [HI.out, HC.out]; simp), rfl⟩

set_option maxHeartbeats 1000000 in
theorem rWorks_no (d : Int) (A : Option Addr) (cap : Nat) (zs : List Int) (w : World) (hr : Rd w A zs) (hl : zs.length ≤ 9223372036854775807) (h1 : Cv.rightB zs = false) :
    Calls Tryd.prog 54 #[.int .i64 d, .slice A zs.length cap] w fun e w' => e = .returned (.tuple #[.bool false, .int .i64 2]) ∧ Below w.heap.size w w' := by
  have Hr := Lib.hid hr; clear hr
  go_enter Tryd.func54, Tryd.ntmps54
  go_wp2_with (go_at_call 55; refine (rRight_any _ _ _ _ Hr.out hl).mono ?_; rw [h1]; rintro e w1 ⟨rfl, hb1⟩; have HR1 := Lib.hid (Hr.out.below hb1); have B1 := Lib.hid hb1; clear hb1)
  go_ret2
  exact ⟨rfl, B1.out⟩
set_option maxHeartbeats 1000000 in
theorem rWorks_out (d : Int) (A : Option Addr) (cap : Nat) (zs : List Int) (w : World) (hr : Rd w A zs) (hl : zs.length ≤ 9223372036854775807) (h1 : Cv.rightB zs = true) (h : ¬ (0 ≤ d ∧ d ≤ 730484)) :
    Calls Tryd.prog 54 #[.int .i64 d, .slice A zs.length cap] w fun e w' => e = .returned (.tuple #[.bool false, .int .i64 (erD d)]) ∧ Below w.heap.size w w' := by
  have Hr := Lib.hid hr; clear hr
  have he : (erD d != 0) = true := by unfold erD; (repeat' split) <;> first | rfl | omega
  have hw := fun W => rWithin_any d 730484 W
  simp only [erW_D] at hw
  have HW := Lib.hid hw; clear hw h
  go_enter Tryd.func54, Tryd.ntmps54
  go_wp2_with (first
    | (go_at_call 55; refine (rRight_any _ _ _ _ Hr.out hl).mono ?_; rw [h1]; rintro e w1 ⟨rfl, hb1⟩; have HR1 := Lib.hid (Hr.out.below hb1); have B1 := Lib.hid hb1; clear hb1)
    | (go_at_call 68; refine (HW.out _).mono ?_; rintro e w' ⟨rfl, rfl⟩))
  go_ret2
  exact ⟨rfl, B1.out⟩
set_option maxHeartbeats 1000000 in
theorem rWorks_yes (d : Int) (A : Option Addr) (cap : Nat) (zs : List Int) (w : World) (hr : Rd w A zs) (hl : zs.length ≤ 9223372036854775807) (h1 : Cv.rightB zs = true) (h2 : 0 ≤ d) (h3 : d ≤ 730484) :
    Calls Tryd.prog 54 #[.int .i64 d, .slice A zs.length cap] w fun e w' => e = .returned (.tuple #[.bool (Cv.isW zs d), .int .i64 0]) ∧ Below w.heap.size w w' := by
  have Hr := Lib.hid hr; clear hr
  have hw := fun W => rWithin_any d 730484 W
  rw [show erW d 730484 = 0 from by unfold erW; rw [if_neg (by omega), if_neg (by omega)]] at hw
  have HW := Lib.hid hw; clear hw
  go_enter Tryd.func54, Tryd.ntmps54
  go_wp2_with (first
    | (go_at_call 55; refine (rRight_any _ _ _ _ Hr.out hl).mono ?_; rw [h1]; rintro e w1 ⟨rfl, hb1⟩; have HR1 := Lib.hid (Hr.out.below hb1); have B1 := Lib.hid hb1; clear hb1)
    | (go_at_call 68; refine (HW.out _).mono ?_; rintro e w' ⟨rfl, rfl⟩)
    | (go_at_call 73; refine (rworks_any _ _ _ _ _ HR1.out hl h2).mono ?_; rintro e w' ⟨rfl, rfl⟩))
  go_ret2
  exact ⟨rfl, B1.out⟩


set_option maxHeartbeats 1000000 in
theorem rBetween_no (a b : Int) (A : Option Addr) (cap : Nat) (zs : List Int) (w : World) (hr : Rd w A zs) (hl : zs.length ≤ 9223372036854775807) (h : ¬ (Cv.rightB zs = true ∧ 0 ≤ a ∧ a ≤ b)) :
    Calls Tryd.prog 56 #[.int .i64 a, .int .i64 b, .slice A zs.length cap] w fun e w' => e = .returned (.tuple #[.int .i64 0, .int .i64 2]) ∧ Below w.heap.size w w' := by
  have Hr := Lib.hid hr; clear hr
  by_cases h1 : Cv.rightB zs = true
  · have h2 : ¬ (0 ≤ a ∧ a ≤ b) := fun x => h ⟨h1, x.1, x.2⟩
    clear h
    by_cases h3 : a < 0
    · clear h2
      go_enter Tryd.func56, Tryd.ntmps56
      go_wp2_with (go_at_call 55; refine (rRight_any _ _ _ _ Hr.out hl).mono ?_; rw [h1]; rintro e w1 ⟨rfl, hb1⟩; have B1 := Lib.hid hb1; clear hb1)
      go_ret2
      exact ⟨rfl, B1.out⟩
    · have h4 : b < a := by omega
      clear h2
      go_enter Tryd.func56, Tryd.ntmps56
      go_wp2_with (go_at_call 55; refine (rRight_any _ _ _ _ Hr.out hl).mono ?_; rw [h1]; rintro e w1 ⟨rfl, hb1⟩; have B1 := Lib.hid hb1; clear hb1)
      go_ret2
      exact ⟨rfl, B1.out⟩
  · have h1 : Cv.rightB zs = false := by simpa using h1
    clear h
    go_enter Tryd.func56, Tryd.ntmps56
    go_wp2_with (go_at_call 55; refine (rRight_any _ _ _ _ Hr.out hl).mono ?_; rw [h1]; rintro e w1 ⟨rfl, hb1⟩; have B1 := Lib.hid hb1; clear hb1)
    go_ret2
    exact ⟨rfl, B1.out⟩
set_option maxHeartbeats 1000000 in
theorem rBetween_long (a b : Int) (A : Option Addr) (cap : Nat) (zs : List Int) (w : World) (hr : Rd w A zs) (hl : zs.length ≤ 9223372036854775807) (h1 : Cv.rightB zs = true) (h2 : 0 ≤ a) (h3 : a ≤ b) (h4 : 730484 < b) :
    Calls Tryd.prog 56 #[.int .i64 a, .int .i64 b, .slice A zs.length cap] w fun e w' => e = .returned (.tuple #[.int .i64 0, .int .i64 3]) ∧ Below w.heap.size w w' := by
  have Hr := Lib.hid hr; clear hr
  go_enter Tryd.func56, Tryd.ntmps56
  go_wp2_with (go_at_call 55; refine (rRight_any _ _ _ _ Hr.out hl).mono ?_; rw [h1]; rintro e w1 ⟨rfl, hb1⟩; have B1 := Lib.hid hb1; clear hb1)
  go_ret2
  exact ⟨rfl, B1.out⟩
set_option maxHeartbeats 1000000 in
theorem rBetween_yes (a b : Int) (A : Option Addr) (cap : Nat) (zs : List Int) (w : World) (hr : Rd w A zs) (hl : zs.length ≤ 9223372036854775807) (h1 : Cv.rightB zs = true) (h2 : 0 ≤ a) (h3 : a ≤ b) (h4 : b ≤ 730484) :
    Calls Tryd.prog 56 #[.int .i64 a, .int .i64 b, .slice A zs.length cap] w fun e w' => e = .returned (.tuple #[.int .i64 (Cv.wif zs b - Cv.wif zs a), .int .i64 0]) ∧ Below w.heap.size w w' := by
  have Hr := Lib.hid hr; clear hr
  have hst := fun d => Cv.wif_step (-1) d zs (right_parts h1).2
  have HST := Lib.hid hst; clear hst
  go_enter Tryd.func56, Tryd.ntmps56
  go_wp2_with (go_at_call 55; refine (rRight_any _ _ _ _ Hr.out hl).mono ?_; rw [h1]; rintro e w1 ⟨rfl, hb1⟩; have HR1 := Lib.hid (Hr.out.below hb1); have B1 := Lib.hid hb1; clear hb1)
  go_loop [8, 9] (fun s t => ∃ d : Int, a ≤ d ∧ d ≤ b ∧ t = .int .i64 d ∧ s = .int .i64 (Cv.wif zs d - Cv.wif zs a)) (fun s t => (b - intOf t).toNat)
  case atStart => exact ⟨a, by omega, by omega, rfl, by rw [Int.sub_self]⟩
  case round =>
    obtain ⟨d, d0, d1, rfl, rfl⟩ := hrel
    have hba := Cv.wif_bd zs a h2
    have hbd := Cv.wif_bd zs d (by omega)
    have hl2 := (right_parts h1).1
    by_cases hd : d < b
    · have hs := HST.out d
      have hw : ∀ W, Rd W A zs → Calls Tryd.prog 73 #[.int .i64 d, .slice A zs.length cap] W fun e w' => e = .returned (.bool (Cv.isW zs d)) ∧ W = w' := fun W hW => rworks_any d A cap zs W hW hl (by omega)
      generalize Cv.isW zs d = o at hs hw
      have HW := Lib.hid hw; clear hw
      rcases o with _ | _
      · have he := Lib.hid (show Cv.wif zs (d + 1) = Cv.wif zs d by simpa using hs)
        clear hs
        go_wp2_with (go_at_call 73; refine (HW.out _ HR1.out).mono ?_; rintro e w' ⟨rfl, rfl⟩)
        go_round
        case rel => exact ⟨d + 1, by omega, by omega, rfl, by rw [he.out]⟩
        case measure => simp [intOf]; omega
      · have he := Lib.hid (show Cv.wif zs (d + 1) = Cv.wif zs d + 1 by simpa using hs)
        clear hs
        go_wp2_with (go_at_call 73; refine (HW.out _ HR1.out).mono ?_; rintro e w' ⟨rfl, rfl⟩)
        go_round
        case rel => exact ⟨d + 1, by omega, by omega, rfl, by rw [he.out]; congr 1; omega⟩
        case measure => simp [intOf]; omega
    · have hdb : d = b := by omega
      subst hdb
      go_wp2
      go_ret2
      exact ⟨rfl, B1.out⟩

set_option maxHeartbeats 1000000 in
theorem rAhead_no (day n : Int) (A : Option Addr) (cap : Nat) (zs : List Int) (w : World) (hr : Rd w A zs) (hl : zs.length ≤ 9223372036854775807) (h : ¬ (Cv.rightB zs = true ∧ 0 ≤ day ∧ 0 ≤ n)) :
    Calls Tryd.prog 57 #[.int .i64 day, .int .i64 n, .slice A zs.length cap] w (PostR 0 2 w) := by
  have Hr := Lib.hid hr; clear hr
  by_cases h1 : Cv.rightB zs = true
  · have h2 : ¬ (0 ≤ day ∧ 0 ≤ n) := fun x => h ⟨h1, x.1, x.2⟩
    clear h
    by_cases h3 : day < 0
    · clear h2
      go_enter Tryd.func57, Tryd.ntmps57
      go_wp2_with (go_at_call 55; refine (rRight_any _ _ _ _ Hr.out hl).mono ?_; rw [h1]; rintro e w1 ⟨rfl, hb1⟩; have B1 := Lib.hid hb1; clear hb1)
      go_ret2
      exact ⟨rfl, B1.out⟩
    · have h4 : n < 0 := by omega
      clear h2
      go_enter Tryd.func57, Tryd.ntmps57
      go_wp2_with (go_at_call 55; refine (rRight_any _ _ _ _ Hr.out hl).mono ?_; rw [h1]; rintro e w1 ⟨rfl, hb1⟩; have B1 := Lib.hid hb1; clear hb1)
      go_ret2
      exact ⟨rfl, B1.out⟩
  · have h1 : Cv.rightB zs = false := by simpa using h1
    clear h
    go_enter Tryd.func57, Tryd.ntmps57
    go_wp2_with (go_at_call 55; refine (rRight_any _ _ _ _ Hr.out hl).mono ?_; rw [h1]; rintro e w1 ⟨rfl, hb1⟩; have B1 := Lib.hid hb1; clear hb1)
    go_ret2
    exact ⟨rfl, B1.out⟩
set_option maxHeartbeats 1000000 in
theorem rAhead_any (day n : Int) (A : Option Addr) (cap : Nat) (zs : List Int) (w : World) (hr : Rd w A zs) (hl : zs.length ≤ 9223372036854775807) (h1 : Cv.rightB zs = true) (h2 : 0 ≤ day) (h3 : 0 ≤ n) (h4 : n ≤ 9223372036854775807) (h5 : day ≤ 9223372036854775807) :
    Calls Tryd.prog 57 #[.int .i64 day, .int .i64 n, .slice A zs.length cap] w (PostA zs day n w) := by
  have Hr := Lib.hid hr; clear hr
  have hst := fun d => Cv.wif_step (-1) d zs (right_parts h1).2
  have HST := Lib.hid hst; clear hst
  go_enter Tryd.func57, Tryd.ntmps57
  go_wp2_with (go_at_call 55; refine (rRight_any _ _ _ _ Hr.out hl).mono ?_; rw [h1]; rintro e w1 ⟨rfl, hb1⟩; have HR1 := Lib.hid (Hr.out.below hb1); have B1 := Lib.hid hb1; clear hb1)
  have hmono := Cv.wif_mono (-1) zs (right_parts h1).2
  have HM := Lib.hid hmono; clear hmono
  go_loop [1, 8] (fun s t => ∃ d m : Int, day ≤ d ∧ 0 ≤ m ∧ m ≤ n ∧ d ≤ 9223372036854775807 ∧ t = .int .i64 d ∧ s = .int .i64 m ∧ Hid (Cv.wif zs d + m = Cv.wif zs day + n)) (fun s t => (730485 - intOf t).toNat)
  case atStart => exact ⟨day, n, by omega, by omega, by omega, by omega, rfl, rfl, Lib.hid rfl⟩
  case round =>
    obtain ⟨d, m, d0, m0, m1, d1, rfl, rfl, hm⟩ := hrel
    by_cases hd : d ≤ 730484
    · have hs := HST.out d
      have hw : ∀ W, Rd W A zs → Calls Tryd.prog 73 #[.int .i64 d, .slice A zs.length cap] W fun e w' => e = .returned (.bool (Cv.isW zs d)) ∧ W = w' := fun W hW => rworks_any d A cap zs W hW hl (by omega)
      have ho : ∃ o, o = Cv.isW zs d := ⟨_, rfl⟩
      obtain ⟨o, ho⟩ := ho
      rw [← ho] at hs hw
      have HO := Lib.hid ho; clear ho
      have HW := Lib.hid hw; clear hw
      rcases o with _ | _
      · have he := Lib.hid (show Cv.wif zs (d + 1) = Cv.wif zs d by simpa using hs)
        clear hs
        go_wp2_with (go_at_call 73; refine (HW.out _ HR1.out).mono ?_; rintro e w' ⟨rfl, rfl⟩)
        go_round
        case rel => exact ⟨d + 1, m, by omega, by omega, by omega, by omega, rfl, rfl, Lib.hid (by rw [he.out]; exact hm.out)⟩
        case measure => simp [intOf]; omega
      · have he := Lib.hid (show Cv.wif zs (d + 1) = Cv.wif zs d + 1 by simpa using hs)
        clear hs
        by_cases hm0 : m = 0
        · subst hm0
          go_wp2_with (go_at_call 73; refine (HW.out _ HR1.out).mono ?_; rintro e w' ⟨rfl, rfl⟩)
          go_ret2
          exact ⟨_, _, rfl, .inl ⟨rfl, d0, hd, HO.out.symm, by have := hm.out; omega⟩, B1.out⟩
        · have hm2 : (m == 0) = false := beq_eq_false_iff_ne.2 hm0
          go_wp2_with (go_at_call 73; refine (HW.out _ HR1.out).mono ?_; rintro e w' ⟨rfl, rfl⟩)
          go_round
          case rel => exact ⟨d + 1, m - 1, by omega, by omega, by omega, by omega, rfl, rfl, Lib.hid (by rw [he.out]; have := hm.out; omega)⟩
          case measure => simp [intOf]; omega
    · go_wp2
      go_ret2
      exact ⟨_, _, rfl, .inr ⟨rfl, rfl, by have := hm.out; have := (HM.out 730485 d (by omega)).1; omega⟩, B1.out⟩

/-- the two agree -/
theorem ahead_every (day n : Int) (A : Option Addr) (cap : Nat) (zs : List Int) (w : World) (hr : Rd w A zs) (h1 : Cv.rightB zs = true) (h2 : 0 ≤ day) (h3 : 0 ≤ n) :
    Calls Tryd.prog 36 #[.int .i64 day, .int .i64 n, .slice A zs.length cap] w (PostA zs day n w) := by
  by_cases h4 : day ≤ 730484
  · exact ahead_all day n A cap zs w hr h1 h2 h3 h4
  · refine (ahead_long day n A cap zs w hr h1 h2 h3 (.inl (by omega))).mono ?_
    rintro e w' ⟨rfl, hb⟩
    have := (Cv.wif_mono (-1) zs (right_parts h1).2 730485 day (by omega)).1
    exact ⟨0, 3, rfl, .inr ⟨rfl, rfl, by omega⟩, hb⟩

theorem isD_2004 (m d : Int) : Cv.isD 2004 m d = Cv.inM 2004 m d := by simp [Cv.isD]
set_option maxHeartbeats 1000000 in
theorem rYearly_no (n a b : Int) (w : World) (h : ¬ (0 ≤ n ∧ n ≤ 730484)) :
    Calls Tryd.prog 58 #[.int .i64 n, .int .i64 a, .int .i64 b] w fun e w' => e = .returned (.tuple #[.bool false, .int .i64 (erD n)]) ∧ w = w' := by
  have he : (erD n != 0) = true := by unfold erD; (repeat' split) <;> first | rfl | omega
  have H := Lib.hid h; clear h
  go_enter Tryd.func58, Tryd.ntmps58
  go_wp2_with (go_at_call 45; refine (rDate_no _ _ H.out).mono ?_; rintro e w' ⟨rfl, rfl⟩)
  go_ret2
  exact ⟨rfl, rfl⟩
set_option maxHeartbeats 1000000 in
theorem rYearly_noY (n a b : Int) (w : World) (h0 : 0 ≤ n) (h1 : n ≤ 730484) (a0 : -9223372036854775808 ≤ a) (a1 : a ≤ 9223372036854775807) (b0 : -9223372036854775808 ≤ b) (b1 : b ≤ 9223372036854775807)
    (h : (isY a && isY b) = false) :
    Calls Tryd.prog 58 #[.int .i64 n, .int .i64 a, .int .i64 b] w fun e w' => e = .returned (.tuple #[.bool false, .int .i64 10]) ∧ w = w' := by
  have ha := fun W => rIsD_any 2004 (a.tdiv 100) (a.tmod 100) W
  have hb := fun W => rIsD_any 2004 (b.tdiv 100) (b.tmod 100) W
  simp only [isD_2004] at ha hb
  change ∀ W, Calls _ _ _ W fun e w' => e = .returned (.bool (isY a)) ∧ W = w' at ha
  change ∀ W, Calls _ _ _ W fun e w' => e = .returned (.bool (isY b)) ∧ W = w' at hb
  generalize isY a = p at *
  generalize isY b = q at *
  have HA := Lib.hid ha; clear ha
  have HB := Lib.hid hb; clear hb
  go_enter Tryd.func58, Tryd.ntmps58
  rcases p with _ | _
  · go_wp2_with (first
      | (go_at_call 45; refine (rDate_yes _ _ h0 h1).mono ?_; rintro e w' ⟨rfl, rfl⟩)
      | (go_at_call 43; refine (HA.out _).mono ?_; rintro e w' ⟨rfl, rfl⟩))
    go_ret2
    exact ⟨rfl, rfl⟩
  · have hq : q = false := by simpa using h
    subst hq
    clear h
    go_wp2_with (first
      | (go_at_call 45; refine (rDate_yes _ _ h0 h1).mono ?_; rintro e w' ⟨rfl, rfl⟩))
    refine (HA.out _).mono ?_
    rintro e w' ⟨rfl, rfl⟩
    go_wp2_with (go_at_call 43; refine (HB.out _).mono ?_; rintro e w' ⟨rfl, rfl⟩)
    go_ret2
    exact ⟨rfl, rfl⟩
set_option maxHeartbeats 1000000 in
theorem rYearly_yes (n a b : Int) (w : World) (h0 : 0 ≤ n) (h1 : n ≤ 730484) (a0 : -9223372036854775808 ≤ a) (a1 : a ≤ 9223372036854775807) (b0 : -9223372036854775808 ≤ b) (b1 : b ≤ 9223372036854775807)
    (hya : isY a = true) (hyb : isY b = true) :
    Calls Tryd.prog 58 #[.int .i64 n, .int .i64 a, .int .i64 b] w fun e w' => e = .returned (.tuple #[.bool (yearlyB n a b), .int .i64 0]) ∧ w = w' := by
  have ha := fun W => rIsD_any 2004 (a.tdiv 100) (a.tmod 100) W
  have hb := fun W => rIsD_any 2004 (b.tdiv 100) (b.tmod 100) W
  simp only [isD_2004] at ha hb
  change ∀ W, Calls _ _ _ W fun e w' => e = .returned (.bool (isY a)) ∧ W = w' at ha
  change ∀ W, Calls _ _ _ W fun e w' => e = .returned (.bool (isY b)) ∧ W = w' at hb
  rw [hya] at ha
  rw [hyb] at hb
  have HA := Lib.hid ha; clear ha
  have HB := Lib.hid hb; clear hb
  have bd := dm_bd n h0 h1
  have hv : yearlyB n a b = if b < a then decide (a ≤ 100 * Cv.mo n + Cv.dm n) || decide (100 * Cv.mo n + Cv.dm n ≤ b) else decide (a ≤ 100 * Cv.mo n + Cv.dm n) && decide (100 * Cv.mo n + Cv.dm n ≤ b) := rfl
  generalize yearlyB n a b = v at *
  have HV := Lib.hid hv; clear hv
  by_cases c : b < a
  · have HC := Lib.hid (HV.out.trans (if_pos c))
    go_enter Tryd.func58, Tryd.ntmps58
    go_wp2_with (first
      | (go_at_call 45; refine (rDate_yes _ _ h0 h1).mono ?_; rintro e w' ⟨rfl, rfl⟩))
    refine (HA.out _).mono ?_
    rintro e w' ⟨rfl, rfl⟩
    go_wp2_with (go_at_call 43; refine (HB.out _).mono ?_; rintro e w' ⟨rfl, rfl⟩)
    all_goals
      go_ret2
      exact ⟨ret_bi (by rw [HC.out]; first | done | rfl | (simp [*]; done) | (rw [Bool.eq_iff_iff]; simp; omega)) rfl, rfl⟩
  · have HC := Lib.hid (HV.out.trans (if_neg c))
    go_enter Tryd.func58, Tryd.ntmps58
    go_wp2_with (first
      | (go_at_call 45; refine (rDate_yes _ _ h0 h1).mono ?_; rintro e w' ⟨rfl, rfl⟩))
    refine (HA.out _).mono ?_
    rintro e w' ⟨rfl, rfl⟩
    go_wp2_with (go_at_call 43; refine (HB.out _).mono ?_; rintro e w' ⟨rfl, rfl⟩)
    all_goals
      go_ret2
      exact ⟨ret_bi (by rw [HC.out]; first | done | rfl | (simp [*]; done) | (rw [Bool.eq_iff_iff]; simp; omega)) rfl, rfl⟩

end Go.Proofs.YtmlniggmknjneaaDoor
