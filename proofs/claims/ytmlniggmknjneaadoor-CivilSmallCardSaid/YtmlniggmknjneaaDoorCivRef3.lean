/-
  The walks of the reference implementation of dates: days of dates, texts.
-/
import Derived.Test.YtmlniggmknjneaaDoorCivRef2
namespace Go.Proofs.YtmlniggmknjneaaDoor
open Go.RowKit
set_option linter.unusedVariables false

set_option maxHeartbeats 1000000 in
theorem rDay_any (y m d : Int) (w : World) :
    Calls Tryd.prog 15 #[.int .i64 y, .int .i64 m, .int .i64 d] w fun e w' => e = .returned (.tuple #[.int .i64 (dyV y m d), .int .i64 (dyE y m d)]) ∧ w = w' := by
  by_cases h : Cv.isD y m d = true
  · have bd := isD_bd h
    obtain ⟨y0, y1, m0, m1, d0, d1⟩ := bd
    have HV := Lib.hid (show dyV y m d = Cv.num y m d by rw [dyV, if_pos h])
    have HE := Lib.hid (show dyE y m d = 0 by rw [dyE, if_pos h])
    have HY := Lib.hid Cv.yd_2001
    go_enter Tryd.func15, Tryd.ntmps15
    go_wp2_with (go_at_call 43; refine (rIsD_any _ _ _ _).mono ?_; rintro e w' ⟨rfl, rfl⟩)
    go_loop [8, 9] (fun s t => ∃ n z : Int, s = .int .i64 n ∧ t = .int .i64 z ∧ 2001 ≤ z ∧ z ≤ y ∧ 0 ≤ n ∧ n ≤ 800000 ∧ Hid (n = d - 1 + Cv.yd z)) (fun _ t => (y - intOf t).toNat)
    case atStart => exact ⟨d - 1, 2001, rfl, rfl, by omega, y0, by omega, by omega, by unfold Hid; have := HY.out; omega⟩
    case round =>
      obtain ⟨n, z, rfl, rfl, z0, z1, n0, n1, hn⟩ := hrel
      by_cases hlt : z < y
      · have hs := Cv.yd_step z z0
        have hm := Cv.yd_mono (z + 1) 4001 (by omega)
        rw [Cv.yd_4001] at hm
        have Hs := Lib.hid hs; clear hs
        have hlp : Cv.lp z = if Cv.leapB z = true then 1 else 0 := rfl
        by_cases hl : Cv.leapB z = true
        · have HLP := Lib.hid (hlp.trans (if_pos hl))
          clear hlp
          have HN := Lib.hid (show n + 365 + 1 = d - 1 + Cv.yd (z + 1) by have := hn.out; have := Hs.out; have := HLP.out; omega)
          have hb : n + 365 + 1 ≤ 800000 := by have := HN.out; omega
          clear hm
          go_wp2_with (go_at_call 17; refine (rLeap_any _ _).mono ?_; rintro e w' ⟨rfl, rfl⟩)
          go_round
          case rel => exact ⟨_, z + 1, rfl, rfl, by omega, by omega, by omega, hb, HN.out⟩
          case measure => simp [intOf]; omega
        · have hl : Cv.leapB z = false := by simpa using hl
          have HLP := Lib.hid (hlp.trans (if_neg (by simp [hl])))
          clear hlp
          have HN := Lib.hid (show n + 365 = d - 1 + Cv.yd (z + 1) by have := hn.out; have := Hs.out; have := HLP.out; omega)
          have hb : n + 365 ≤ 800000 := by have := HN.out; omega
          clear hm
          go_wp2_with (go_at_call 17; refine (rLeap_any _ _).mono ?_; rintro e w' ⟨rfl, rfl⟩)
          go_round
          case rel => exact ⟨_, z + 1, rfl, rfl, by omega, by omega, by omega, hb, HN.out⟩
          case measure => simp [intOf]; omega
      · have hzy : z = y := by omega
        have HZ := Lib.hid (show n = d - 1 + Cv.yd y by have := hn.out; rw [hzy] at this; exact this)
        have hge : y ≤ z := by omega
        clear hn hzy
        go_wp2
        go_loop [8, 10] (fun s t => ∃ q k : Int, s = .int .i64 q ∧ t = .int .i64 k ∧ 1 ≤ k ∧ k ≤ m ∧ 0 ≤ q ∧ q ≤ 800366 ∧ Hid (q = n + Cv.ms y k)) (fun _ t => (m - intOf t).toNat)
        case atStart => exact ⟨n, 1, rfl, rfl, by omega, m0, n0, by omega, by unfold Hid; rw [Cv.ms_one]; omega⟩
        case round =>
          obtain ⟨q, k, rfl, rfl, k0, k1, q0, q1, hq⟩ := hrel
          by_cases hlt2 : k < m
          · have st := Cv.ms_step y k k0 (by omega)
            have mb := Cv.ms_bd y (k + 1)
            have HQ := Lib.hid (show q + (Cv.ms y (k + 1) - Cv.ms y k) = n + Cv.ms y (k + 1) by have := hq.out; omega)
            have hb2 : q + (Cv.ms y (k + 1) - Cv.ms y k) ≤ 800366 := by have := HQ.out; omega
            go_wp2_with (go_at_call 44; refine (rLong_any _ _ _ k0 (by omega)).mono ?_; rintro e w' ⟨rfl, rfl⟩)
            go_round
            case rel => exact ⟨_, k + 1, rfl, rfl, by omega, by omega, by omega, hb2, HQ.out⟩
            case measure => simp [intOf]; omega
          · have hkm : k = m := by omega
            have HF := Lib.hid (show q = dyV y m d by
              have h1 := hq.out
              have h2 := HZ.out
              rw [hkm] at h1
              rw [HV.out]; unfold Cv.num; omega)
            clear hkm hq
            go_wp2
            go_ret2
            exact ⟨ret_two HF.out HE.out.symm, rfl⟩
  · have h : Cv.isD y m d = false := by simpa using h
    have HV := Lib.hid (show dyV y m d = 0 by rw [dyV, if_neg (by simp [h])])
    have HE := Lib.hid (show dyE y m d = 10 by rw [dyE, if_neg (by simp [h])])
    go_enter Tryd.func15, Tryd.ntmps15
    go_wp2_with (go_at_call 43; refine (rIsD_any _ _ _ _).mono ?_; rintro e w' ⟨rfl, rfl⟩)
    go_ret2
    exact ⟨ret_two HV.out.symm HE.out.symm, rfl⟩

/-- so many digits of a number -/
def digs (n : Int) : Nat → List UInt8
  | 0 => []
  | k + 1 => digs (n / 10) k ++ [Cv.dgt n]
theorem digs_two (n : Int) : digs n 2 = Cv.two n := rfl
theorem digs_four (n : Int) : digs n 4 = Cv.four n := by
  have e1 : Cv.dgt (n / 10 / 10 / 10) = Cv.dgt (n / 1000) := (dgt_eq _ _).2 (by omega)
  have e2 : Cv.dgt (n / 10 / 10) = Cv.dgt (n / 100) := (dgt_eq _ _).2 (by omega)
  show [Cv.dgt (n / 10 / 10 / 10), Cv.dgt (n / 10 / 10), Cv.dgt (n / 10), Cv.dgt n] = _
  rw [e1, e2]; rfl

theorem dgt_int (x : Int) : ((Cv.dgt x).toNat : Int) = 48 + x % 10 := by rw [Cv.dgt_toNat]; omega
theorem conv_digit (W : World) (x : Int) : (convert 37 9 (.slice (some ⟨W.heap.size, 0, none⟩) 1 1)).run Tryd.prog (W.alloc (.cells #[.int .u8 (48 + x % 10)] 5)) = .ok (.string ⟨#[Cv.dgt x]⟩) (W.alloc (.cells #[.int .u8 (48 + x % 10)] 5)) := by
  refine run_convert_bytes_back (P := Tryd.prog) _ 37 9 5 ⟨W.heap.size, 0, none⟩ 1 [Cv.dgt x] Tryd.underlying37 Tryd.underlying5 Tryd.underlying9 (fun j hj => ?_)
  obtain rfl : j = 0 := by simpa using hj
  simp only [List.getElem_cons_zero]
  rw [dgt_int]
  show (W.alloc _).cell? ⟨W.heap.size, 0, none⟩ = _
  go_simp
set_option maxRecDepth 20000 in
set_option maxHeartbeats 1000000 in
theorem rDigits_any (n : Int) (k : Nat) (w : World) (h0 : 0 ≤ n) (h1 : n ≤ 100000) (hk : k ≤ 4) :
    Calls Tryd.prog 69 #[.int .i64 n, .int .i64 k] w fun e w' => e = .returned (.string ⟨(digs n k).toArray⟩) ∧ Below w.heap.size w w' := by
  go_enter Tryd.func69, Tryd.ntmps69
  go_wp2
  go_loopw [0, 5, 6] (fun a s i wr => ∃ (x : Int) (l : List UInt8) (j : Nat), a = .int .i64 x ∧ s = .string ⟨l.toArray⟩ ∧ i = .int .i64 j ∧ 0 ≤ x ∧ x ≤ 100000 ∧ j ≤ k ∧ l.length ≤ 4 ∧ Hid (l.length = j ∧ digs n k = digs x (k - j) ++ l) ∧ Below w.heap.size w wr) (fun _ _ i _ => k - (intOf i).toNat)
  case atStart => exact ⟨n, [], 0, rfl, rfl, rfl, h0, h1, by omega, by simp, by simp [Hid], Below.refl _ _⟩
  case round =>
    obtain ⟨x, l, j, rfl, rfl, rfl, x0, x1, hj, hl, hm, hb⟩ := hrel
    have HB := Lib.hid hb; clear hb
    by_cases hlt : j < k
    · have hcv := conv_digit wr x
      have hl4 : l.length + 1 ≤ 4 := by have := hm.out.1; omega
      have HM := Lib.hid (show (Cv.dgt x :: l).length = j + 1 ∧ digs n k = digs (x / 10) (k - (j + 1)) ++ (Cv.dgt x :: l) by
        have h1 := hm.out
        refine ⟨by rw [List.length_cons, h1.1], ?_⟩
        rw [h1.2, show k - j = (k - (j + 1)) + 1 from by omega, digs]
        simp)
      go_wp2
      exact ⟨⟨x / 10, Cv.dgt x :: l, j + 1, rfl, by rw [bytes_append]; rfl, by go_num, by omega, by omega, by omega, by simpa using hl4, HM.out, HB.out.alloc HB.out.size _⟩, by simp [intOf]; omega⟩
    · have hkj : k - j = 0 := by omega
      have HE := Lib.hid (show l = digs n k by have := hm.out.2; rw [hkj] at this; exact this.symm)
      clear hkj
      go_wp2
      go_ret
      exact ⟨ret_str (by rw [HE.out]), HB.out⟩

theorem rDigits_two (n : Int) (w : World) (h0 : 0 ≤ n) (h1 : n ≤ 100) :
    Calls Tryd.prog 69 #[.int .i64 n, .int .i64 2] w fun e w' => e = .returned (.string ⟨(Cv.two n).toArray⟩) ∧ Below w.heap.size w w' :=
  rDigits_any n 2 w h0 (by omega) (by omega)
theorem rDigits_four (n : Int) (w : World) (h0 : 0 ≤ n) (h1 : n ≤ 10000) :
    Calls Tryd.prog 69 #[.int .i64 n, .int .i64 4] w fun e w' => e = .returned (.string ⟨(Cv.four n).toArray⟩) ∧ Below w.heap.size w w' := by
  rw [← digs_four]
  exact rDigits_any n 4 w h0 (by omega) (by omega)

set_option maxHeartbeats 400000 in
theorem rText_no (n : Int) (w : World) (h : ¬ (0 ≤ n ∧ n ≤ 730484)) :
    Calls Tryd.prog 47 #[.int .i64 n] w fun e w' => e = .returned (.tuple #[.string ⟨#[]⟩, .int .i64 (erD n)]) ∧ w = w' := by
  have he : (erD n != 0) = true := by unfold erD; (repeat' split) <;> first | rfl | omega
  have H := Lib.hid h; clear h
  go_enter Tryd.func47, Tryd.ntmps47
  go_wp2_with (go_at_call 45; refine (rDate_no _ _ H.out).mono ?_; rintro e w' ⟨rfl, rfl⟩)
  go_ret2
  exact ⟨rfl, rfl⟩
set_option maxHeartbeats 1000000 in
theorem rText_yes (n : Int) (w : World) (h0 : 0 ≤ n) (h1 : n ≤ 730484) :
    Calls Tryd.prog 47 #[.int .i64 n] w fun e w' => e = .returned (.tuple #[.string ⟨(Cv.dateT n).toArray⟩, .int .i64 0]) ∧ Below w.heap.size w w' := by
  have bd := dm_bd n h0 h1
  have yb := (Cv.yr_rs n h0 h1).2.2.2
  go_enter Tryd.func47, Tryd.ntmps47
  have tok0 : True := trivial
  go_wp2_with (first
    | (go_at_call 45; refine (rDate_yes _ _ h0 h1).mono ?_; rintro e w' ⟨rfl, rfl⟩)
    | (go_at_call 69; (with_reducible refine (rDigits_four _ _ (by omega) (by omega)).mono ?_); rintro e w1 ⟨rfl, hb1⟩; have B1 := Lib.hid hb1; clear hb1)
    | (go_at_call 69; have _t := tok0; refine (rDigits_two _ _ (by omega) (by omega)).mono ?_; rintro e w2 ⟨rfl, hb2⟩; have B2 := Lib.hid (B1.out.trans (hb2.mono B1.out.size)); clear hb2 tok0)
    | (go_at_call 69; refine (rDigits_two _ _ (by omega) (by omega)).mono ?_; rintro e w3 ⟨rfl, hb3⟩; have B3 := Lib.hid (B2.out.trans (hb3.mono B2.out.size)); clear hb3))
  go_ret2
  exact ⟨ret_si (by simp only [bytes_append]; simp [Cv.dateT]) rfl, B3.out⟩

set_option maxHeartbeats 400000 in
theorem rTimeText_no (n : Int) (w : World) (h : ¬ (0 ≤ n ∧ n ≤ 1051898399)) :
    Calls Tryd.prog 71 #[.int .i64 n] w fun e w' => e = .returned (.tuple #[.string ⟨#[]⟩, .int .i64 (erT n)]) ∧ w = w' := by
  have he : (erT n != 0) = true := by unfold erT; (repeat' split) <;> first | rfl | omega
  clear h
  go_enter Tryd.func71, Tryd.ntmps71
  go_wp2_with (go_at_call 70; refine (rSplit_any _ _).mono ?_; rintro e w' ⟨rfl, rfl⟩)
  go_ret2
  exact ⟨rfl, rfl⟩
theorem rSplit_in (n : Int) (w : World) (h0 : 0 ≤ n) (h1 : n ≤ 1051898399) : Calls Tryd.prog 70 #[.int .i64 n] w fun e w' => e = .returned (.tuple #[.int .i64 (n / 1440), .int .i64 (n % 1440), .int .i64 0]) ∧ w = w' := by
  refine (rSplit_any n w).mono ?_
  rintro e w' ⟨rfl, rfl⟩
  exact ⟨ret_three (by rw [spD, if_neg (by omega), if_neg (by omega)]) (by rw [spM, if_neg (by omega), if_neg (by omega)]) (by rw [erT, if_neg (by omega), if_neg (by omega)]), rfl⟩
set_option maxHeartbeats 1000000 in
theorem rTimeText_yes (n : Int) (w : World) (h0 : 0 ≤ n) (h1 : n ≤ 1051898399) :
    Calls Tryd.prog 71 #[.int .i64 n] w fun e w' => e = .returned (.tuple #[.string ⟨(Cv.timeT n).toArray⟩, .int .i64 0]) ∧ Below w.heap.size w w' := by
  have m0 : 0 ≤ n % 1440 := by omega
  have m1 : n % 1440 < 1440 := by omega
  have d0 : 0 ≤ n / 1440 := by omega
  have d1 : n / 1440 ≤ 730484 := by omega
  have l1 : (Cv.dateT (n / 1440)).length ≤ 10 := by rw [dateT_len]; omega
  have l2 : (Cv.two (n % 1440 / 60)).length ≤ 2 := by simp [Cv.two]
  have l3 : (Cv.two (n % 60)).length ≤ 2 := by simp [Cv.two]
  go_enter Tryd.func71, Tryd.ntmps71
  have tok0 : True := trivial
  go_wp2_with (first
    | (go_at_call 70; refine (rSplit_in n _ h0 h1).mono ?_; rintro e w' ⟨rfl, rfl⟩)
    | (go_at_call 47; refine (rText_yes _ _ d0 d1).mono ?_; rintro e w1 ⟨rfl, hb1⟩; have B1 := Lib.hid hb1; clear hb1)
    | (go_at_call 69; have _t := tok0; refine (rDigits_two _ _ (by omega) (by omega)).mono ?_; rintro e w2 ⟨rfl, hb2⟩; have B2 := Lib.hid (B1.out.trans (hb2.mono B1.out.size)); clear hb2 tok0)
    | (go_at_call 69; refine (rDigits_two _ _ (by omega) (by omega)).mono ?_; rintro e w3 ⟨rfl, hb3⟩; have B3 := Lib.hid (B2.out.trans (hb3.mono B2.out.size)); clear hb3))
  go_ret2
  exact ⟨ret_si (by simp only [bytes_append]; simp [Cv.timeT]) rfl, B3.out⟩

end Go.Proofs.YtmlniggmknjneaaDoor
