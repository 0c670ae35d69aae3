/-
  The walks of civil's texts: dates and times are written, and read.
-/
import Derived.Test.YtmlniggmknjneaaDoorCivWalk5
namespace Go.Proofs.YtmlniggmknjneaaDoor
open Go.RowKit
set_option linter.unusedVariables false

theorem ret_si {l : IntKind} {a b : ByteArray} {c d : Int} (h : a = b) (g : c = d) : Ending.returned (.tuple #[.string a, .int l c]) = .returned (.tuple #[.string b, .int l d]) := by rw [h, g]
set_option maxHeartbeats 400000 in
theorem text_no (n : Int) (w : World) (h : ¬ (0 ≤ n ∧ n ≤ 730484)) :
    Calls Tryd.prog 31 #[.int .i64 n] w fun e w' => e = .returned (.tuple #[.string ⟨#[]⟩, .int .i64 (erD n)]) ∧ w = w' := by
  have he : (erD n != 0) = true := by unfold erD; (repeat' split) <;> first | rfl | omega
  have H := Lib.hid h; clear h
  go_enter Tryd.func31, Tryd.ntmps31
  go_wp2_with (go_at_call 27; refine (date_no _ _ H.out).mono ?_; rintro e w' ⟨rfl, rfl⟩)
  go_ret2
  exact ⟨rfl, rfl⟩
set_option maxHeartbeats 400000 in
theorem text_yes (n : Int) (w : World) (hw : Rdy w) (h0 : 0 ≤ n) (h1 : n ≤ 730484) :
    Calls Tryd.prog 31 #[.int .i64 n] w fun e w' => e = .returned (.tuple #[.string ⟨(Cv.dateT n).toArray⟩, .int .i64 0]) ∧ Below w.heap.size w w' := by
  have bd := dm_bd n h0 h1
  have yb := (Cv.yr_rs n h0 h1).2.2.2
  have Hw := Lib.hid hw; clear hw
  go_enter Tryd.func31, Tryd.ntmps31
  go_wp2_with (first
    | (go_at_call 27; refine (date_yes _ _ Hw.out.tab h0 h1).mono ?_; rintro e w' ⟨rfl, rfl⟩)
    | (go_at_call 62; (with_reducible refine (padded_four _ _ Hw.out (by omega) (by omega)).mono ?_); rintro e w1 ⟨rfl, hb⟩; have HB := Lib.hid hb; clear hb)
    | (go_at_call 62; refine (padded_two _ _ (by omega) (by omega)).mono ?_; rintro e w' ⟨rfl, rfl⟩))
  go_ret2
  exact ⟨ret_si (by simp only [bytes_append]; simp [Cv.dateT]) rfl, HB.out⟩

theorem dateT_len (n : Int) : (Cv.dateT n).length = 10 := by simp [Cv.dateT, Cv.four, Cv.two]
set_option maxHeartbeats 400000 in
theorem timeText_no (n : Int) (w : World) (h : ¬ (0 ≤ n ∧ n ≤ 1051898399)) :
    Calls Tryd.prog 29 #[.int .i64 n] w fun e w' => e = .returned (.tuple #[.string ⟨#[]⟩, .int .i64 (erT n)]) ∧ w = w' := by
  have he : (erT n != 0) = true := by unfold erT; (repeat' split) <;> first | rfl | omega
  clear h
  go_enter Tryd.func29, Tryd.ntmps29
  go_wp2_with (go_at_call 30; refine (split_any _ _).mono ?_; rintro e w' ⟨rfl, rfl⟩)
  go_ret2
  exact ⟨rfl, rfl⟩
set_option maxHeartbeats 1000000 in
theorem timeText_yes (n : Int) (w : World) (hw : Rdy w) (h0 : 0 ≤ n) (h1 : n ≤ 1051898399) :
    Calls Tryd.prog 29 #[.int .i64 n] w fun e w' => e = .returned (.tuple #[.string ⟨(Cv.timeT n).toArray⟩, .int .i64 0]) ∧ Below w.heap.size w w' := by
  have hs : Calls Tryd.prog 30 #[.int .i64 n] w fun e w' => e = .returned (.tuple #[.int .i64 (n / 1440), .int .i64 (n % 1440), .int .i64 0]) ∧ w = w' := by
    refine (split_any n w).mono ?_
    rintro e w' ⟨rfl, rfl⟩
    exact ⟨ret_three (by rw [spD, if_neg (by omega), if_neg (by omega)]) (by rw [spM, if_neg (by omega), if_neg (by omega)]) (by rw [erT, if_neg (by omega), if_neg (by omega)]), rfl⟩
  have Hs := Lib.hid hs; clear hs
  have m0 : 0 ≤ n % 1440 := by omega
  have m1 : n % 1440 < 1440 := by omega
  have d0 : 0 ≤ n / 1440 := by omega
  have d1 : n / 1440 ≤ 730484 := by omega
  have Hw := Lib.hid hw; clear hw
  have l1 : (Cv.dateT (n / 1440)).length ≤ 10 := by rw [dateT_len]; omega
  have l2 : (Cv.two (n % 1440 / 60)).length ≤ 2 := by simp [Cv.two]
  have l3 : (Cv.two (n % 60)).length ≤ 2 := by simp [Cv.two]
  go_enter Tryd.func29, Tryd.ntmps29
  go_wp2_with (first
    | (go_at_call 30; refine Hs.out.mono ?_; rintro e w' ⟨rfl, rfl⟩)
    | (go_at_call 31; refine (text_yes _ _ Hw.out d0 d1).mono ?_; rintro e w1 ⟨rfl, hb⟩; have HB := Lib.hid hb; clear hb)
    | (go_at_call 62; refine (padded_two _ _ (by omega) (by omega)).mono ?_; rintro e w' ⟨rfl, rfl⟩))
  go_ret2
  exact ⟨ret_si (by simp only [bytes_append]; simp [Cv.timeT]) rfl, HB.out⟩

theorem isD_bd {y m d : Int} (h : Cv.isD y m d = true) : 2001 ≤ y ∧ y ≤ 4000 ∧ 1 ≤ m ∧ m ≤ 12 ∧ 1 ≤ d ∧ d ≤ 31 := by
  unfold Cv.isD Cv.inM at h
  simp only [Bool.and_eq_true, decide_eq_true_eq] at h
  have := Cv.ms_step y m h.2.1 h.2.2.1
  omega
/-- is it the text of a date? which one? -/
def yT (l : List UInt8) : Int := Cv.numL (l.take 4)
def mT (l : List UInt8) : Int := Cv.numL ((l.drop 5).take 2)
def dT (l : List UInt8) : Int := Cv.numL (l.drop 8)
def isT (l : List UInt8) : Bool := decide (l.length = 10) && (l.getD 4 0 == 45) && (l.getD 7 0 == 45) && Cv.isD (yT l) (mT l) (dT l)
def rdV (l : List UInt8) : Int := if isT l = true then Cv.num (yT l) (mT l) (dT l) else 0
def rdE (l : List UInt8) : Int := if isT l = true then 0 else 11

set_option maxHeartbeats 400000 in
theorem read_len (s : ByteArray) (w : World) (h : s.size ≠ 10) (hs : s.size ≤ 9223372036854775807) :
    Calls Tryd.prog 20 #[.string s] w fun e w' => e = .returned (.tuple #[.int .i64 0, .int .i64 11]) ∧ w = w' := by
  have hb : (((s.size : Nat) : Int) != 10) = true := by rw [bne_iff_ne]; omega
  clear h
  go_enter Tryd.func20, Tryd.ntmps20
  go_wp2
  go_ret2
  exact ⟨rfl, rfl⟩
def dyV (y m d : Int) : Int := if Cv.isD y m d = true then Cv.num y m d else 0
def dyE (y m d : Int) : Int := if Cv.isD y m d = true then 0 else 10
theorem day_any (y m d : Int) (w : World) (ht : Tab w) :
    Calls Tryd.prog 14 #[.int .i64 y, .int .i64 m, .int .i64 d] w fun e w' => e = .returned (.tuple #[.int .i64 (dyV y m d), .int .i64 (dyE y m d)]) ∧ w' = w := by
  by_cases h : Cv.isD y m d = true
  · refine (day_yes y m d w ht h).mono ?_
    rintro e w' ⟨rfl, rfl⟩
    exact ⟨ret_two (by rw [dyV, if_pos h]) (by rw [dyE, if_pos h]), rfl⟩
  · refine (day_no y m d w ht (by simpa using h)).mono ?_
    rintro e w' ⟨rfl, rfl⟩
    exact ⟨ret_two (by rw [dyV, if_neg h]) (by rw [dyE, if_neg h]), rfl⟩
theorem number_q (s : ByteArray) (w : World) (hs : s.size ≤ 4) :
    Calls Tryd.prog 50 #[.string s] w fun e w' => e = .returned (.int .i64 (Cv.numL s.data.toList)) ∧ w' = w :=
  (number_any s w hs).mono fun e w' h => ⟨h.1, h.2.symm⟩
theorem Tab.drewN {w : World} (h : Tab w) (n : Nat) : Tab (w.drewN n) := h
theorem getD_at (s : ByteArray) (k : Nat) (h : k < s.size) : s.data.toList.getD k 0 = s[k] := by
  rw [List.getD_eq_getElem?_getD, List.getElem?_eq_getElem (by simpa using h)]; rfl
theorem rd_no {l : List UInt8} (h : isT l = false) : rdV l = 0 ∧ rdE l = 11 := by simp [rdV, rdE, h]
theorem rd_yes {l : List UInt8} (h : isT l = true) : rdV l = Cv.num (yT l) (mT l) (dT l) ∧ rdE l = 0 := by simp [rdV, rdE, h]
set_option maxHeartbeats 400000 in
theorem read_bad (s : ByteArray) (w : World) (h : s.size = 10) (hc : ¬ (s.data.toList.getD 4 0 = 45 ∧ s.data.toList.getD 7 0 = 45)) :
    Calls Tryd.prog 20 #[.string s] w fun e w' => e = .returned (.tuple #[.int .i64 0, .int .i64 11]) ∧ w = w' := by
  have h4 : 4 < s.size := by omega
  have h7 : 7 < s.size := by omega
  have hb : (((s.size : Nat) : Int) != 10) = false := by rw [bne_eq_false_iff_eq]; omega
  rw [getD_at s 4 h4, getD_at s 7 h7] at hc
  by_cases c : s[4] = 45
  · have c7 : (((s[7].toNat : Nat) : Int) != 45) = true := by
      rw [bne_iff_ne]
      intro e
      exact hc ⟨c, UInt8.toNat_inj.1 (by simpa using Int.ofNat.inj e)⟩
    have c4 : (((s[4].toNat : Nat) : Int) != 45) = false := by rw [c]; rfl
    clear c hc h
    go_enter Tryd.func20, Tryd.ntmps20
    go_wp2_with fail
    go_ret2
    exact ⟨rfl, rfl⟩
  · have c4 : (((s[4].toNat : Nat) : Int) != 45) = true := by
      rw [bne_iff_ne]
      intro e
      exact c (UInt8.toNat_inj.1 (by simpa using Int.ofNat.inj e))
    clear c hc h
    go_enter Tryd.func20, Tryd.ntmps20
    go_wp2_with fail
    go_ret2
    exact ⟨rfl, rfl⟩
set_option maxHeartbeats 400000 in
theorem read_ok (s : ByteArray) (w : World) (h : s.size = 10) (ht : Tab w) (k4 : s.data.toList.getD 4 0 = 45) (k7 : s.data.toList.getD 7 0 = 45) :
    Calls Tryd.prog 20 #[.string s] w fun e w' => e = .returned (.tuple #[.int .i64 (rdV s.data.toList), .int .i64 (rdE s.data.toList)]) ∧ Below w.heap.size w w' := by
  have h4 : 4 < s.size := by omega
  have h7 : 7 < s.size := by omega
  have hb : (((s.size : Nat) : Int) != 10) = false := by rw [bne_eq_false_iff_eq]; omega
  have c4 : (((s[4].toNat : Nat) : Int) != 45) = false := by rw [← getD_at s 4 h4, k4]; rfl
  have c7 : (((s[7].toNat : Nat) : Int) != 45) = false := by rw [← getD_at s 7 h7, k7]; rfl
  have H := Lib.hid h; clear h
  have K4 := Lib.hid k4; clear k4
  have K7 := Lib.hid k7; clear k7
  have hz8 : (8 : Int) ≤ s.size := by have := H.out; omega
  have hs10 : s.size ≤ 10 := by have := H.out; omega
  have hz7 : (7 : Int) ≤ s.size := by omega
  have hz4 : (4 : Int) ≤ s.size := by omega
  go_enter Tryd.func20, Tryd.ntmps20
  go_wp2_with fail
  go_quiet ((first | (go_at_call 50; exact Calls.quiet_of_same (number_q _ _ (by first | (simp; done) | (simp; omega)))) | (go_at_call 14; exact Calls.quiet_of_same (day_any _ _ _ _ (ht.drewN _)))))
  have eD : List.take (s.size - 8) (List.drop 8 s.data.toList) = List.drop 8 s.data.toList := List.take_of_length_le (by simp)
  rw [eD]
  have hT : ∀ Y M D, yT s.data.toList = Y → mT s.data.toList = M → dT s.data.toList = D → isT s.data.toList = Cv.isD Y M D := by
    rintro Y M D rfl rfl rfl
    unfold isT
    rw [decide_eq_true (by have := H.out; simpa using this), K4.out, K7.out]; simp
  have hV : ∀ Y M D, yT s.data.toList = Y → mT s.data.toList = M → dT s.data.toList = D → rdV s.data.toList = (if Cv.isD Y M D = true then Cv.num Y M D else 0) ∧ rdE s.data.toList = (if Cv.isD Y M D = true then 0 else 11) := by
    intro Y M D h1 h2 h3
    rw [rdV, rdE, hT Y M D h1 h2 h3, h1, h2, h3]; exact ⟨rfl, rfl⟩
  have HV := Lib.hid hV; clear hV hT eD
  generalize hY : Cv.numL (List.take 4 s.data.toList) = Y
  generalize hM : Cv.numL (List.take 2 (List.drop 5 s.data.toList)) = M
  generalize hD : Cv.numL (List.drop 8 s.data.toList) = D
  have HR := Lib.hid (HV.out Y M D hY hM hD)
  clear hY hM hD
  by_cases h : Cv.isD Y M D = true
  · have e1 : dyE Y M D = 0 := by rw [dyE, if_pos h]
    have e2 : dyV Y M D = Cv.num Y M D := by rw [dyV, if_pos h]
    rw [e1, e2]
    have HH := Lib.hid h
    clear e1 e2 h
    go_wp2
    go_ret2
    exact ⟨ret_two (by rw [HR.out.1, if_pos HH.out]) (by rw [HR.out.2, if_pos HH.out]), below_drewN (Below.refl _ _) nq⟩
  · have e1 : dyE Y M D = 10 := by rw [dyE, if_neg h]
    rw [e1]
    have HH := Lib.hid h
    clear e1 h
    go_wp2
    go_ret2
    exact ⟨ret_two (by rw [HR.out.1, if_neg HH.out]) (by rw [HR.out.2, if_neg HH.out]), below_drewN (Below.refl _ _) nq⟩

theorem read_any (s : ByteArray) (w : World) (hs : s.size ≤ 9223372036854775807) (ht : Tab w) :
    Calls Tryd.prog 20 #[.string s] w fun e w' => e = .returned (.tuple #[.int .i64 (rdV s.data.toList), .int .i64 (rdE s.data.toList)]) ∧ Below w.heap.size w w' := by
  by_cases h : s.size = 10
  · by_cases hc : s.data.toList.getD 4 0 = 45 ∧ s.data.toList.getD 7 0 = 45
    · exact read_ok s w h ht hc.1 hc.2
    · refine (read_bad s w h hc).mono ?_
      rintro e w' ⟨rfl, rfl⟩
      have hi : isT s.data.toList = false := by
        unfold isT
        by_cases h4 : s.data.toList.getD 4 0 = 45
        · have h7 : ¬ s.data.toList.getD 7 0 = 45 := fun x => hc ⟨h4, x⟩
          rw [show (s.data.toList.getD 7 0 == 45) = false from beq_eq_false_iff_ne.2 h7]; simp
        · rw [show (s.data.toList.getD 4 0 == 45) = false from beq_eq_false_iff_ne.2 h4]; simp
      exact ⟨ret_two (rd_no hi).1.symm (rd_no hi).2.symm, Below.refl _ _⟩
  · refine (read_len s w h hs).mono ?_
    rintro e w' ⟨rfl, rfl⟩
    have hi : isT s.data.toList = false := by
      unfold isT
      rw [decide_eq_false (by simpa using h)]; simp
    exact ⟨ret_two (rd_no hi).1.symm (rd_no hi).2.symm, Below.refl _ _⟩

/-- is it the text of a time? which one? -/
def hT (l : List UInt8) : Int := Cv.numL ((l.drop 11).take 2)
def miT (l : List UInt8) : Int := Cv.numL (l.drop 14)
def isTT (l : List UInt8) : Bool := decide (l.length = 16) && (l.getD 10 0 == 32) && (l.getD 13 0 == 58) && isT (l.take 10) && decide (0 ≤ hT l ∧ hT l ≤ 23 ∧ 0 ≤ miT l ∧ miT l ≤ 59)
def rtV (l : List UInt8) : Int := if isTT l = true then rdV (l.take 10) * 1440 + hT l * 60 + miT l else 0
def rtE (l : List UInt8) : Int := if isTT l = true then 0 else 11
theorem rt_no {l : List UInt8} (h : isTT l = false) : rtV l = 0 ∧ rtE l = 11 := by simp [rtV, rtE, h]
theorem isT_num {l : List UInt8} (h : isT l = true) : Cv.isD (yT l) (mT l) (dT l) = true := by
  unfold isT at h; simp only [Bool.and_eq_true] at h; exact h.2

set_option maxHeartbeats 400000 in
theorem readTime_len (s : ByteArray) (w : World) (h : s.size ≠ 16) (hs : s.size ≤ 9223372036854775807) :
    Calls Tryd.prog 22 #[.string s] w fun e w' => e = .returned (.tuple #[.int .i64 0, .int .i64 11]) ∧ w = w' := by
  have hb : (((s.size : Nat) : Int) != 16) = true := by rw [bne_iff_ne]; omega
  clear h
  go_enter Tryd.func22, Tryd.ntmps22
  go_wp2
  go_ret2
  exact ⟨rfl, rfl⟩
theorem byte_ne {a : UInt8} {b : UInt8} (h : a ≠ b) : (((a.toNat : Nat) : Int) != (b.toNat : Int)) = true := by
  rw [bne_iff_ne]
  intro e
  exact h (UInt8.toNat_inj.1 (by simpa using Int.ofNat.inj e))
set_option maxHeartbeats 400000 in
theorem readTime_bad (s : ByteArray) (w : World) (h : s.size = 16) (hc : ¬ (s.data.toList.getD 10 0 = 32 ∧ s.data.toList.getD 13 0 = 58)) :
    Calls Tryd.prog 22 #[.string s] w fun e w' => e = .returned (.tuple #[.int .i64 0, .int .i64 11]) ∧ w = w' := by
  have h4 : 10 < s.size := by omega
  have h7 : 13 < s.size := by omega
  have hb : (((s.size : Nat) : Int) != 16) = false := by rw [bne_eq_false_iff_eq]; omega
  rw [getD_at s 10 h4, getD_at s 13 h7] at hc
  by_cases c : s[10] = 32
  · have c7 : (((s[13].toNat : Nat) : Int) != 58) = true := byte_ne (b := 58) fun e => hc ⟨c, e⟩
    have c4 : (((s[10].toNat : Nat) : Int) != 32) = false := by rw [c]; rfl
    clear c hc h
    go_enter Tryd.func22, Tryd.ntmps22
    go_wp2_with fail
    go_ret2
    exact ⟨rfl, rfl⟩
  · have c4 : (((s[10].toNat : Nat) : Int) != 32) = true := byte_ne (b := 32) c
    clear c hc h
    go_enter Tryd.func22, Tryd.ntmps22
    go_wp2_with fail
    go_ret2
    exact ⟨rfl, rfl⟩

theorem numTo_bd (n : Int) (l : List UInt8) (h : 0 ≤ n) : -1 ≤ Cv.numTo n l := by
  induction l generalizing n with
  | nil => simp [Cv.numTo]; omega
  | cons c t ih =>
    simp only [Cv.numTo]
    split
    · rename_i hc; unfold Cv.isDg at hc; rw [decide_eq_true_eq] at hc; exact ih _ (by omega)
    · omega
theorem numL_bd (l : List UInt8) : -1 ≤ Cv.numL l := numTo_bd 0 l (by omega)
theorem numTo_lt (n : Int) (l : List UInt8) (h : 0 ≤ n) : Cv.numTo n l < (n + 1) * 10 ^ l.length := by
  induction l generalizing n with
  | nil => simp [Cv.numTo]; omega
  | cons c t ih =>
    simp only [Cv.numTo]
    have hp : (1 : Int) ≤ 10 ^ t.length := by have : (0 : Int) < 10 ^ t.length := Int.pow_pos (by decide); omega
    rw [List.length_cons, Int.pow_succ]
    split
    · rename_i hc; unfold Cv.isDg at hc; rw [decide_eq_true_eq] at hc
      have := ih (n * 10 + ((c.toNat : Int) - 48)) (by omega)
      have h2 : (n * 10 + ((c.toNat : Int) - 48) + 1) * 10 ^ t.length ≤ ((n + 1) * 10) * 10 ^ t.length := Int.mul_le_mul_of_nonneg_right (by omega) (by omega)
      rw [show (n + 1) * ((10 : Int) ^ t.length * 10) = (n + 1) * 10 * 10 ^ t.length from by rw [Int.mul_comm (10 ^ t.length) 10, Int.mul_assoc]]
      omega
    · have := Int.mul_nonneg (show (0 : Int) ≤ n + 1 by omega) (show (0 : Int) ≤ 10 ^ t.length * 10 by omega)
      omega
theorem numL_lt (l : List UInt8) (h : l.length ≤ 4) : Cv.numL l ≤ 99999 := by
  have h1 := numTo_lt 0 l (by omega)
  have h2 := (pow_bd l.length h).1
  unfold Cv.numL; omega

set_option maxHeartbeats 1000000 in
theorem readTime_ok (s : ByteArray) (w : World) (h : s.size = 16) (ht : Tab w) (k4 : s.data.toList.getD 10 0 = 32) (k7 : s.data.toList.getD 13 0 = 58) :
    Calls Tryd.prog 22 #[.string s] w fun e w' => e = .returned (.tuple #[.int .i64 (rtV s.data.toList), .int .i64 (rtE s.data.toList)]) ∧ Below w.heap.size w w' := by
  have h4 : 10 < s.size := by omega
  have h7 : 13 < s.size := by omega
  have hb : (((s.size : Nat) : Int) != 16) = false := by rw [bne_eq_false_iff_eq]; omega
  have c4 : (((s[10].toNat : Nat) : Int) != 32) = false := by rw [← getD_at s 10 h4, k4]; rfl
  have c7 : (((s[13].toNat : Nat) : Int) != 58) = false := by rw [← getD_at s 13 h7, k7]; rfl
  have H := Lib.hid h; clear h
  have K4 := Lib.hid k4; clear k4
  have K7 := Lib.hid k7; clear k7
  have hz14 : (14 : Int) ≤ s.size := by have := H.out; omega
  have hs16 : s.size ≤ 16 := by have := H.out; omega
  have hz13 : (13 : Int) ≤ s.size := by omega
  have hz10 : (10 : Int) ≤ s.size := by omega
  have hq : ∀ W, Tab W → Calls Tryd.prog 20 #[.string (s.extract 0 10)] W fun e w' => e = .returned (.tuple #[.int .i64 (rdV (List.take 10 s.data.toList)), .int .i64 (rdE (List.take 10 s.data.toList))]) ∧ Below W.heap.size W w' := by
    intro W hW
    have := read_any (s.extract 0 10) W (by simp; omega) hW
    have e : (s.extract 0 10).data.toList = List.take 10 s.data.toList := by simp
    rw [e] at this
    exact this
  have HQ := Lib.hid hq; clear hq
  go_enter Tryd.func22, Tryd.ntmps22
  go_wp2_with (go_at_call 20; refine (HQ.out _ ht).mono ?_; rintro e w1 ⟨rfl, hb1⟩; have HB := Lib.hid hb1; clear hb1)
  go_quiet ((go_at_call 50; exact Calls.quiet_of_same (number_q _ _ (by first | (simp; done) | (simp; omega)))))
  have e1 : (s.extract 11 13).data.toList = List.take 2 (List.drop 11 s.data.toList) := by simp
  have e2 : (s.extract 14 s.size).data.toList = List.drop 14 s.data.toList := by simp; exact List.take_of_length_le (by simp)
  have hT : ∀ (b : Bool) (V E X Y : Int), isT (List.take 10 s.data.toList) = b → rdV (List.take 10 s.data.toList) = V → Cv.numL (s.extract 11 13).data.toList = X → Cv.numL (s.extract 14 s.size).data.toList = Y →
      rtV s.data.toList = (if b = true ∧ 0 ≤ X ∧ X ≤ 23 ∧ 0 ≤ Y ∧ Y ≤ 59 then V * 1440 + X * 60 + Y else 0) ∧ rtE s.data.toList = (if b = true ∧ 0 ≤ X ∧ X ≤ 23 ∧ 0 ≤ Y ∧ Y ≤ 59 then 0 else 11) := by
    rintro b V E X Y rfl rfl rfl rfl
    rw [e1, e2]
    have : isTT s.data.toList = true ↔ (isT (List.take 10 s.data.toList) = true ∧ 0 ≤ hT s.data.toList ∧ hT s.data.toList ≤ 23 ∧ 0 ≤ miT s.data.toList ∧ miT s.data.toList ≤ 59) := by
      unfold isTT
      rw [decide_eq_true (by have := H.out; simpa using this), K4.out, K7.out]; simp
    rw [rtV, rtE]
    simp only [this]
    exact ⟨rfl, rfl⟩
  have nb := numL_bd
  have HT := Lib.hid hT; clear hT e1 e2
  generalize hX : Cv.numL (s.extract 11 13).data.toList = X
  generalize hY : Cv.numL (s.extract 14 s.size).data.toList = Y
  have bX : -1 ≤ X := by rw [← hX]; exact nb _
  have bY : -1 ≤ Y := by rw [← hY]; exact nb _
  have xX : X ≤ 99999 := by rw [← hX]; exact numL_lt _ (by simp; omega)
  have xY : Y ≤ 99999 := by rw [← hY]; exact numL_lt _ (by simp; omega)
  clear nb
  by_cases hi : isT (List.take 10 s.data.toList) = true
  · have hV := (rd_yes hi).1
    have hE := (rd_yes hi).2
    have hb := Cv.num_bd _ _ _ (isT_num hi)
    rw [← hV] at hb
    rw [hE]
    generalize hv : rdV (List.take 10 s.data.toList) = V at hb ⊢
    have hr := HT.out true V 0 X Y hi hv hX hY
    simp only [true_and] at hr
    have HR := Lib.hid hr; clear hr
    clear hX hY hv hV hE hi
    obtain ⟨b0, b1⟩ := hb
    go_wp2
    all_goals
      go_ret2
      exact ⟨ret_two (by rw [HR.out.1]; split <;> omega) (by rw [HR.out.2]; split <;> omega), HB.out.trans (below_drewN (Below.refl _ _) nq)⟩
  · have hi' : isT (List.take 10 s.data.toList) = false := by simpa using hi
    have hE := (rd_no hi').2
    rw [hE]
    have HR := Lib.hid (HT.out _ _ 0 X Y hi' rfl hX hY)
    clear hX hY hE hi hi'
    go_wp2
    go_ret2
    exact ⟨ret_two (by rw [HR.out.1]; simp) (by rw [HR.out.2]; simp), HB.out.trans (below_drewN (Below.refl _ _) nq)⟩

theorem readTime_any (s : ByteArray) (w : World) (hs : s.size ≤ 9223372036854775807) (ht : Tab w) :
    Calls Tryd.prog 22 #[.string s] w fun e w' => e = .returned (.tuple #[.int .i64 (rtV s.data.toList), .int .i64 (rtE s.data.toList)]) ∧ Below w.heap.size w w' := by
  by_cases h : s.size = 16
  · by_cases hc : s.data.toList.getD 10 0 = 32 ∧ s.data.toList.getD 13 0 = 58
    · exact readTime_ok s w h ht hc.1 hc.2
    · refine (readTime_bad s w h hc).mono ?_
      rintro e w' ⟨rfl, rfl⟩
      have hi : isTT s.data.toList = false := by
        unfold isTT
        by_cases h4 : s.data.toList.getD 10 0 = 32
        · have h7 : ¬ s.data.toList.getD 13 0 = 58 := fun x => hc ⟨h4, x⟩
          rw [show (s.data.toList.getD 13 0 == 58) = false from beq_eq_false_iff_ne.2 h7]; simp
        · rw [show (s.data.toList.getD 10 0 == 32) = false from beq_eq_false_iff_ne.2 h4]; simp
      exact ⟨ret_two (rt_no hi).1.symm (rt_no hi).2.symm, Below.refl _ _⟩
  · refine (readTime_len s w h hs).mono ?_
    rintro e w' ⟨rfl, rfl⟩
    have hi : isTT s.data.toList = false := by
      unfold isTT
      rw [decide_eq_false (by simpa using h)]; simp
    exact ⟨ret_two (rt_no hi).1.symm (rt_no hi).2.symm, Below.refl _ _⟩

end Go.Proofs.YtmlniggmknjneaaDoor
