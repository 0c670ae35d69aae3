/-
  The walks of civil's texts.
-/
import Derived.Test.YtmlniggmknjneaaDoorCivWalk4
import Derived.Test.YtmlniggmknjneaaDoorCivPlain3
import Derived.WalkSmall
namespace Go.Proofs.YtmlniggmknjneaaDoor
open Go.RowKit
set_option linter.unusedVariables false

theorem numTo_drop (k : Nat) (a : Int) (l : List UInt8) (hk : k < l.length) : Cv.numTo a (l.drop k) = if Cv.isDg l[k] = true then Cv.numTo (a * 10 + ((l[k].toNat : Int) - 48)) (l.drop (k + 1)) else -1 := by
  rw [List.drop_eq_getElem_cons hk, Cv.numTo]
theorem pow_bd (k : Nat) (h : k ≤ 4) : (10 : Int) ^ k ≤ 10000 ∧ (10 : Int) ^ k ≥ 1 := by
  rcases k with _ | _ | _ | _ | _ | k <;> first | decide | omega

set_option maxHeartbeats 400000 in
theorem number_any (s : ByteArray) (w : World) (hs : s.size ≤ 4) :
    Calls Tryd.prog 50 #[.string s] w fun e w' => e = .returned (.int .i64 (Cv.numL s.data.toList)) ∧ w = w' := by
  go_enter Tryd.func50, Tryd.ntmps50
  go_wp2
  go_loop [3, 7] (fun n i => ∃ (k : Nat) (a : Int), k ≤ s.size ∧ i = .int .i64 k ∧ n = .int .i64 a ∧ 0 ≤ a ∧ a < (10 : Int) ^ k ∧ Hid (Cv.numL s.data.toList = Cv.numTo a (s.data.toList.drop k))) (fun _ i => s.size - (intOf i).toNat)
  case atStart => exact ⟨0, 0, by omega, rfl, rfl, by omega, by decide, rfl⟩
  case round =>
    obtain ⟨k, a, hk, rfl, rfl, ha0, ha1, hm⟩ := hrel
    by_cases hlt : k < s.size
    · have hd : Cv.numTo a (s.data.toList.drop k) = if Cv.isDg s[k] = true then Cv.numTo (a * 10 + ((s[k].toNat : Int) - 48)) (s.data.toList.drop (k + 1)) else -1 := numTo_drop k a s.data.toList (by simpa using hlt)
      have Hd := Lib.hid hd; clear hd
      have pb := pow_bd k (by omega)
      go_wp2
      · go_ret
        exact ⟨ret_int (by rw [hm.out, Hd.out, if_neg (by unfold Cv.isDg; rw [decide_eq_true_eq]; omega)]), rfl⟩
      · have e : (10 : Int) ^ (k + 1) = 10 ^ k * 10 := Int.pow_succ ..
        exact ⟨⟨k + 1, _, by omega, by go_num, rfl, by omega, by omega, by have := hm.out; rw [Hd.out, if_pos (by unfold Cv.isDg; rw [decide_eq_true_eq]; omega)] at this; exact this⟩, by simp [intOf]; omega⟩
      · go_ret
        exact ⟨ret_int (by rw [hm.out, Hd.out, if_neg (by unfold Cv.isDg; rw [decide_eq_true_eq]; omega)]), rfl⟩
    · go_wp2
      go_ret
      exact ⟨ret_int (by rw [hm.out, List.drop_eq_nil_of_le (by simp; omega)]; rfl), rfl⟩

theorem ret_str {a b : ByteArray} (h : a = b) : Ending.returned (.string a) = .returned (.string b) := by rw [h]
theorem bytes_append (a b : List UInt8) : (⟨a.toArray⟩ : ByteArray) ++ ⟨b.toArray⟩ = ⟨(a ++ b).toArray⟩ := by
  apply ByteArray.ext; rw [ByteArray.data_append]; simp
theorem dgt_of (n : Nat) (m : Int) (h : (n : Int) = m % 10) (h' : n < 10) : UInt8.ofNat (48 + n) = Cv.dgt m := by
  unfold Cv.dgt; rw [show (m % 10).toNat = n from by omega]
theorem itoa_one (n : Nat) (w : World) (h : n < 10) :
    Calls Tryd.prog 74 #[.int .i64 n] w fun e w' => e = .returned (.string ⟨#[Cv.dgt n]⟩) ∧ w = w' := by
  refine (Tryd.strconv_Itoa_small n (by omega) w).mono ?_
  rintro e w' ⟨rfl, rfl⟩
  rw [Lib.decDigits_one h, dgt_of n n (by omega) h]
  exact ⟨rfl, rfl⟩
theorem itoa_two (n : Nat) (w : World) (h1 : 10 ≤ n) (h : n < 100) :
    Calls Tryd.prog 74 #[.int .i64 n] w fun e w' => e = .returned (.string ⟨#[Cv.dgt ((n : Int) / 10), Cv.dgt n]⟩) ∧ w = w' := by
  refine (Tryd.strconv_Itoa_small n (by omega) w).mono ?_
  rintro e w' ⟨rfl, rfl⟩
  rw [Lib.decDigits_two (by omega) h, dgt_of (n / 10) ((n : Int) / 10) (by omega) (by omega), dgt_of (n % 10) n (by omega) (by omega)]
  exact ⟨rfl, rfl⟩
set_option maxHeartbeats 400000 in
theorem padded_two (n : Int) (w : World) (h0 : 0 ≤ n) (h1 : n < 100) :
    Calls Tryd.prog 62 #[.int .i64 n, .int .i64 2] w fun e w' => e = .returned (.string ⟨(Cv.two n).toArray⟩) ∧ w = w' := by
  obtain ⟨n, rfl⟩ := Int.eq_ofNat_of_zero_le h0
  by_cases h2 : n < 10
  · have e : Cv.two (n : Int) = [48, Cv.dgt n] := by unfold Cv.two; rw [← dgt_of 0 ((n : Int) / 10) (by omega) (by omega)]; rfl
    have E := Lib.hid e; clear e
    go_enter Tryd.func62, Tryd.ntmps62
    go_wp2_with (first
      | (go_at_call 74; refine (itoa_one _ _ h2).mono ?_; rintro e w' ⟨rfl, rfl⟩)
      | (go_at_call 75; refine (Tryd.strings_Repeat_one _ _).mono ?_; rintro e w' ⟨rfl, rfl⟩))
    go_ret
    exact ⟨ret_str (by rw [E.out]; rfl), rfl⟩
  · go_enter Tryd.func62, Tryd.ntmps62
    go_wp2_with (first
      | (go_at_call 74; refine (itoa_two _ _ (by omega) (by omega)).mono ?_; rintro e w' ⟨rfl, rfl⟩)
      | (go_at_call 75; refine (Tryd.strings_Repeat_zero _ _).mono ?_; rintro e w' ⟨rfl, rfl⟩))
    go_ret
    exact ⟨ret_str (by rw [bytes_append]; rfl), rfl⟩

/-- what the texts of numbers and the dates need of the world -/
structure Rdy (w : World) : Prop where
  tab : Tab w
  p10 : Lib.TabIs Tryd.prog w "internal/strconv.uint64pow10" .u64 Lib.pow10Tab
theorem pow10_named : Tryd.prog.globalNamed "internal/strconv.uint64pow10" = some 1 := by kernel_rfl
theorem Rdy.below {w w1 : World} (h : Rdy w) (hb : Below w.heap.size w w1) : Rdy w1 :=
  ⟨Tab.below h.tab hb (Tab.size h.tab), var?_below hb pow10_named (by
    have := World.block_lt_of_cell? w ⟨1, 0, none⟩ (h.p10.cell pow10_named 0 (by simp [Lib.pow10Tab]))
    exact this) h.p10⟩

theorem decDigits_four (n : Nat) (h1 : 1000 ≤ n) (h2 : n < 10000) : Lib.decDigits n = Cv.four n := by
  rw [Lib.decDigits, dif_neg (by omega), Lib.decDigits, dif_neg (by omega), Lib.decDigits_two (by omega) (by omega)]
  rw [dgt_of (n / 10 / 10 / 10) ((n : Int) / 1000) (by omega) (by omega), dgt_of (n / 10 / 10 % 10) ((n : Int) / 100) (by omega) (by omega), dgt_of (n / 10 % 10) ((n : Int) / 10) (by omega) (by omega), dgt_of (n % 10) n (by omega) (by omega)]
  rfl
theorem itoa_four (n : Nat) (w : World) (hw : Rdy w) (h1 : 1000 ≤ n) (h : n < 10000) :
    Calls Tryd.prog 74 #[.int .i64 n] w fun e w' => e = .returned (.string ⟨#[Cv.dgt ((n : Int) / 1000), Cv.dgt ((n : Int) / 100), Cv.dgt ((n : Int) / 10), Cv.dgt n]⟩) ∧ Below w.heap.size w w' := by
  refine (Tryd.strconv_Itoa n (by omega) (by omega) w hw.p10).mono ?_
  rintro e w' ⟨rfl, k, os, rfl⟩
  rw [Lib.itoa_nonneg, decDigits_four n h1 h]
  exact ⟨rfl, ⟨rfl, rfl, rfl, by show w.heap.size ≤ (w.heap ++ os).size; rw [Array.size_append]; omega, fun j hj => by show (w.heap ++ os)[j]? = _; rw [Array.getElem?_append_left hj]⟩⟩
set_option maxHeartbeats 400000 in
theorem padded_four (n : Int) (w : World) (hw : Rdy w) (h0 : 1000 ≤ n) (h1 : n < 10000) :
    Calls Tryd.prog 62 #[.int .i64 n, .int .i64 4] w fun e w' => e = .returned (.string ⟨(Cv.four n).toArray⟩) ∧ Below w.heap.size w w' := by
  obtain ⟨n, rfl⟩ := Int.eq_ofNat_of_zero_le (show 0 ≤ n by omega)
  have Hw := Lib.hid hw; clear hw
  go_enter Tryd.func62, Tryd.ntmps62
  go_wp2_with (first
    | (go_at_call 74; refine (itoa_four _ _ Hw.out (by omega) (by omega)).mono ?_; rintro e w1 ⟨rfl, hb⟩; have HB := Lib.hid hb; clear hb)
    | (go_at_call 75; refine (Tryd.strings_Repeat_zero _ _).mono ?_; rintro e w' ⟨rfl, rfl⟩))
  go_ret
  exact ⟨ret_str (by rw [bytes_append]; rfl), HB.out⟩

end Go.Proofs.YtmlniggmknjneaaDoor
