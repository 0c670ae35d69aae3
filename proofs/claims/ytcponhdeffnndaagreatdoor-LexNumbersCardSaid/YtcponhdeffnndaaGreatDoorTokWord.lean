/-
  Tests of words: short, numbers, with a letter, names, flats, kinds.
-/
import Derived.Test.YtcponhdeffnndaaGreatDoorTokByte
namespace Go.Proofs.YtcponhdeffnndaaGreatDoor
open Go.RowKit
set_option linter.unusedVariables false
set_option linter.unusedSimpArgs false

theorem empty_size (s : ByteArray) : (s.toList == []) = decide (s.size = 0) := by
  rw [ByteArray.toList_eq, Bool.eq_iff_iff, beq_iff_eq, decide_eq_true_eq]
  have hl : s.data.toList.length = s.size := by simp
  constructor
  · intro e; rw [e] at hl; simpa using hl.symm
  · intro e; exact List.eq_nil_of_length_eq_zero (by omega)
theorem short_size (s : ByteArray) : Tk.shortW s.data.toList = decide (1 ≤ s.size ∧ s.size ≤ 6) := by
  unfold Tk.shortW
  rw [show s.data.toList.length = s.size by simp]
theorem isShort_any (s : ByteArray) (w : World) : Calls Tryz.prog 152 #[.string s] w (PostB (Tk.shortW s.data.toList) w) := by
  rw [short_size]
  have e := empty_size s
  by_cases h0 : s.size = 0
  · rw [decide_eq_true h0] at e
    rw [decide_eq_false (by omega)]
    clear h0
    go_enter Tryz.func152, Tryz.ntmps152
    go_wp2
    all_goals go_ret
    all_goals exact ⟨rfl, Below.refl _ _⟩
  · rw [decide_eq_false h0] at e
    have h1 : decide (1 ≤ s.size ∧ s.size ≤ 6) = decide (s.size ≤ 6) := by rw [Bool.eq_iff_iff]; simp; omega
    rw [h1]
    clear h0 h1
    go_enter Tryz.func152, Tryz.ntmps152
    go_wp2
    all_goals go_ret
    all_goals exact ⟨ret_bool (by rw [Bool.eq_iff_iff]; simp <;> omega), Below.refl _ _⟩
theorem getD_str (s : ByteArray) (k : Nat) (h : k < s.size) : s.data.toList.getD k 0 = s[k] := by
  rw [List.getD_eq_getElem?_getD, List.getElem?_eq_getElem (by simpa using h)]; rfl
set_option maxHeartbeats 1000000 in
theorem isNumber_any (s : ByteArray) (w : World) (hs : s.size ≤ 100000000) : Calls Tryz.prog 73 #[.string s] w (PostB (Tk.num s.data.toList) w) := by
  have q1 := isShort_any s w
  have q2 := fun V => all_any s 144 Tk.isD V isDigit_fits hs
  have hsz := short_size s
  unfold Tk.num
  generalize s.data.toList.all Tk.isD = D at *
  cases hb : Tk.shortW s.data.toList with
  | false =>
    rw [hb] at q1
    have Q1 := Lib.hid q1
    clear q1 q2 hsz
    simp only [Bool.false_and]
    go_enter Tryz.func73, Tryz.ntmps73
    go_wp2_with (go_at_call 152; (with_reducible refine Q1.out.mono ?_); rintro e w1 ⟨rfl, hb⟩; have B1 := Lib.hid hb; clear hb)
    go_ret
    exact ⟨rfl, B1.out⟩
  | true =>
    rw [hb] at q1 hsz
    have h0 : 0 < s.size := by have := of_decide_eq_true hsz.symm; omega
    rw [getD_str s 0 h0]
    obtain ⟨c, hcc⟩ : ∃ c, s[0] = c := ⟨_, rfl⟩
    rw [hcc]
    have h0' : (0 : Int) < s.size := by omega
    have Q1 := Lib.hid q1; have Q2 := Lib.hid q2
    clear q1 q2 hsz
    by_cases hz : c.toNat = 48
    · rw [show (c.toNat != 48) = false by rw [hz]; rfl]
      simp only [Bool.and_false, Bool.false_and]
      have hz2 : ((c.toNat : Int) != 48) = false := by rw [bne_eq_false_iff_eq]; omega
      have HZ := Lib.hid hz
      clear hz
      go_enter Tryz.func73, Tryz.ntmps73
      go_wp2_with (go_at_call 152; (with_reducible refine Q1.out.mono ?_); rintro e w1 ⟨rfl, hb⟩; have B1 := Lib.hid hb; clear hb)
      all_goals go_ret
      all_goals exact ⟨rfl, B1.out⟩
    · rw [show (c.toNat != 48) = true by simpa using hz]
      simp only [Bool.true_and]
      have hz2 : ((c.toNat : Int) != 48) = true := by rw [bne_iff_ne]; omega
      have HZ := Lib.hid hz
      clear hz
      go_enter Tryz.func73, Tryz.ntmps73
      go_wp2_with (first
        | (go_at_call 152; (with_reducible refine Q1.out.mono ?_); rintro e w1 ⟨rfl, hb⟩; have B1 := Lib.hid hb; clear hb)
        | (go_at_call 153; (with_reducible refine (Q2.out w1).mono ?_); rintro e w2 ⟨rfl, hb⟩; have B2 := Lib.hid (below_next B1.out hb); clear hb))
      all_goals go_ret
      all_goals exact ⟨rfl, B2.out⟩
theorem ext_take (s : ByteArray) (k : Nat) : s.extract 0 k = ⟨(s.data.toList.take k).toArray⟩ := by
  apply ByteArray.ext
  apply Array.ext'
  simp [ByteArray.data_extract, List.extract_eq_take_drop]
theorem ext_drop (s : ByteArray) (k n : Nat) (h : s.size ≤ n) : s.extract k n = ⟨(s.data.toList.drop k).toArray⟩ := by
  apply ByteArray.ext
  apply Array.ext'
  simp only [ByteArray.data_extract, Array.toList_extract, List.extract_eq_take_drop]
  rw [List.take_of_length_le]
  simp; omega
def PostCut (s : ByteArray) (w : World) (e : Ending) (w' : World) : Prop := e = .returned (.tuple #[strV (Tk.cutD s.data.toList), strV (Tk.cutL s.data.toList)]) ∧ Below w.heap.size w w'
set_option maxHeartbeats 1000000 in
theorem cutLetter_any (s : ByteArray) (w : World) (hs : s.size ≤ 100000000) : Calls Tryz.prog 72 #[.string s] w (PostCut s w) := by
  unfold PostCut Tk.cutD Tk.cutL
  have hlen : s.data.toList.length = s.size := by simp
  rw [hlen]
  rcases Nat.eq_zero_or_pos s.size with h0 | h0
  · have hnil : s.data.toList = [] := List.eq_nil_of_length_eq_zero (by omega)
    have he : s = ⟨#[]⟩ := by
      apply ByteArray.ext; apply Array.ext'; rw [hnil]
    subst he
    clear h0 hnil hlen
    go_enter Tryz.func72, Tryz.ntmps72
    go_wp2
    all_goals go_ret2
    all_goals exact ⟨rfl, Below.refl _ _⟩
  · obtain ⟨k, hk⟩ : ∃ k, s.size = k + 1 := ⟨s.size - 1, by omega⟩
    rw [hk, Nat.add_sub_cancel, getD_str s k (by omega)]
    have hkk : k < s.size := by omega
    have hk1 : (k : Int) ≤ 100000000 := by omega
    have HE1 := Lib.hid (ext_take s k); have HE2 := Lib.hid (ext_drop s k (k + 1) (by omega))
    obtain ⟨c, hcc⟩ : ∃ c, s[k] = c := ⟨_, rfl⟩
    rw [hcc]
    have q1 := isLetter_fits.2 c w
    generalize Tk.isL c = b at *
    have Q1 := Lib.hid q1
    have HL := Lib.hid hlen
    clear q1 hlen
    cases b with
    | false =>
      simp only [Bool.false_eq_true, if_false]
      go_enter Tryz.func72, Tryz.ntmps72
      go_wp2_with (go_at_call 142; (with_reducible refine Q1.out.mono ?_); rintro e w1 ⟨rfl, hb⟩; have B1 := Lib.hid hb; clear hb)
      all_goals go_ret2
      all_goals exact ⟨rfl, B1.out⟩
    | true =>
      simp only [if_true]
      go_enter Tryz.func72, Tryz.ntmps72
      go_wp2_with (go_at_call 142; (with_reducible refine Q1.out.mono ?_); rintro e w1 ⟨rfl, hb⟩; have B1 := Lib.hid hb; clear hb)
      go_quiet (fail)
      all_goals go_wp2
      all_goals go_ret2
      all_goals exact ⟨by rw [HE1.out, HE2.out]; rfl, belowN B1.out _⟩
end Go.Proofs.YtcponhdeffnndaaGreatDoor
