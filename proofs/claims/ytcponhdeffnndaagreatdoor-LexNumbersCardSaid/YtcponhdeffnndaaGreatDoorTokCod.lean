/-
  The walks of Code and Number.
-/
import Derived.Test.YtcponhdeffnndaaGreatDoorTokCut
import Derived.Test.YtcponhdeffnndaaGreatDoorShelfB
import Derived.Laws.Bits64b
namespace Go.Proofs.YtcponhdeffnndaaGreatDoor
open Go.RowKit
set_option linter.unusedVariables false
set_option linter.unusedSimpArgs false

theorem bits_and_u16_nat (a b : Nat) (ha : a < 65536) (hb : b < 65536) : bits .and .u16 (a : Int) (b : Int) = ((a &&& b : Nat) : Int) := by
  have hx : a &&& b < 2 ^ 16 := Nat.and_lt_two_pow _ (by omega)
  have h1 : (BitVec.ofInt 16 (a : Int)).toNat = a := by
    rw [BitVec.ofInt_natCast, BitVec.toNat_ofNat]; exact Nat.mod_eq_of_lt (by omega)
  have h2 : (BitVec.ofInt 16 (b : Int)).toNat = b := by
    rw [BitVec.ofInt_natCast, BitVec.toNat_ofNat]; exact Nat.mod_eq_of_lt (by omega)
  show IntKind.u16.wrap ((BitVec.ofInt 16 (a : Int) &&& BitVec.ofInt 16 (b : Int)).toNat : Int) = _
  rw [BitVec.toNat_and, h1, h2, IntKind.wrap_u16]
  omega
/-- a class by its bit -/
theorem cls_and (w : List UInt8) (i : Nat) (hi : i < 14) : (bits .and .u16 (Tk.cls w : Int) ((2 ^ i : Nat) : Int) == 0) = !(Tk.has i w) := by
  have h := Tk.cls_lt w
  have hp : 2 ^ i ≤ 8192 := pow_le14 hi
  have hp0 : 0 < 2 ^ i := Nat.pow_pos (by omega)
  rw [bits_and_u16_nat _ _ (by omega) (by omega)]
  have hb := Tk.cls_bit w i hi
  cases hx : Tk.has i w with
  | false =>
    rw [hx] at hb
    have h0 : Tk.cls w &&& 2 ^ i = 0 := by
      apply Nat.eq_of_testBit_eq
      intro j
      rw [Nat.testBit_and, Nat.testBit_two_pow, Nat.zero_testBit]
      by_cases e : i = j
      · subst e; rw [hb]; rfl
      · rw [decide_eq_false e, Bool.and_false]
    rw [h0]; rfl
  | true =>
    rw [hx] at hb
    have h1 : (Tk.cls w &&& 2 ^ i).testBit i = true := by
      rw [Nat.testBit_and, Nat.testBit_two_pow, hb]; simp
    rw [Bool.not_true, beq_eq_false_iff_ne]
    intro e
    have e0 : Tk.cls w &&& 2 ^ i = 0 := by omega
    rw [e0, Nat.zero_testBit] at h1
    cases h1
theorem cls_ne (w : List UInt8) (i : Nat) (hi : i < 14) : (bits .and .u16 (Tk.cls w : Int) ((2 ^ i : Nat) : Int) != 0) = Tk.has i w := by
  rw [bne, cls_and w i hi, Bool.not_not]
set_option maxHeartbeats 1000000 in
theorem isBoth_any (a b : ByteArray) (w : World) (hw : Rdy w) (ha : a.size ≤ 100000000) (hb : b.size ≤ 100000000) : Calls Tryz.prog 79 #[.string a, .string b] w (PostB (Tk.has 11 a.data.toList && Tk.has 12 b.data.toList) w) := by
  have q1 := cls_any a w hw ha
  have q2 := fun V (h : Rdy V) => cls_any b V h hb
  have e1 : (bits .and .u16 (Tk.cls a.data.toList : Int) 2048 != 0) = Tk.has 11 a.data.toList := cls_ne _ 11 (by decide)
  have e2 : (bits .and .u16 (Tk.cls b.data.toList : Int) 4096 != 0) = Tk.has 12 b.data.toList := cls_ne _ 12 (by decide)
  generalize Tk.has 11 a.data.toList = X at *
  generalize Tk.has 12 b.data.toList = Y at *
  unfold PostU16 at q1 q2
  generalize Tk.cls a.data.toList = c1 at *
  generalize Tk.cls b.data.toList = c2 at *
  have Q1 := Lib.hid q1; have Q2 := Lib.hid q2; have R0 := Lib.hid hw
  clear q1 q2 hw
  cases X
  all_goals
    go_enter Tryz.func79, Tryz.ntmps79
    go_wp2_with (first
      | (go_at_call 28; (with_reducible refine Q1.out.mono ?_); rintro e w1 ⟨rfl, hb⟩; have B1 := Lib.hid hb; clear hb)
      | (go_at_call 28; (with_reducible refine (Q2.out w1 (R0.out.below B1.out)).mono ?_); rintro e w2 ⟨rfl, hb⟩; have B2 := Lib.hid (below_next B1.out hb); clear hb))
    all_goals go_ret
    all_goals exact ⟨ret_bool (by first | rfl | exact e2 | simp [e2]), by first | exact B2.out | exact B1.out⟩
def PostSB2 (x : List UInt8) (b : Bool) (w : World) (e : Ending) (w' : World) : Prop := e = .returned (.tuple #[strV x, .bool b]) ∧ Below w.heap.size w w'
theorem cat_of (a b : List UInt8) : (⟨a.toArray⟩ : ByteArray) ++ ⟨b.toArray⟩ = ⟨(a ++ b).toArray⟩ := by
  apply ByteArray.ext; rw [ByteArray.data_append]; simp
theorem hasC_and (k : Nat) (w : List UInt8) : (bits .and .u16 (Tk.cls w : Int) ((Tk.cls4 k : Nat) : Int) == 0) = !(Tk.hasC k w) := by
  unfold Tk.cls4 Tk.hasC
  by_cases h1 : k = 1
  · rw [if_pos h1, if_pos h1]; exact cls_and w 9 (by decide)
  · rw [if_neg h1, if_neg h1]
    by_cases h2 : k = 2
    · rw [if_pos h2, if_pos h2]; exact cls_and w 10 (by decide)
    · rw [if_neg h2, if_neg h2]
      by_cases h3 : k = 3
      · rw [if_pos h3, if_pos h3]; exact cls_and w 13 (by decide)
      · rw [if_neg h3, if_neg h3, bits_and_u16_nat _ _ (by have := Tk.cls_lt w; omega) (by decide), Nat.and_zero]; rfl
theorem cut_sizes (w : List UInt8) : (Tk.cut1 w).length ≤ w.length ∧ (Tk.cut2 w).length ≤ w.length ∧ (Tk.cut1 w ++ Tk.cut2 w).length ≤ w.length := by
  cases h : Tk.two w
  · obtain ⟨h1, h2⟩ := Tk.cut_none h
    rw [h1, h2]; simp
  · have := congrArg List.length (Tk.cut_two h).1
    simp at this ⊢
    omega
set_option maxHeartbeats 1000000 in
theorem code_any (k : Nat) (s : ByteArray) (w : World) (hw : Rdy w) (hs : s.size ≤ 100000000) : Calls Tryz.prog 36 #[.int .u8 k, .string s] w (PostSB2 (Tk.codeV k s.data.toList) (Tk.isCode k s.data.toList) w) := by
  have hl : s.data.toList.length = s.size := by simp
  obtain ⟨l1, l2, l3⟩ := cut_sizes s.data.toList
  have q1 := cut_any s w hs
  have q2 := fun V (h : Rdy V) => isBoth_any ⟨(Tk.cut1 s.data.toList).toArray⟩ ⟨(Tk.cut2 s.data.toList).toArray⟩ V h (by rw [size_of]; omega) (by rw [size_of]; omega)
  rw [data_of, data_of] at q2
  have q3 := fun V => codeClass_any k V
  -- what the text stands for
  obtain ⟨JB, hJB⟩ : ∃ JB : ByteArray, JB = ⟨(Tk.joinC k s.data.toList).toArray⟩ := ⟨_, rfl⟩
  have hJl : (Tk.joinC k s.data.toList).length ≤ s.data.toList.length := by
    rcases Tk.joinC_cases k s.data.toList with e | ⟨_, _, _, _, e⟩ <;> rw [e]
    · exact Nat.le_refl _
    · exact l3
  have q4 := fun V (h : Rdy V) => cls_any JB V h (by rw [hJB, size_of]; omega)
  rw [show JB.data.toList = Tk.joinC k s.data.toList by rw [hJB]] at q4
  have e4 := hasC_and k (Tk.joinC k s.data.toList)
  have hcase : (JB = s ∧ ((Tk.two s.data.toList && (k == 2)) && (Tk.has 11 (Tk.cut1 s.data.toList) && Tk.has 12 (Tk.cut2 s.data.toList))) = false) ∨ (JB = ⟨(Tk.cut1 s.data.toList).toArray⟩ ++ ⟨(Tk.cut2 s.data.toList).toArray⟩ ∧ Tk.two s.data.toList = true ∧ k = 2 ∧ (Tk.has 11 (Tk.cut1 s.data.toList) && Tk.has 12 (Tk.cut2 s.data.toList)) = true) := by
    rw [hJB]
    unfold Tk.joinC
    by_cases hc : ((Tk.two s.data.toList && (k == 2)) && (Tk.has 11 (Tk.cut1 s.data.toList) && Tk.has 12 (Tk.cut2 s.data.toList))) = true
    · rw [if_pos hc]
      simp only [Bool.and_eq_true, beq_iff_eq] at hc
      exact .inr ⟨(cat_of _ _).symm, hc.1.1, hc.1.2, by rw [hc.2.1, hc.2.2]; rfl⟩
    · rw [if_neg hc]
      exact .inl ⟨rfl, by simpa using hc⟩
  have hV : strV (Tk.codeV k s.data.toList) = if Tk.isCode k s.data.toList then .string JB else .string ⟨#[]⟩ := by
    unfold Tk.codeV
    rw [hJB]
    split <;> rfl
  have hI : Tk.isCode k s.data.toList = Tk.hasC k (Tk.joinC k s.data.toList) := rfl
  unfold PostSB2
  rw [hV, hI]
  unfold PostC3 strV at q1
  unfold PostU16 at q4
  generalize Tk.hasC k (Tk.joinC k s.data.toList) = H at *
  generalize Tk.cls (Tk.joinC k s.data.toList) = c4 at *
  generalize Tk.cls4 k = K4 at *
  generalize (Tk.has 11 (Tk.cut1 s.data.toList) && Tk.has 12 (Tk.cut2 s.data.toList)) = Bo at *
  obtain ⟨F1, hF1⟩ : ∃ F1 : ByteArray, F1 = ⟨(Tk.cut1 s.data.toList).toArray⟩ := ⟨_, rfl⟩
  obtain ⟨F2, hF2⟩ : ∃ F2 : ByteArray, F2 = ⟨(Tk.cut2 s.data.toList).toArray⟩ := ⟨_, rfl⟩
  rw [← hF1, ← hF2] at q1 q2 hcase
  generalize Tk.two s.data.toList = T2 at *
  have Q1 := Lib.hid q1; have Q2 := Lib.hid q2; have Q3 := Lib.hid q3; have Q4 := Lib.hid q4; have R0 := Lib.hid hw
  have hsum : ¬ 9223372036854775807 < F1.size + F2.size := by rw [hF1, hF2, size_of, size_of]; omega
  clear q1 q2 q3 q4 hw hl l1 l2 l3 hJB hJl hV hI hF1 hF2
  rcases hcase with ⟨hj, hc⟩ | ⟨hj, rfl, rfl, rfl⟩
  · subst hj
    have ek : ((k : Int) == 2) = (k == 2) := by rw [Bool.eq_iff_iff, beq_iff_eq, beq_iff_eq]; omega
    generalize (k == 2) = Z at *
    cases T2 <;> cases Z <;> cases Bo <;> first | (simp at hc; done) | skip
    all_goals
      clear hc
      cases H
      all_goals
        go_enter Tryz.func36, Tryz.ntmps36
        go_wp2_with (first
          | (go_at_call 78; (with_reducible refine Q1.out.mono ?_); rintro e w1 ⟨rfl, hb⟩; have B1 := Lib.hid hb; clear hb)
          | (go_at_call 79; (with_reducible refine (Q2.out w1 (R0.out.below B1.out)).mono ?_); rintro e w1 ⟨rfl, hb⟩; have B1 := Lib.hid (below_next B1.out hb); clear hb)
          | (go_at_call 28; (with_reducible refine (Q4.out _ (R0.out.below B1.out)).mono ?_); rintro e w3 ⟨rfl, hb⟩; have B3 := Lib.hid (below_next B1.out hb); clear hb)
          | (go_at_call 80; (with_reducible refine (Q3.out _).mono ?_); rintro e w4 ⟨rfl, rfl⟩))
        all_goals go_ret2
        all_goals exact ⟨rfl, B3.out⟩
  · subst hj
    have Q5 : Hid (∀ V, Calls Tryz.prog 80 #[.int .u8 2] V fun e w' => e = .returned (.int .u16 K4) ∧ w' = V) := Lib.hid (fun V => Q3.out V)
    cases H
    all_goals
      go_enter Tryz.func36, Tryz.ntmps36
      go_wp2_with (first
        | (go_at_call 78; (with_reducible refine Q1.out.mono ?_); rintro e w1 ⟨rfl, hb⟩; have B1 := Lib.hid hb; clear hb)
        | (go_at_call 79; (with_reducible refine (Q2.out w1 (R0.out.below B1.out)).mono ?_); rintro e w2 ⟨rfl, hb⟩; have B2 := Lib.hid (below_next B1.out hb); clear hb)
        | (go_at_call 28; (with_reducible refine (Q4.out _ (R0.out.below B2.out)).mono ?_); rintro e w3 ⟨rfl, hb⟩; have B3 := Lib.hid (below_next B2.out hb); clear hb)
        | (go_at_call 80; (with_reducible refine (Q5.out _).mono ?_); rintro e w4 ⟨rfl, rfl⟩))
      all_goals go_ret2
      all_goals exact ⟨rfl, B3.out⟩
end Go.Proofs.YtcponhdeffnndaaGreatDoor
