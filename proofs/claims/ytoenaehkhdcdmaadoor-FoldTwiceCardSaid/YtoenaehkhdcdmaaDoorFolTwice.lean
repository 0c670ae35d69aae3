/-
  The law's plain; the walk of FoldTwice.
-/
import Derived.Test.YtoenaehkhdcdmaaDoorFolAwake
namespace Go.Proofs.YtoenaehkhdcdmaaDoor
open Go.RowKit
set_option linter.unusedVariables false
set_option linter.unusedSimpArgs false

/-- what plain asks at a place -/
def PlAt (l : List UInt8) (i : Nat) : Prop := Fo.kept (l.getD i 0).toNat = true ∨ (l.getD i 0 = 32 ∧ 0 < i ∧ i + 1 < l.length ∧ l.getD (i - 1) 0 ≠ 32)
theorem kept_of {n : Nat} (h : 65 ≤ n ∧ n ≤ 90 ∨ 48 ≤ n ∧ n ≤ 57 ∨ n = 45 ∨ n = 47) : Fo.kept n = true := decide_eq_true h
theorem not_kept {n : Nat} (h : ¬(65 ≤ n ∧ n ≤ 90 ∨ 48 ≤ n ∧ n ≤ 57 ∨ n = 45 ∨ n = 47)) : Fo.kept n = false := decide_eq_false h
set_option maxRecDepth 100000 in
set_option maxHeartbeats 8000000 in
theorem plain_any (s : ByteArray) (w : World) (hs : s.size ≤ 100000000) : Calls Tryd.prog 14 #[.string s] w fun e w' => e = .returned (.bool (Fo.fold s.data.toList == s.data.toList)) ∧ w = w' := by
  have hl : s.data.toList.length = s.size := by simp
  have HL := Lib.hid hl; clear hl
  have hgood : (∀ j, j < s.size → PlAt s.data.toList j) → (Fo.fold s.data.toList == s.data.toList) = true := by
    intro h
    rw [beq_iff_eq, Fo.right_iff]
    intro i hi
    exact h i (by rw [HL.out] at hi; exact hi)
  have hbad : ∀ j, j < s.size → ¬PlAt s.data.toList j → (Fo.fold s.data.toList == s.data.toList) = false := by
    intro j hj hn
    rw [beq_eq_false_iff_ne, ne_eq, Fo.right_iff]
    intro h
    exact hn (h j (by rw [HL.out]; exact hj))
  generalize (Fo.fold s.data.toList == s.data.toList) = R at *
  have HG := Lib.hid hgood; have HBad := Lib.hid hbad
  clear hgood hbad
  go_enter Tryd.func14, Tryd.ntmps14
  go_wp2
  go_loopw [3] (fun s3 wr => wr = w ∧ ∃ k : Nat, s3 = .int .i64 k ∧ k ≤ s.size ∧ Hid (∀ j, j < k → PlAt s.data.toList j)) (fun s3 _ => s.size - (intOf s3).toNat)
  case atStart => exact ⟨rfl, 0, rfl, by omega, Lib.hid (fun j h => by omega)⟩
  case round =>
    obtain ⟨rfl, k, rfl, hk, HS⟩ := hrel
    by_cases hlt : k < s.size
    · have hlt2 : (k : Int) < s.size := by omega
      have hg := getD_at s k hlt
      obtain ⟨c, hc⟩ : ∃ c, s[k] = c := ⟨_, rfl⟩
      rw [hc] at hg
      have HC := Lib.hid hg; clear hg
      have step : PlAt s.data.toList k → Hid (∀ j, j < k + 1 → PlAt s.data.toList j) := fun h => Lib.hid (fun j hj => by
        rcases Nat.lt_or_ge j k with h' | h'
        · exact HS.out j h'
        · obtain rfl : j = k := by omega
          exact h)
      have HSt := Lib.hid step; clear step
      have hn8 := UInt8.toNat_lt c
      rcases (show (65 ≤ c.toNat ∧ c.toNat ≤ 90) ∨ (48 ≤ c.toNat ∧ c.toNat ≤ 57) ∨ c.toNat = 45 ∨ c.toNat = 47 ∨ c.toNat = 32 ∨ (c.toNat < 32) ∨ (32 < c.toNat ∧ c.toNat < 45) ∨ c.toNat = 46 ∨ (58 ≤ c.toNat ∧ c.toNat ≤ 64) ∨ 91 ≤ c.toNat by omega) with ⟨g1, g2⟩ | ⟨g1, g2⟩ | g1 | g1 | g1 | g1 | ⟨g1, g2⟩ | g1 | ⟨g1, g2⟩ | g1
      iterate 4
        · have hkp := HSt.out (.inl (by rw [HC.out]; exact kept_of (by omega)))
          go_wp2
          exact ⟨⟨trivial, k + 1, by go_num, by omega, hkp⟩, by simp [intOf]; omega⟩
      · have hc32 : s.data.toList.getD k 0 = 32 := by rw [HC.out]; exact UInt8.toNat_inj.1 g1
        have HC3 := Lib.hid hc32; clear hc32
        have nokept : Fo.kept (s.data.toList.getD k 0).toNat = true → False := by rw [HC3.out]; decide
        have HNK := Lib.hid nokept; clear nokept
        rcases Nat.eq_zero_or_pos k with h0 | h0
        · have hno : R = false := HBad.out k hlt (by
            rintro (h | ⟨_, h, _⟩)
            · exact HNK.out h
            · omega)
          have HNo := Lib.hid hno; clear hno
          subst h0
          go_wp2
          go_ret
          exact ⟨ret_bool HNo.out.symm, rfl⟩
        · obtain ⟨m, rfl⟩ : ∃ m, k = m + 1 := ⟨k - 1, by omega⟩
          by_cases h1 : m + 1 + 1 < s.size
          · have hm : m < s.size := by omega
            have hgm := getD_at s m hm
            obtain ⟨d, hd⟩ : ∃ d, s[m] = d := ⟨_, rfl⟩
            rw [hd] at hgm
            have HD := Lib.hid hgm; clear hgm
            have h1i : (m : Int) + 1 + 1 < s.size := by omega
            have hmi : (m : Int) < s.size := by omega
            by_cases h2 : d.toNat = 32
            · have hno : R = false := HBad.out (m + 1) hlt (by
                rintro (h | ⟨_, _, _, h⟩)
                · exact HNK.out h
                · apply h
                  rw [show m + 1 - 1 = m by omega, HD.out]
                  exact UInt8.toNat_inj.1 h2)
              have HNo := Lib.hid hno; clear hno
              go_wp2
              go_ret
              exact ⟨ret_bool HNo.out.symm, rfl⟩
            · have hkp := HSt.out (.inr ⟨HC3.out, by omega, by rw [HL.out]; omega, by
                rw [show m + 1 - 1 = m by omega, HD.out]
                rintro rfl
                exact h2 rfl⟩)
              have hne : ((d.toNat : Int) != 32) = true := by rw [bne_iff_ne]; omega
              go_wp2
              exact ⟨⟨trivial, m + 1 + 1, by go_num, by omega, hkp⟩, by simp [intOf]; omega⟩
          · have hno : R = false := HBad.out (m + 1) hlt (by
              rintro (h | ⟨_, _, h, _⟩)
              · exact HNK.out h
              · rw [HL.out] at h; omega)
            have HNo := Lib.hid hno; clear hno
            have h1i : ¬ (m : Int) + 1 + 1 < s.size := by omega
            go_wp2
            go_ret
            exact ⟨ret_bool HNo.out.symm, rfl⟩
      iterate 5
        · have hno : R = false := HBad.out k hlt (by
            rintro (h | ⟨h, _⟩)
            · rw [HC.out, not_kept (by omega)] at h; cases h
            · have : c.toNat = 32 := by rw [← HC.out, h]; rfl
              omega)
          have HNo := Lib.hid hno; clear hno
          have hne : ((c.toNat : Int) == 32) = false := by rw [beq_eq_false_iff_ne]; omega
          have hne1 : ((c.toNat : Int) == 45) = false := by rw [beq_eq_false_iff_ne]; omega
          have hne2 : ((c.toNat : Int) == 47) = false := by rw [beq_eq_false_iff_ne]; omega
          go_wp2
          all_goals first
            | (go_ret; exact ⟨ret_bool HNo.out.symm, rfl⟩)
            | (exfalso; rename_i h; simp at h; omega)
    · have hyes : R = true := HG.out (fun j hj => HS.out j (by omega))
      have hge : ¬ (k : Int) < s.size := by omega
      subst hyes
      go_wp2
      go_ret
      exact ⟨rfl, rfl⟩

set_option maxRecDepth 100000 in
set_option maxHeartbeats 4000000 in
theorem walk_foldTwice (s : ByteArray) (hm : s.size ≤ maxLen) (w : World) (hw : Rdy w) : Calls Tryd.prog 4 #[.string s] w fun e w' => e = .returned (.bool true) ∧ Below w.heap.size w w' := by
  have HA := Lib.hid (awake_any w hw)
  have HR := Lib.hid hw
  clear hw
  by_cases hlong : 2000 < s.size
  · have h1 : ¬ s.size ≤ 2000 := by omega
    go_enter Tryd.func4, Tryd.ntmps4
    go_wp2_with (go_at_call 12; (with_reducible refine HA.out.mono ?_); rintro e w1 ⟨rfl, hb⟩; have B1 := Lib.hid hb; clear hb)
    go_ret
    exact ⟨rfl, B1.out⟩
  · have h1 : ¬ 2000 < (s.size : Int) := by omega
    have hs8 : s.size ≤ 2000 := by omega
    have hlT : (Fo.fold s.data.toList).length ≤ s.size := by have := Fo.fold_len s.data.toList; simpa using this
    have hff := Fo.fold_fold s.data.toList
    obtain ⟨T, hT⟩ : ∃ T : ByteArray, T = ⟨(Fo.fold s.data.toList).toArray⟩ := ⟨_, rfl⟩
    have hTd : T.data.toList = Fo.fold s.data.toList := by rw [hT]
    have hTs : T.size ≤ s.size := by rw [hT]; show Array.size _ ≤ _; simpa using hlT
    have hTi : (T.size : Int) ≤ s.size := by omega
    have q1 := fun V (h : Rdy V) => fold_any s V h (by omega)
    have q2 := fun V (h : Rdy V) => fold_any T V h (by omega)
    have q3 := fun V => plain_any T V (by omega)
    have q4 := fun V (h : Rdy V) => right_any T V h (by omega)
    have q5 := fun V => plain_any s V (by omega)
    have q6 := fun V (h : Rdy V) => right_any s V h (by omega)
    unfold PostStr at q1 q2
    rw [hTd, hff] at q2 q3 q4
    rw [← hT] at q1 q2
    have he : (Fo.fold s.data.toList == Fo.fold s.data.toList) = true := beq_self_eq_true _
    rw [he] at q3 q4
    generalize (Fo.fold s.data.toList == s.data.toList) = D at *
    have hTT : (T.toList == T.toList) = true := beq_self_eq_true _
    have Q1 := Lib.hid q1; have Q2 := Lib.hid q2; have Q3 := Lib.hid q3; have Q4 := Lib.hid q4; have Q5 := Lib.hid q5; have Q6 := Lib.hid q6
    clear q1 q2 q3 q4 q5 q6 he hTd hT hff hlT
    go_enter Tryd.func4, Tryd.ntmps4
    go_wp2_with (first
      | (go_at_call 12; (with_reducible refine HA.out.mono ?_); rintro e w1 ⟨rfl, hb⟩; have B1 := Lib.hid hb; have R1 := Lib.hid (HR.out.below hb); clear hb)
      | (go_at_call 13; (with_reducible refine (Q1.out w1 R1.out).mono ?_); rintro e w2 ⟨rfl, hb⟩; have B2 := Lib.hid (below_next B1.out hb); have R2 := Lib.hid (R1.out.below hb); clear hb)
      | (go_at_call 14; (with_reducible refine (Q3.out w2).mono ?_); rintro e w3 ⟨rfl, rfl⟩)
      | (go_at_call 13; (with_reducible refine (Q2.out w2 R2.out).mono ?_); rintro e w4 ⟨rfl, hb⟩; have B4 := Lib.hid (below_next B2.out hb); have R4 := Lib.hid (R2.out.below hb); clear hb)
      | (go_at_call 15; (with_reducible refine (Q4.out w4 R4.out).mono ?_); rintro e w5 ⟨rfl, hb⟩; have B5 := Lib.hid (below_next B4.out hb); have R5 := Lib.hid (R4.out.below hb); clear hb)
      | (go_at_call 15; (with_reducible refine (Q6.out w5 R5.out).mono ?_); rintro e w6 ⟨rfl, hb⟩; have B6 := Lib.hid (below_next B5.out hb); clear hb)
      | (go_at_call 14; (with_reducible refine (Q5.out w6).mono ?_); rintro e w7 ⟨rfl, rfl⟩))
    all_goals go_ret
    all_goals exact ⟨ret_bool (by simp), B6.out⟩
end Go.Proofs.YtoenaehkhdcdmaaDoor
