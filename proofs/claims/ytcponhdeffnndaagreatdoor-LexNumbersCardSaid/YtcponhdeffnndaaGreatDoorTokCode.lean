/-
  Codes of countries in plain arithmetic. No program here.
-/
import Derived.Test.YtcponhdeffnndaaGreatDoorTokPlain2
namespace Tk
set_option linter.unusedVariables false
set_option linter.unusedSimpArgs false

theorem LD_blank {w : List UInt8} (h : w.all isLD = true) : two w = false := by
  unfold two
  cases hc : w.contains 32 with
  | false => rfl
  | true =>
    have := List.all_eq_true.1 h 32 (List.contains_iff_mem.1 hc)
    exact absurd this (by decide)
theorem has_blank {i : Nat} (h0 : 8 ≤ i) (h1 : i ≤ 13) {w : List UInt8} (h : has i w = true) : two w = false := by
  rw [has_pat h0 h1] at h
  exact LD_blank (mat_LD _ w h)
theorem joinC_self (k : Nat) {w : List UInt8} (h : two w = false) : joinC k w = w := by
  unfold joinC; rw [h]; rfl
theorem cut_two : ∀ {w : List UInt8}, two w = true → w = cut1 w ++ 32 :: cut2 w ∧ two (cut1 w) = false
  | [], h => by simp [two] at h
  | c :: t, h => by
    unfold cut1 cut2
    by_cases hc : c = 32
    · rw [if_pos hc, if_pos hc, hc]; exact ⟨rfl, rfl⟩
    · rw [if_neg hc, if_neg hc]
      have ht : two t = true := by
        unfold two at *
        rw [List.contains_cons] at h
        simpa [beq_eq_false_iff_ne.2 (Ne.symm hc)] using h
      obtain ⟨h1, h2⟩ := cut_two ht
      refine ⟨by rw [List.cons_append, ← h1], ?_⟩
      unfold two at *
      rw [List.contains_cons, h2, beq_eq_false_iff_ne.2 (Ne.symm hc)]; rfl
theorem cut_none : ∀ {w : List UInt8}, two w = false → cut1 w = w ∧ cut2 w = []
  | [], _ => ⟨rfl, rfl⟩
  | c :: t, h => by
    unfold two at h
    rw [List.contains_cons, Bool.or_eq_false_iff] at h
    have hc : c ≠ 32 := fun e => by simp [e] at h
    obtain ⟨h1, h2⟩ := cut_none (w := t) h.2
    unfold cut1 cut2
    rw [if_neg hc, if_neg hc, h1, h2]
    exact ⟨rfl, rfl⟩
/-- where a text stands for two words -/
theorem joinC_cases (k : Nat) (w : List UInt8) : joinC k w = w ∨ (two w = true ∧ k = 2 ∧ has 11 (cut1 w) = true ∧ has 12 (cut2 w) = true ∧ joinC k w = cut1 w ++ cut2 w) := by
  unfold joinC
  split
  · rename_i h
    simp only [Bool.and_eq_true, beq_iff_eq] at h
    exact .inr ⟨h.1.1, h.1.2, h.2.1, h.2.2, rfl⟩
  · exact .inl rfl
theorem joinC_len (k : Nat) {w : List UInt8} (h : w.length ≠ 7) : joinC k w = w := by
  rcases joinC_cases k w with e | ⟨h1, _, h3, h4, _⟩
  · exact e
  · exfalso
    have := congrArg List.length (cut_two h1).1
    rw [has_pat (by omega) (by omega)] at h3 h4
    have l1 := mat_len _ _ h3
    have l2 := mat_len _ _ h4
    simp [pat] at l1 l2 this
    omega
def codeI (k : Nat) : Nat := if k = 1 then 9 else if k = 2 then 10 else 13
theorem hasC_i {k : Nat} {w : List UInt8} (h : hasC k w = true) : 1 ≤ k ∧ k ≤ 3 ∧ has (codeI k) w = true := by
  unfold hasC at h
  unfold codeI
  split at h
  · rename_i e; subst e; exact ⟨by omega, by omega, h⟩
  · split at h
    · rename_i e; subst e; exact ⟨by omega, by omega, h⟩
    · split at h
      · rename_i e; subst e; exact ⟨by omega, by omega, h⟩
      · simp at h
theorem hasC_of {k : Nat} {w : List UInt8} (h1 : 1 ≤ k) (h2 : k ≤ 3) : hasC k w = has (codeI k) w := by
  rcases (show k = 1 ∨ k = 2 ∨ k = 3 by omega) with rfl | rfl | rfl <;> rfl
theorem codeI_le (k : Nat) : 8 ≤ codeI k ∧ codeI k ≤ 13 := by
  unfold codeI; repeat' split
  all_goals omega
/-- a code is its own one -/
theorem code_again {k : Nat} {w : List UInt8} (h : isCode k w = true) : isCode k (joinC k w) = true ∧ joinC k (joinC k w) = joinC k w := by
  unfold isCode at *
  obtain ⟨_, _, h3⟩ := hasC_i h
  have := joinC_self k (has_blank (codeI_le k).1 (codeI_le k).2 h3)
  rw [this]
  exact ⟨h, rfl⟩
theorem code_one {k j : Nat} {w : List UInt8} (hk : isCode k w = true) (hj : isCode j w = true) : k = j := by
  unfold isCode at *
  obtain ⟨k1, k2, k3⟩ := hasC_i hk
  obtain ⟨j1, j2, j3⟩ := hasC_i hj
  have H : two w = false → k = j := by
    intro h
    rw [joinC_self _ h] at k3 j3
    have := codes_excl (codeI_le k).1 (codeI_le k).2 (codeI_le j).1 (codeI_le j).2 k3 j3
    unfold codeI at this
    repeat' split at this
    all_goals omega
  rcases joinC_cases k w with e | ⟨_, ek, _⟩
  · exact H (by rw [e] at k3; exact has_blank (codeI_le k).1 (codeI_le k).2 k3)
  · rcases joinC_cases j w with e | ⟨_, ej, _⟩
    · exact H (by rw [e] at j3; exact has_blank (codeI_le j).1 (codeI_le j).2 j3)
    · omega
theorem mat_set : ∀ (p : List Bool) (w : List UInt8) (i : Nat) (c : UInt8), mat p w = true → i < w.length → mat p (w.set i c) = (if p.getD i false then isL c else isD c)
  | [], [], i, c, _, h => by simp at h
  | [], _ :: _, _, _, h, _ => by simp [mat] at h
  | _ :: _, [], _, _, h, _ => by simp [mat] at h
  | b :: p, x :: w, 0, c, h, _ => by
    simp only [mat, Bool.and_eq_true] at h
    simp [mat, h.2]
  | b :: p, x :: w, i + 1, c, h, hi => by
    simp only [mat, Bool.and_eq_true] at h
    have := mat_set p w i c h.2 (by simpa using hi)
    simp only [List.set_cons_succ, mat, this, h.1, Bool.true_and]
    simp
theorem mat_get : ∀ (p : List Bool) (w : List UInt8) (i : Nat), mat p w = true → i < w.length → (if p.getD i false then isL (w.getD i 0) else isD (w.getD i 0)) = true
  | [], [], i, _, h => by simp at h
  | [], _ :: _, _, h, _ => by simp [mat] at h
  | _ :: _, [], _, h, _ => by simp [mat] at h
  | b :: p, x :: w, 0, h, _ => by
    simp only [mat, Bool.and_eq_true] at h
    simpa using h.1
  | b :: p, x :: w, i + 1, h, hi => by
    simp only [mat, Bool.and_eq_true] at h
    have := mat_get p w i h.2 (by simpa using hi)
    simpa using this
theorem code_len {k : Nat} {w : List UInt8} (h : isCode k w = true) : 4 ≤ (joinC k w).length ∧ (joinC k w).length ≤ 6 ∧ (joinC k w).all isLD = true := by
  unfold isCode at h
  obtain ⟨h1, h2, h3⟩ := hasC_i h
  rw [has_pat (codeI_le k).1 (codeI_le k).2] at h3
  have hl := mat_len _ _ h3
  refine ⟨?_, ?_, mat_LD _ _ h3⟩ <;> rcases (show k = 1 ∨ k = 2 ∨ k = 3 by omega) with rfl | rfl | rfl <;> simp [codeI, pat] at hl <;> omega
/-- a byte of a code changed -/
theorem code_set {k : Nat} {w : List UInt8} (h : isCode k w = true) (i : Nat) (hi : i < (joinC k w).length) (c : UInt8) :
    isCode k ((joinC k w).set i c) = (if isD ((joinC k w).getD i 0) then isD c else isL c) := by
  have hlen := code_len h
  obtain ⟨h1, h2, h3⟩ := hasC_i h
  rw [has_pat (codeI_le k).1 (codeI_le k).2] at h3
  unfold isCode
  rw [joinC_len k (by rw [List.length_set]; omega), hasC_of h1 h2, has_pat (codeI_le k).1 (codeI_le k).2, mat_set _ _ i c h3 hi]
  have hg := mat_get _ _ i h3 hi
  cases hp : (pat (codeI k)).getD i false with
  | true =>
    rw [hp] at hg
    rw [if_pos rfl] at hg ⊢
    rw [if_neg (nt (LD_not hg))]
  | false =>
    rw [hp] at hg
    rw [if_neg (by simp)] at hg ⊢
    rw [if_pos hg]
theorem code_longer {k : Nat} {w : List UInt8} (h : isCode k w = true) (c : UInt8) (hc : c ∈ joinC k w) : isCode k (joinC k w ++ [c]) = false := by
  have hl := code_len h
  obtain ⟨h1, h2, h3⟩ := hasC_i h
  have hb : two (joinC k w ++ [c]) = false := LD_blank (by
    rw [List.all_append, hl.2.2]
    simp
    exact List.all_eq_true.1 hl.2.2 c hc)
  cases hx : isCode k (joinC k w ++ [c]) with
  | false => rfl
  | true =>
    exfalso
    unfold isCode at hx
    rw [joinC_self k hb] at hx
    obtain ⟨_, _, h4⟩ := hasC_i hx
    rw [has_pat (codeI_le k).1 (codeI_le k).2] at h3 h4
    have l1 := mat_len _ _ h3
    have l2 := mat_len _ _ h4
    simp at l2
    omega
theorem filter_noblank : ∀ {w : List UInt8}, two w = false → w.filter (fun c => c != 32) = w := by
  intro w h
  rw [List.filter_eq_self]
  intro x hx
  rw [bne_iff_ne]
  rintro rfl
  unfold two at h
  rw [List.contains_iff_mem.2 hx] at h
  simp at h
theorem code_filter {k : Nat} {w : List UInt8} (h : isCode k w = true) : joinC k w = w.filter fun c => c != 32 := by
  rcases joinC_cases k w with e | ⟨h1, _, h3, h4, e⟩
  · have hb := LD_blank (code_len h).2.2
    rw [e] at hb ⊢
    exact (filter_noblank hb).symm
  · rw [e]
    conv => rhs; rw [(cut_two h1).1]
    rw [List.filter_append, List.filter_cons_of_neg (by simp), filter_noblank (has_blank (by omega) (by omega) h3), filter_noblank (has_blank (by omega) (by omega) h4)]
end Tk
