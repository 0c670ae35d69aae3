/-
  Plain mathematics of the laws of money: shares and splits.
-/
import Derived.Test.YtbbmpjndalkgbaaDoorMonPlain
namespace Go.Proofs.YtbbmpjndalkgbaaDoor.Mo
set_option linter.unusedVariables false

theorem shS_1 (a s : Int) : shS a s 1 = a * s / 10000 := by simp [shS, addB]
theorem shS_2 (a s : Int) : shS a s 2 = a * s / 10000 + if 0 < a * s % 10000 then 1 else 0 := by simp [shS, addB]
theorem shS_3 (a s : Int) : shS a s 3 = a * s / 10000 + if 5000 < a * s % 10000 ∨ a * s % 10000 = 5000 ∧ 0 ≤ a * s / 10000 then 1 else 0 := by simp [shS, addB]
theorem shS_4 (a s : Int) : shS a s 4 = a * s / 10000 + if 5000 < a * s % 10000 ∨ a * s % 10000 = 5000 ∧ a * s / 10000 % 2 ≠ 0 then 1 else 0 := by simp [shS, addB]
theorem shOk_mk {a s way : Int} (h : rt a = true) (s0 : 0 ≤ s) (s1 : s ≤ 10000) (w0 : 1 ≤ way) (w1 : way ≤ 4) : shOk a s way = true := by
  rw [shOk_iff]; exact ⟨(rt_iff a).1 h, ⟨s0, s1⟩, w0, w1⟩
theorem sh_ok {a s way : Int} (h : shOk a s way = true) : shV a s way = shS a s way ∧ shE a s way = 0 := by
  rw [shV, shE, if_pos h, if_pos h]; exact ⟨rfl, rfl⟩
theorem sh_no {a s way : Int} (h : shOk a s way = false) : shV a s way = 0 ∧ shE a s way = 2 := by
  rw [shV, shE, if_neg (by simp [h]), if_neg (by simp [h])]; exact ⟨rfl, rfl⟩
theorem shS_bd (a s way : Int) (h : rt a = true) (s0 : 0 ≤ s) (s1 : s ≤ 10000) : -1000000000000000 ≤ shS a s way ∧ shS a s way ≤ 1000000000000001 := by
  have h := (rt_iff a).1 h
  have := part_bd a s 10000 (by omega) s0 s1 h.1 h.2
  unfold shS; split <;> omega

theorem rounds (a s : Int) (h : rt a = true) (s0 : 0 ≤ s) (s1 : s ≤ 10000) :
    shS a s 1 ≤ shS a s 2 ∧ shS a s 2 ≤ shS a s 1 + 1 ∧ (shS a s 3 = shS a s 1 ∨ shS a s 3 = shS a s 2) ∧ (shS a s 4 = shS a s 1 ∨ shS a s 4 = shS a s 2) ∧ shS a s 1 + shS a (10000 - s) 2 = a := by
  rw [shS_1, shS_2, shS_3, shS_4, shS_2]
  have e : a * (10000 - s) = 10000 * a - a * s := by rw [Int.mul_sub]; omega
  rw [e]
  generalize a * s = X at *
  refine ⟨?_, ?_, ?_, ?_, ?_⟩ <;> (repeat' split) <;> omega
theorem rounds_even (a s : Int) (s0 : 0 ≤ s) (hne : shS a s 3 ≠ shS a s 4) : shS a s 4 % 2 = 0 ∧ shS a s 3 ≠ 0 ∧ (shS a s 4 < shS a s 3 ↔ 0 < a) := by
  have hp : 0 < a → 0 ≤ a * s := fun h => Int.mul_nonneg (by omega) s0
  have hn : a ≤ 0 → a * s ≤ 0 := fun h => by have := Int.mul_nonneg (show 0 ≤ -a by omega) s0; rw [Int.neg_mul] at this; omega
  rw [shS_3, shS_4] at *
  generalize a * s = X at *
  obtain ⟨u, hu⟩ : ∃ u, u = (if 5000 < X % 10000 ∨ X % 10000 = 5000 ∧ 0 ≤ X / 10000 then (1 : Int) else 0) := ⟨_, rfl⟩
  obtain ⟨v, hv⟩ : ∃ v, v = (if 5000 < X % 10000 ∨ X % 10000 = 5000 ∧ X / 10000 % 2 ≠ 0 then (1 : Int) else 0) := ⟨_, rfl⟩
  rw [← hu, ← hv] at hne ⊢
  have hu' : (5000 < X % 10000 ∨ X % 10000 = 5000 ∧ 0 ≤ X / 10000) ∧ u = 1 ∨ ¬ (5000 < X % 10000 ∨ X % 10000 = 5000 ∧ 0 ≤ X / 10000) ∧ u = 0 := by
    by_cases c : 5000 < X % 10000 ∨ X % 10000 = 5000 ∧ 0 ≤ X / 10000
    · exact .inl ⟨c, by rw [hu, if_pos c]⟩
    · exact .inr ⟨c, by rw [hu, if_neg c]⟩
  have hv' : (5000 < X % 10000 ∨ X % 10000 = 5000 ∧ X / 10000 % 2 ≠ 0) ∧ v = 1 ∨ ¬ (5000 < X % 10000 ∨ X % 10000 = 5000 ∧ X / 10000 % 2 ≠ 0) ∧ v = 0 := by
    by_cases c : 5000 < X % 10000 ∨ X % 10000 = 5000 ∧ X / 10000 % 2 ≠ 0
    · exact .inl ⟨c, by rw [hv, if_pos c]⟩
    · exact .inr ⟨c, by rw [hv, if_neg c]⟩
  clear hu hv
  refine ⟨by omega, by omega, fun h => ?_, fun h => ?_⟩
  · rcases Int.lt_or_le 0 a with c | c
    · exact c
    · have := hn c; omega
  · have := hp h; omega
theorem whole_none (a way : Int) (w0 : 1 ≤ way) (w1 : way ≤ 4) : shS a 10000 way = a ∧ shS a 0 way = 0 := by
  unfold shS addB
  rw [Int.mul_zero]
  have h : way = 1 ∨ way = 2 ∨ way = 3 ∨ way = 4 := by omega
  rcases h with rfl | rfl | rfl | rfl <;> simp
theorem turns (a s : Int) : shS a s 1 = -shS (-a) s 2 ∧ shS a s 2 = -shS (-a) s 1 ∧ shS a s 3 = -shS (-a) s 3 ∧ shS a s 4 = -shS (-a) s 4 := by
  rw [shS_1, shS_2, shS_3, shS_4, shS_1, shS_2, shS_3, shS_4, Int.neg_mul]
  generalize a * s = X
  refine ⟨?_, ?_, ?_, ?_⟩ <;> (repeat' split) <;> omega

/-! ### splits -/
theorem bs_scale (c T k : Int) (h : 0 < k) (ws : List Int) : bs c (k * T) (ws.map (k * ·)) = bs c T ws := by
  unfold bs
  rw [List.map_map]
  refine List.map_congr_left fun w _ => ?_
  show c * (k * w) / (k * T) = c * w / T
  rw [show c * (k * w) = k * (c * w) by rw [← Int.mul_assoc, Int.mul_comm c k, Int.mul_assoc]]
  exact Int.mul_ediv_mul_of_pos _ _ h
theorem spl_scale (c T k l : Int) (h : 0 < k) (ws : List Int) : spl c (k * T) l (ws.map (k * ·)) = spl c T l ws := by
  induction ws generalizing l with
  | nil => rfl
  | cons w t ih =>
    have e : c * (k * w) / (k * T) = c * w / T := by
      rw [show c * (k * w) = k * (c * w) by rw [← Int.mul_assoc, Int.mul_comm c k, Int.mul_assoc]]
      exact Int.mul_ediv_mul_of_pos _ _ h
    have hp : (0 < k * w) ↔ 0 < w := by
      constructor
      · intro x
        rcases Int.lt_or_le 0 w with y | y
        · exact y
        · have := Int.mul_le_mul_of_nonneg_left y (show 0 ≤ k by omega)
          rw [Int.mul_zero] at this; omega
      · exact fun x => Int.mul_pos h x
    simp only [List.map_cons, spl, e, hp, ih]
theorem sumZ_scale (k : Int) (ws : List Int) : sumZ (ws.map (k * ·)) = k * sumZ ws := by
  induction ws with
  | nil => simp [sumZ]
  | cons w t ih => simp only [List.map_cons, sumZ, ih, Int.mul_add]
/-- multiplied weights split alike -/
theorem split_scale (c k : Int) (h : 0 < k) (ws : List Int) : spl c (sumZ (ws.map (k * ·))) (lft c (sumZ (ws.map (k * ·))) (ws.map (k * ·))) (ws.map (k * ·)) = spl c (sumZ ws) (lft c (sumZ ws) ws) ws := by
  rw [sumZ_scale]
  unfold lft
  rw [bs_scale _ _ _ h, spl_scale _ _ _ _ h]

/-! ### what each weight gets -/
theorem spl_at (c T l : Int) (ws : List Int) (i : Nat) (h : i < ws.length) : (spl c T l ws).getD i 0 = c * ws.getD i 0 / T + if 0 < lf l (ws.take i) ∧ 0 < ws.getD i 0 then 1 else 0 := by
  induction ws generalizing l i with
  | nil => simp at h
  | cons w t ih =>
    cases i with
    | zero => simp only [spl, List.take_zero, lf, List.getD_cons_zero]; split <;> simp
    | succ i =>
      simp only [List.length_cons] at h
      simp only [spl, List.take_succ_cons, lf, List.getD_cons_succ]
      split
      · rw [List.getD_cons_succ]; exact ih _ i (by omega)
      · rw [List.getD_cons_succ]; exact ih _ i (by omega)
theorem lf_mono (l : Int) (ws : List Int) : lf l ws ≤ l := by
  induction ws generalizing l with
  | nil => simp [lf]
  | cons w t ih => simp only [lf]; split
                   · have := ih (l - 1); omega
                   · exact ih l
theorem lf_step (l : Int) (ws : List Int) (i : Nat) (h : i < ws.length) : lf l (ws.take (i + 1)) = if 0 < lf l (ws.take i) ∧ 0 < ws.getD i 0 then lf l (ws.take i) - 1 else lf l (ws.take i) := by
  rw [take_snoc ws i h, lf_append]; simp [lf]
/-- against its exact part, times the whole -/
theorem part_diff (c T w : Int) (hT : 0 < T) (b : Bool) : -T < (c * w / T + if b = true then 1 else 0) * T - c * w ∧ (c * w / T + if b = true then 1 else 0) * T - c * w ≤ T ∧ (0 < (c * w / T + if b = true then 1 else 0) * T - c * w ↔ b = true) := by
  have e := Int.mul_ediv_add_emod (c * w) T
  have m0 := Int.emod_nonneg (c * w) (show T ≠ 0 by omega)
  have m1 := Int.emod_lt_of_pos (c * w) hT
  rw [Int.add_mul, Int.mul_comm (c * w / T) T]
  cases b <;> simp <;> omega

theorem sumZ_reverse (zs : List Int) : sumZ zs.reverse = sumZ zs := by
  induction zs with
  | nil => rfl
  | cons a t ih => rw [List.reverse_cons, sumZ_append, ih]; simp [sumZ]; omega

end Go.Proofs.YtbbmpjndalkgbaaDoor.Mo
