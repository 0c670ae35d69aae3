/-
  Classes together, numbers, codes: plain arithmetic. No program here.
-/
import Derived.Test.YtcponhdeffnndaaGreatDoorTokPlain
namespace Tk
set_option linter.unusedVariables false
set_option linter.unusedSimpArgs false

theorem nt {b : Bool} (h : b = false) : ¬ b = true := by rw [h]; decide
theorem LD_not {c : UInt8} (h : isL c = true) : isD c = false := by
  simp [isL, isD] at *; omega
theorem DL_not {c : UInt8} (h : isD c = true) : isL c = false := by
  simp [isL, isD] at *; omega
theorem L_kept {c : UInt8} (h : isL c = true) : Fo.kept c.toNat = true := by simp [isL, Fo.kept] at *; omega
theorem D_kept {c : UInt8} (h : isD c = true) : Fo.kept c.toNat = true := by simp [isD, Fo.kept] at *; omega
theorem LD_kept {c : UInt8} (h : isLD c = true) : Fo.kept c.toNat = true := by
  simp [isLD] at h; rcases h with h | h
  · exact L_kept h
  · exact D_kept h
theorem S_kept {c : UInt8} (h : isS c = true) : Fo.kept c.toNat = true := by
  simp [isS] at h; rcases h with h | h
  · exact LD_kept (by simpa using h)
  · simp [Fo.kept]; omega
theorem mat_len : ∀ (p : List Bool) (w : List UInt8), mat p w = true → w.length = p.length
  | [], [], _ => rfl
  | [], _ :: _, h => by simp [mat] at h
  | _ :: _, [], h => by simp [mat] at h
  | b :: p, c :: w, h => by
    simp only [mat, Bool.and_eq_true] at h
    simp [mat_len p w h.2]
theorem mat_LD : ∀ (p : List Bool) (w : List UInt8), mat p w = true → w.all isLD = true
  | [], [], _ => rfl
  | [], _ :: _, h => by simp [mat] at h
  | _ :: _, [], h => by simp [mat] at h
  | b :: p, c :: w, h => by
    simp only [mat, Bool.and_eq_true] at h
    rw [List.all_cons, mat_LD p w h.2, Bool.and_true]
    unfold isLD
    cases b <;> simp_all
theorem mat_excl : ∀ (p q : List Bool) (w : List UInt8), mat p w = true → mat q w = true → p = q
  | [], [], _, _, _ => rfl
  | [], _ :: _, [], _, h => by simp [mat] at h
  | [], _ :: _, _ :: _, h, _ => by simp [mat] at h
  | _ :: _, [], [], h, _ => by simp [mat] at h
  | _ :: _, [], _ :: _, _, h => by simp [mat] at h
  | _ :: _, _ :: _, [], h, _ => by simp [mat] at h
  | b :: p, d :: q, c :: w, h1, h2 => by
    simp only [mat, Bool.and_eq_true] at h1 h2
    rw [mat_excl p q w h1.2 h2.2]
    have : b = d := by
      cases b <;> cases d <;> simp_all
      · exact absurd (LD_not h2.1) (by simp [h1.1])
      · exact absurd (LD_not h1.1) (by simp [h2.1])
    rw [this]
def pat : Nat → List Bool
  | 8 => [true, true]
  | 9 => [false, false, false, false, false]
  | 10 => [true, false, true, false, true, false]
  | 11 => [true, false, true]
  | 12 => [false, true, false]
  | 13 => [false, false, false, false]
  | _ => []
theorem has_pat {i : Nat} (h0 : 8 ≤ i) (h1 : i ≤ 13) (w : List UInt8) : has i w = mat (pat i) w := by
  rcases (show i = 8 ∨ i = 9 ∨ i = 10 ∨ i = 11 ∨ i = 12 ∨ i = 13 by omega) with rfl | rfl | rfl | rfl | rfl | rfl <;> rfl
theorem codes_excl {i j : Nat} (h0 : 8 ≤ i) (h1 : i ≤ 13) (h2 : 8 ≤ j) (h3 : j ≤ 13) {w : List UInt8} (hi : has i w = true) (hj : has j w = true) : i = j := by
  rw [has_pat h0 h1] at hi; rw [has_pat h2 h3] at hj
  have e := mat_excl _ _ w hi hj
  rcases (show i = 8 ∨ i = 9 ∨ i = 10 ∨ i = 11 ∨ i = 12 ∨ i = 13 by omega) with rfl | rfl | rfl | rfl | rfl | rfl <;>
  rcases (show j = 8 ∨ j = 9 ∨ j = 10 ∨ j = 11 ∨ j = 12 ∨ j = 13 by omega) with rfl | rfl | rfl | rfl | rfl | rfl <;>
  first | rfl | (exact absurd e (by decide))
theorem code_flat {i : Nat} (h0 : 8 ≤ i) (h1 : i ≤ 13) {w : List UInt8} (h : has i w = true) : has 7 w = true := by
  rw [has_pat h0 h1] at h
  show (shortW w && w.all isLD) = true
  rw [mat_LD _ w h, Bool.and_true]
  have := mat_len _ w h
  unfold shortW
  apply decide_eq_true
  rcases (show i = 8 ∨ i = 9 ∨ i = 10 ∨ i = 11 ∨ i = 12 ∨ i = 13 by omega) with rfl | rfl | rfl | rfl | rfl | rfl <;> simp [pat] at this <;> omega
/-! numbers -/
theorem num_parts {w : List UInt8} (h : num w = true) : 1 ≤ w.length ∧ w.length ≤ 6 ∧ (w.getD 0 0).toNat ≠ 48 ∧ w.all isD = true := by
  unfold num shortW at h
  simp only [Bool.and_eq_true, decide_eq_true_eq, bne_iff_ne, ne_eq] at h
  exact ⟨h.1.1.1, h.1.1.2, h.1.2, h.2⟩
theorem all_get {p : UInt8 → Bool} {w : List UInt8} (h : w.all p = true) {i : Nat} (hi : i < w.length) : p (w.getD i 0) = true := by
  rw [List.getD_eq_getElem?_getD, List.getElem?_eq_getElem hi]
  exact List.all_eq_true.1 h _ (List.getElem_mem hi)
theorem last_len {w : List UInt8} (h : isL (w.getD (w.length - 1) 0) = true) : 0 < w.length := by
  rcases Nat.eq_zero_or_pos w.length with h0 | h0
  · obtain rfl := List.eq_nil_of_length_eq_zero h0
    exact absurd h (by decide)
  · exact h0
theorem cut_app (w : List UInt8) : cutD w ++ cutL w = w := by
  unfold cutD cutL
  split
  · exact List.take_append_drop _ _
  · simp
theorem num_last {w : List UInt8} (h : num w = true) : isL (w.getD (w.length - 1) 0) = false := by
  obtain ⟨h1, _, _, h4⟩ := num_parts h
  exact DL_not (all_get h4 (by omega))
theorem num_cut {w : List UInt8} (h : num w = true) : cutD w = w ∧ cutL w = [] := by
  have := num_last h
  unfold cutD cutL
  rw [if_neg (nt this), if_neg (nt this)]
  exact ⟨rfl, rfl⟩
theorem lettered_parts {w : List UInt8} (h : lettered w = true) : isL (w.getD (w.length - 1) 0) = true ∧ num (cutD w) = true := by
  unfold lettered at h
  simp only [Bool.and_eq_true] at h
  refine ⟨?_, h.2⟩
  cases hl : isL (w.getD (w.length - 1) 0) with
  | true => rfl
  | false =>
    have := h.1
    unfold cutL at this
    rw [if_neg (nt hl)] at this
    simp at this
theorem num_lettered {w : List UInt8} (h : num w = true) : lettered w = false := by
  cases hl : lettered w with
  | false => rfl
  | true => exact absurd (lettered_parts hl).1 (nt (num_last h))
theorem num_name {w : List UInt8} (h : num w = true) : name w = false := by
  obtain ⟨_, _, _, h4⟩ := num_parts h
  unfold name
  have : w.all isN = true := by
    rw [List.all_eq_true] at h4 ⊢
    intro x hx
    unfold isN
    rw [DL_not (h4 x hx)]; rfl
  rw [this]; simp
theorem cutL_one {w : List UInt8} (h : isL (w.getD (w.length - 1) 0) = true) : cutL w = [w.getD (w.length - 1) 0] ∧ cutD w = w.take (w.length - 1) := by
  have h0 := last_len h
  unfold cutD cutL
  rw [if_pos h, if_pos h]
  refine ⟨?_, rfl⟩
  rw [List.drop_eq_getElem_cons (by omega), List.drop_of_length_le (by omega), List.getD_eq_getElem?_getD, List.getElem?_eq_getElem (by omega)]
  rfl
theorem lettered_name {w : List UInt8} (h : lettered w = true) : name w = true := by
  obtain ⟨h1, h2⟩ := lettered_parts h
  obtain ⟨_, _, _, h4⟩ := num_parts h2
  have hc := cut_app w
  obtain ⟨e1, _⟩ := cutL_one h1
  unfold name
  rw [Bool.and_eq_true]
  constructor
  · rw [← hc, List.all_append, e1]
    simp only [List.all_cons, List.all_nil, Bool.and_true, Bool.and_eq_true]
    refine ⟨?_, by unfold isS isLD; rw [h1]; rfl⟩
    rw [List.all_eq_true] at h4 ⊢
    intro x hx
    simp [isS, isLD, h4 x hx]
  · rw [← hc, List.all_append, e1]
    have hx : isN (w.getD (w.length - 1) 0) = false := by unfold isN; rw [h1]; rfl
    rw [List.all_cons, hx, Bool.false_and, Bool.and_false]; rfl
theorem isNum_iff (w : List UInt8) : isNum w = (num w || lettered w) := by
  unfold isNum
  cases hl : isL (w.getD (w.length - 1) 0) with
  | true =>
    have h0 : num w = false := by
      cases h : num w with
      | false => rfl
      | true => exact absurd hl (nt (num_last h))
    rw [h0, Bool.false_or]
    unfold lettered
    rw [(cutL_one hl).1]; rfl
  | false =>
    have e : cutD w = w := by unfold cutD; rw [if_neg (nt hl)]
    have e2 : lettered w = false := by
      cases h : lettered w with
      | false => rfl
      | true => exact absurd (lettered_parts h).1 (nt hl)
    rw [e, e2, Bool.or_false]
theorem numT_lettered (w : List UInt8) : (!(numT w).isEmpty) = lettered w := by
  unfold numT
  rw [isNum_iff]
  cases h1 : num w with
  | true => rw [num_lettered h1]; simp [(num_cut h1).2]
  | false =>
    cases h2 : lettered w with
    | true =>
      rw [Bool.false_or, if_pos rfl, (cutL_one (lettered_parts h2).1).1]; rfl
    | false => simp
theorem val_aux : ∀ (w : List UInt8) (a : Nat), w.all isD = true → w.foldl (fun a c => 10 * a + (c.toNat - 48)) a ≤ a * 10 ^ w.length + (10 ^ w.length - 1) ∧ a ≤ w.foldl (fun a c => 10 * a + (c.toNat - 48)) a
  | [], a, _ => by simp
  | c :: w, a, h => by
    rw [List.all_cons, Bool.and_eq_true] at h
    obtain ⟨h1, h2⟩ := val_aux w (10 * a + (c.toNat - 48)) h.2
    have hc : c.toNat - 48 ≤ 9 := by have := h.1; simp [isD] at this; omega
    rw [List.foldl_cons, List.length_cons, Nat.pow_succ]
    have hp : 0 < 10 ^ w.length := Nat.pow_pos (by omega)
    generalize List.foldl (fun a c => 10 * a + (c.toNat - 48)) (10 * a + (c.toNat - 48)) w = Z at *
    generalize 10 ^ w.length = P at *
    have e1 : (c.toNat - 48) * P ≤ 9 * P := Nat.mul_le_mul_right _ hc
    rw [Nat.add_mul] at h1
    rw [show a * (P * 10) = 10 * a * P by rw [Nat.mul_comm P 10, ← Nat.mul_assoc, Nat.mul_comm a 10]]
    omega
theorem val_bound {w : List UInt8} (h : num w = true) : 1 ≤ val w ∧ val w ≤ 999999 := by
  obtain ⟨h1, h2, h3, h4⟩ := num_parts h
  cases w with
  | nil => simp at h1
  | cons c w =>
    have hc : isD c = true := by rw [List.all_cons, Bool.and_eq_true] at h4; exact h4.1
    have hw : w.all isD = true := by rw [List.all_cons, Bool.and_eq_true] at h4; exact h4.2
    have h3' : c.toNat ≠ 48 := by simpa using h3
    obtain ⟨b1, b2⟩ := val_aux (c :: w) 0 h4
    obtain ⟨b3, b4⟩ := val_aux w (10 * 0 + (c.toNat - 48)) hw
    unfold val
    refine ⟨?_, ?_⟩
    · rw [List.foldl_cons]
      have : 49 ≤ c.toNat := by simp [isD] at hc; omega
      omega
    · have hp : 10 ^ (c :: w).length ≤ 10 ^ 6 := Nat.pow_le_pow_right (by omega) h2
      omega
theorem numV_pos (w : List UInt8) : (decide (0 < numV w)) = isNum w := by
  unfold numV
  cases h : isNum w with
  | true =>
    have := val_bound (w := cutD w) h
    simp; omega
  | false => simp
theorem numV_le (w : List UInt8) : numV w ≤ 999999 := by
  unfold numV
  split
  · rename_i h
    exact (val_bound h).2
  · omega
/-! no class for a text that is not folded -/
theorem T_kept : ∀ r ∈ Fo.T, (r.2.1.all fun c => Fo.kept c.toNat) = true ∧ (r.2.2.all fun c => Fo.kept c.toNat) = true := by decide
theorem kind_bit (w : List UInt8) (k : Nat) (h1 : 1 ≤ k) (h2 : k ≤ 4) : hasK k w = Fo.hasK w k := by
  unfold hasK
  rw [Fo.kinds_upTo]
  simp only [Fo.upTo]
  rcases (show k = 1 ∨ k = 2 ∨ k = 3 ∨ k = 4 by omega) with rfl | rfl | rfl | rfl
  all_goals
    cases Fo.hasK w 1 <;> cases Fo.hasK w 2 <;> cases Fo.hasK w 3 <;> cases Fo.hasK w 4 <;> cases Fo.hasK w 5 <;> decide
theorem all_right {w : List UInt8} (h : (w.all fun c => Fo.kept c.toNat) = true) : Fo.fold w = w :=
  Fo.fold_self (Fo.Pl_kept fun x hx => List.all_eq_true.1 h x hx)
theorem all_imp {p : UInt8 → Bool} {w : List UInt8} (hp : ∀ c, p c = true → Fo.kept c.toNat = true) (h : w.all p = true) : Fo.fold w = w :=
  all_right (List.all_eq_true.2 fun x hx => hp x (List.all_eq_true.1 h x hx))
theorem has_right {w : List UInt8} {i : Nat} (hi : i < 14) (h : has i w = true) : Fo.fold w = w := by
  by_cases h8 : 8 ≤ i
  · rw [has_pat h8 (by omega)] at h
    exact all_imp (fun _ => LD_kept) (mat_LD _ _ h)
  rcases (show i = 0 ∨ i = 1 ∨ i = 2 ∨ i = 3 ∨ i = 4 ∨ i = 5 ∨ i = 6 ∨ i = 7 by omega) with rfl | rfl | rfl | rfl | rfl | rfl | rfl | rfl
  · exact all_imp (fun _ => D_kept) (num_parts h).2.2.2
  · have := lettered_name (w := w) h
    unfold name at this
    rw [Bool.and_eq_true] at this
    exact all_imp (fun _ => S_kept) this.1
  · have : name w = true := h
    unfold name at this
    rw [Bool.and_eq_true] at this
    exact all_imp (fun _ => S_kept) this.1
  iterate 4
    · have h' := h
      simp only [has] at h'
      rw [kind_bit w _ (by omega) (by omega)] at h'
      obtain ⟨r, hr, hx⟩ := List.any_eq_true.1 h'
      rw [Bool.and_eq_true] at hx
      obtain ⟨t1, t2⟩ := T_kept r hr
      have h3 := hx.2
      unfold Fo.ofWord at h3
      rw [Bool.or_eq_true, beq_iff_eq, beq_iff_eq] at h3
      rcases h3 with rfl | rfl
      · exact all_right t1
      · exact all_right t2
  · have : flat w = true := h
    unfold flat at this
    rw [Bool.and_eq_true] at this
    exact all_imp (fun _ => LD_kept) this.2
theorem upTo_zero {w : List UInt8} (h : ∀ i, i < 14 → has i w = false) : ∀ n, n ≤ 14 → upTo w n = 0
  | 0, _ => rfl
  | n + 1, hn => by
    simp only [upTo]
    rw [upTo_zero h n (by omega), h n (by omega)]
    rfl
theorem cls_wrong {w : List UInt8} (h : Fo.fold w ≠ w) : cls w = 0 :=
  upTo_zero (fun i hi => by
    cases hx : has i w with
    | false => rfl
    | true => exact absurd (has_right hi hx) h) 14 (by omega)
end Tk
