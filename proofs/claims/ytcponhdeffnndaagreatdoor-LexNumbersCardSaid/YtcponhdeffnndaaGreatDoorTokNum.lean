/-
  Digits of numbers in plain arithmetic. No program here.
-/
import Derived.Test.YtcponhdeffnndaaGreatDoorTokPlain2
namespace Tk
set_option linter.unusedVariables false
set_option linter.unusedSimpArgs false

def dgF : Nat → Nat → List UInt8
  | 0, _ => []
  | f + 1, n => if n < 10 then [UInt8.ofNat (48 + n)] else dgF f (n / 10) ++ [UInt8.ofNat (48 + n % 10)]
theorem val_snoc (a : List UInt8) (c : UInt8) : val (a ++ [c]) = 10 * val a + (c.toNat - 48) := by
  unfold val; rw [List.foldl_append]; rfl
theorem dig_nat (m : Nat) (h : m < 10) : (UInt8.ofNat (48 + m)).toNat = 48 + m := by
  rw [UInt8.toNat_ofNat']; omega
theorem dig_isD (m : Nat) (h : m < 10) : isD (UInt8.ofNat (48 + m)) = true := by
  unfold isD; rw [dig_nat m h]; simp; omega
structure Dg (w : List UInt8) (n : Nat) : Prop where
  all : w.all isD = true
  val : val w = n
  pos : 1 ≤ w.length
  hd : 1 ≤ n → (w.getD 0 0).toNat ≠ 48
  up : n < 10 ^ w.length
  low : 1 ≤ n → 10 ^ (w.length - 1) ≤ n
theorem dg_facts : ∀ (f n : Nat), n < 10 ^ (f + 1) → Dg (dgF (f + 1) n) n
  | 0, n, h => by
    have h10 : n < 10 := by simpa using h
    unfold dgF
    rw [if_pos h10]
    refine ⟨by rw [List.all_cons, dig_isD n h10]; rfl, ?_, by simp, fun h1 => ?_, by simpa using h10, fun h1 => by simpa using h1⟩
    · show 10 * 0 + ((UInt8.ofNat (48 + n)).toNat - 48) = n
      rw [dig_nat n h10]; omega
    · show (UInt8.ofNat (48 + n)).toNat ≠ 48
      rw [dig_nat n h10]; omega
  | f + 1, n, h => by
    unfold dgF
    by_cases h10 : n < 10
    · rw [if_pos h10]
      refine ⟨by rw [List.all_cons, dig_isD n h10]; rfl, ?_, by simp, fun h1 => ?_, by simpa using h10, fun h1 => by simpa using h1⟩
      · show 10 * 0 + ((UInt8.ofNat (48 + n)).toNat - 48) = n
        rw [dig_nat n h10]; omega
      · show (UInt8.ofNat (48 + n)).toNat ≠ 48
        rw [dig_nat n h10]; omega
    · rw [if_neg h10]
      have hd : n / 10 < 10 ^ (f + 1) := by
        rw [Nat.pow_succ] at h
        exact Nat.div_lt_of_lt_mul (by rw [Nat.mul_comm]; exact h)
      obtain ⟨a1, a2, a3, a4, a5, a6⟩ := dg_facts f (n / 10) hd
      have hm : n % 10 < 10 := Nat.mod_lt _ (by omega)
      generalize dgF (f + 1) (n / 10) = w at *
      refine ⟨by rw [List.all_append, a1, List.all_cons, dig_isD _ hm]; rfl, ?_, by simp, fun _ => ?_, ?_, fun _ => ?_⟩
      · rw [val_snoc, a2, dig_nat _ hm]; omega
      · rw [List.getD_eq_getElem?_getD, List.getElem?_append_left (by omega), ← List.getD_eq_getElem?_getD]
        exact a4 (by omega)
      · rw [List.length_append, List.length_singleton, Nat.pow_succ]; omega
      · rw [List.length_append, List.length_singleton, Nat.add_sub_cancel]
        have h6 := a6 (by omega)
        obtain ⟨m, hm⟩ : ∃ m, w.length = m + 1 := ⟨w.length - 1, by omega⟩
        rw [hm] at h6 ⊢
        rw [Nat.add_sub_cancel] at h6
        rw [Nat.pow_succ]; omega
def dg (n : Nat) : List UInt8 := dgF 7 n
theorem dg_small (n : Nat) (h : n < 10) : dg n = [UInt8.ofNat (48 + n)] := if_pos h
theorem dgF_more : ∀ (f n : Nat), n < 10 ^ (f + 1) → dgF (f + 1) n = dgF (f + 2) n
  | 0, n, h => by
    have h10 : n < 10 := by simpa using h
    unfold dgF; rw [if_pos h10, if_pos h10]
  | f + 1, n, h => by
    by_cases h10 : n < 10
    · unfold dgF; rw [if_pos h10, if_pos h10]
    · have hd : n / 10 < 10 ^ (f + 1) := by
        rw [Nat.pow_succ] at h
        exact Nat.div_lt_of_lt_mul (by rw [Nat.mul_comm]; exact h)
      have ih := dgF_more f (n / 10) hd
      show (if n < 10 then [UInt8.ofNat (48 + n)] else dgF (f + 1) (n / 10) ++ [UInt8.ofNat (48 + n % 10)]) = (if n < 10 then [UInt8.ofNat (48 + n)] else dgF (f + 2) (n / 10) ++ [UInt8.ofNat (48 + n % 10)])
      rw [if_neg h10, if_neg h10, ih]
theorem dg_great (n : Nat) (h : ¬ n < 10) (h7 : n < 10000000) : dg n = dg (n / 10) ++ [UInt8.ofNat (48 + n % 10)] := by
  have e : dg (n / 10) = dgF 6 (n / 10) := (dgF_more 5 (n / 10) (by omega)).symm
  rw [e]
  show (if n < 10 then [UInt8.ofNat (48 + n)] else dgF 6 (n / 10) ++ [UInt8.ofNat (48 + n % 10)]) = _
  rw [if_neg h]
theorem dg_len {n : Nat} {w : List UInt8} (h : Dg w n) (h0 : 1 ≤ n) (h1 : n ≤ 999999) : w.length ≤ 6 ∧ (w.length ≤ 5 ↔ n < 100000) := by
  have a := h.up
  have b := h.low h0
  constructor
  · rcases Nat.lt_or_ge 6 w.length with h2 | h2
    · have : 10 ^ 6 ≤ 10 ^ (w.length - 1) := Nat.pow_le_pow_right (by omega) (by omega)
      omega
    · exact h2
  · constructor
    · intro h2
      have : 10 ^ w.length ≤ 10 ^ 5 := Nat.pow_le_pow_right (by omega) h2
      omega
    · intro h2
      rcases Nat.lt_or_ge 5 w.length with h3 | h3
      · have : 10 ^ 5 ≤ 10 ^ (w.length - 1) := Nat.pow_le_pow_right (by omega) (by omega)
        omega
      · exact h3
theorem num_of {w : List UInt8} (h1 : 1 ≤ w.length) (h2 : w.length ≤ 6) (h3 : (w.getD 0 0).toNat ≠ 48) (h4 : w.all isD = true) : num w = true := by
  unfold num shortW
  rw [h4, decide_eq_true ⟨h1, h2⟩]
  simpa using h3
theorem num_long {w : List UInt8} (h : 6 < w.length) : num w = false := by
  cases hx : num w with
  | false => rfl
  | true => have := (num_parts hx).2.1; omega
theorem last_snoc (w : List UInt8) (c : UInt8) : (w ++ [c]).getD ((w ++ [c]).length - 1) 0 = c := by
  rw [List.length_append, List.length_singleton, Nat.add_sub_cancel, List.getD_eq_getElem?_getD, List.getElem?_append_right (Nat.le_refl _)]
  simp
theorem cut_snoc (w : List UInt8) (c : UInt8) : cutD (w ++ [c]) = (if isL c then w else w ++ [c]) ∧ cutL (w ++ [c]) = (if isL c then [c] else []) := by
  unfold cutD cutL
  rw [last_snoc]
  split <;> simp
/-- a number's digits -/
theorem number_self {n : Nat} {w : List UInt8} (h : Dg w n) (h0 : 1 ≤ n) (h1 : n ≤ 999999) : numV w = n ∧ numT w = [] ∧ isNum w = true := by
  have hn := num_of h.pos (dg_len h h0 h1).1 (h.hd h0) h.all
  obtain ⟨e1, e2⟩ := num_cut hn
  have hi : isNum w = true := by unfold isNum; rw [e1]; exact hn
  unfold numV numT
  rw [hi, if_pos rfl, if_pos rfl, e1, e2, h.val]
  exact ⟨rfl, rfl, rfl⟩
theorem number_letter {n : Nat} {w : List UInt8} (h : Dg w n) (h0 : 1 ≤ n) (h1 : n ≤ 999999) {c : UInt8} (hc : isL c = true) : numV (w ++ [c]) = n ∧ numT (w ++ [c]) = [c] ∧ isNum (w ++ [c]) = true := by
  have hn := num_of h.pos (dg_len h h0 h1).1 (h.hd h0) h.all
  obtain ⟨e1, e2⟩ := cut_snoc w c
  rw [if_pos hc] at e1 e2
  have hi : isNum (w ++ [c]) = true := by unfold isNum; rw [e1]; exact hn
  unfold numV numT
  rw [hi, if_pos rfl, if_pos rfl, e1, e2, h.val]
  exact ⟨rfl, rfl, rfl⟩
theorem number_digit {n : Nat} {w : List UInt8} (h : Dg w n) (h0 : 1 ≤ n) (h1 : n ≤ 999999) {c : UInt8} (hc : isD c = true) :
    isNum (w ++ [c]) = decide (n < 100000) ∧ (n < 100000 → numV (w ++ [c]) = 10 * n + (c.toNat - 48)) ∧ numT (w ++ [c]) = [] := by
  obtain ⟨e1, e2⟩ := cut_snoc w c
  rw [if_neg (by simp [DL_not hc])] at e1 e2
  obtain ⟨l1, l2⟩ := dg_len h h0 h1
  have hi : isNum (w ++ [c]) = decide (n < 100000) := by
    unfold isNum; rw [e1]
    by_cases hn : n < 100000
    · rw [decide_eq_true hn]
      refine num_of (by simp) (by have := l2.2 hn; simp; omega) ?_ (by rw [List.all_append, h.all]; simp [hc])
      rw [List.getD_eq_getElem?_getD, List.getElem?_append_left (by have := h.pos; omega), ← List.getD_eq_getElem?_getD]
      exact h.hd h0
    · rw [decide_eq_false hn]
      refine num_long ?_
      have : ¬ w.length ≤ 5 := fun x => hn (l2.1 x)
      simp; omega
  refine ⟨hi, fun hn => ?_, ?_⟩
  · unfold numV
    rw [hi, decide_eq_true hn, if_pos rfl, e1, val_snoc, h.val]
  · unfold numT
    rw [e2]; split <;> rfl
theorem number_other {w : List UInt8} {c : UInt8} (h1 : isL c = false) (h2 : isD c = false) : numV (w ++ [c]) = 0 ∧ numT (w ++ [c]) = [] ∧ isNum (w ++ [c]) = false := by
  obtain ⟨e1, e2⟩ := cut_snoc w c
  rw [if_neg (by simp [h1])] at e1 e2
  have hi : isNum (w ++ [c]) = false := by
    unfold isNum; rw [e1]
    cases hx : num (w ++ [c]) with
    | false => rfl
    | true =>
      have := (num_parts hx).2.2.2
      rw [List.all_append] at this
      simp [h2] at this
  unfold numV numT
  rw [hi]
  exact ⟨rfl, rfl, rfl⟩
theorem number_zero {n : Nat} {w : List UInt8} (h : Dg w n) : isNum (48 :: w) = false := by
  unfold isNum
  have hl : cutD (48 :: w) = 48 :: w := by
    unfold cutD
    rw [if_neg]
    have hp := h.pos
    have : isD ((48 :: w).getD ((48 :: w).length - 1) 0) = true := all_get (w := 48 :: w) (by rw [List.all_cons, h.all]; decide) (by simp)
    simp only [DL_not this]
    simp
  rw [hl]
  cases hx : num (48 :: w) with
  | false => rfl
  | true => exact absurd rfl (num_parts hx).2.2.1
theorem number_far {n : Nat} {w : List UInt8} (h : Dg w n) : isNum (w ++ [48, 48, 48, 48, 48, 48]) = false := by
  obtain ⟨e1, _⟩ := cut_snoc (w ++ [48, 48, 48, 48, 48]) 48
  have e : w ++ [48, 48, 48, 48, 48, 48] = w ++ [48, 48, 48, 48, 48] ++ [48] := by simp
  unfold isNum
  rw [e, e1, if_neg (by decide)]
  exact num_long (by have := h.pos; simp; omega)
end Tk
