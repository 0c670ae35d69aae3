/-
  Texts of amounts that are as long are in the order of the amounts.
-/
import Derived.Test.YtbbmpjndalkgbaaDoorMonPlain2
import GoSem.Op.String
namespace Go.Proofs.YtbbmpjndalkgbaaDoor.Mo
open Go.Op (bytesLess)
open Go.Lib
set_option linter.unusedVariables false

theorem bl_app (p q s t : List UInt8) (h : p.length = q.length) : bytesLess (p ++ s) (q ++ t) = (bytesLess p q || (p == q && bytesLess s t)) := by
  induction p generalizing q with
  | nil => cases q with
    | nil => simp [bytesLess]
    | cons => simp at h
  | cons a p ih => cases q with
    | nil => simp at h
    | cons b q =>
      simp only [List.cons_append, bytesLess, ih q (by simpa using h), List.cons_beq_cons]
      cases decide (a < b) <;> cases (a == b) <;> cases (bytesLess p q) <;> simp
theorem bl_one (a b : Nat) (ha : a < 10) (hb : b < 10) : bytesLess [UInt8.ofNat (48 + a)] [UInt8.ofNat (48 + b)] = decide (a < b) ∧ ([UInt8.ofNat (48 + a)] == [UInt8.ofNat (48 + b)]) = decide (a = b) := by
  have e1 : (UInt8.ofNat (48 + a)).toNat = 48 + a := by rw [UInt8.toNat_ofNat']; omega
  have e2 : (UInt8.ofNat (48 + b)).toNat = 48 + b := by rw [UInt8.toNat_ofNat']; omega
  generalize UInt8.ofNat (48 + a) = c at *
  generalize UInt8.ofNat (48 + b) = d at *
  constructor
  · rw [Bool.eq_iff_iff]
    simp only [bytesLess, Bool.or_eq_true, Bool.and_eq_true, decide_eq_true_eq, Bool.false_eq_true, and_false, or_false, UInt8.lt_iff_toNat_lt]
    omega
  · rw [Bool.eq_iff_iff, beq_iff_eq, decide_eq_true_eq, List.cons.injEq, ← UInt8.toNat_inj]
    simp only [and_true]
    omega
theorem dec_len1 {x : Nat} (h : (decDigits x).length = 1) : x < 10 := by
  rw [decDigits] at h
  split at h
  · assumption
  · have := nDigits_pos (x / 10)
    rw [List.length_append, decDigits_length] at h; simp at h; omega
theorem dec_order (x : Nat) : ∀ y, (decDigits x).length = (decDigits y).length → bytesLess (decDigits x) (decDigits y) = decide (x < y) ∧ (decDigits x == decDigits y) = decide (x = y) := by
  induction x using Nat.strongRecOn with
  | _ x ih =>
    intro y h
    by_cases hx : x < 10
    · have hy : y < 10 := dec_len1 (by rw [← h, decDigits_one hx]; rfl)
      rw [decDigits_one hx, decDigits_one hy]
      exact bl_one x y hx hy
    · have hy : ¬ y < 10 := fun c => hx (dec_len1 (by rw [h, decDigits_one c]; rfl))
      have ex : decDigits x = decDigits (x / 10) ++ [UInt8.ofNat (48 + x % 10)] := by rw [decDigits, dif_neg hx]
      have ey : decDigits y = decDigits (y / 10) ++ [UInt8.ofNat (48 + y % 10)] := by rw [decDigits, dif_neg hy]
      rw [ex, ey] at h ⊢
      have hl : (decDigits (x / 10)).length = (decDigits (y / 10)).length := by simpa using h
      obtain ⟨i1, i2⟩ := ih (x / 10) (by omega) (y / 10) hl
      obtain ⟨o1, o2⟩ := bl_one (x % 10) (y % 10) (by omega) (by omega)
      constructor
      · rw [bl_app _ _ _ _ hl, i1, i2, o1, Bool.eq_iff_iff]
        simp only [Bool.or_eq_true, Bool.and_eq_true, decide_eq_true_eq]
        omega
      · have : (decDigits (x / 10) ++ [UInt8.ofNat (48 + x % 10)] == decDigits (y / 10) ++ [UInt8.ofNat (48 + y % 10)]) = ((decDigits (x / 10) == decDigits (y / 10)) && ([UInt8.ofNat (48 + x % 10)] == [UInt8.ofNat (48 + y % 10)])) := by
          rw [Bool.eq_iff_iff, Bool.and_eq_true, beq_iff_eq, beq_iff_eq, beq_iff_eq]
          exact ⟨fun e => List.append_inj e hl, fun e => by rw [e.1, e.2]⟩
        rw [this, i2, o2, Bool.eq_iff_iff]
        simp only [Bool.and_eq_true, decide_eq_true_eq]
        omega
theorem body_order (a b : Nat) (h : (body a).length = (body b).length) : bytesLess (body a) (body b) = decide (a < b) := by
  unfold body at h ⊢
  have hl : (decDigits (a / 100)).length = (decDigits (b / 100)).length := by simpa using h
  obtain ⟨i1, i2⟩ := dec_order _ _ hl
  obtain ⟨o1, o2⟩ := bl_one (a / 10 % 10) (b / 10 % 10) (by omega) (by omega)
  obtain ⟨p1, p2⟩ := bl_one (a % 10) (b % 10) (by omega) (by omega)
  have e : ∀ n : Nat, (46 : UInt8) :: [dgt (n / 10), dgt n] = [46] ++ ([UInt8.ofNat (48 + n / 10 % 10)] ++ [UInt8.ofNat (48 + n % 10)]) := fun _ => rfl
  rw [e, e, bl_app _ _ _ _ hl, i1, i2, bl_app [46] [46] _ _ rfl, bl_app [UInt8.ofNat (48 + a / 10 % 10)] [UInt8.ofNat (48 + b / 10 % 10)] _ _ rfl, o1, o2, p1, Bool.eq_iff_iff]
  have e2 : bytesLess [46] [46] = false := by decide
  have e3 : (([46] : List UInt8) == [46]) = true := by decide
  rw [e2, e3]
  simp only [Bool.or_eq_true, Bool.and_eq_true, decide_eq_true_eq, Bool.false_eq_true, false_or, true_and]
  omega
theorem tx_order (a b : Int) (ha : 0 ≤ a) (hb : 0 ≤ b) (h : (tx a).length = (tx b).length) : bytesLess (tx a) (tx b) = decide (a < b) := by
  unfold tx at h ⊢
  rw [if_neg (by omega), if_neg (by omega)] at h ⊢
  rw [body_order _ _ h, decide_eq_decide]; omega
theorem tx_eq (a b : Int) (ha : rt a = true) (hb : rt b = true) : (tx a == tx b) = decide (a = b) := by
  rw [Bool.eq_iff_iff, beq_iff_eq, decide_eq_true_eq]
  exact ⟨fun e => tx_inj ha hb e, fun e => by rw [e]⟩

end Go.Proofs.YtbbmpjndalkgbaaDoor.Mo
