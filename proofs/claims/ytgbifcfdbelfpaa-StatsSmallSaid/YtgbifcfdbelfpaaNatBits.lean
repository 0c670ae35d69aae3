/-
  Shifts and disjoint ors, as sums and products.
-/
import Derived.Test.YtgbifcfdbelfpaaNatWalk1
import Derived.Laws.Bits64b
namespace Go.Proofs.Ytgbifcfdbelfpaa
open Go.RowKit
set_option linter.unusedVariables false

theorem nat_or (a b i : Nat) (h : b < 2 ^ i) : (a * 2 ^ i) ||| b = a * 2 ^ i + b := by
  have := Nat.shiftLeft_add_eq_or_of_lt h a
  rw [Nat.shiftLeft_eq] at this
  exact this.symm
theorem bits_or_u32_nat (a b : Nat) (ha : a < 4294967296) (hb : b < 4294967296) : bits .or .u32 (a : Int) (b : Int) = ((a ||| b : Nat) : Int) := by
  have hx : a ||| b < 2 ^ 32 := Nat.or_lt_two_pow (by omega) (by omega)
  have h1 : (BitVec.ofInt 32 (a : Int)).toNat = a := by
    rw [BitVec.ofInt_natCast, BitVec.toNat_ofNat]; exact Nat.mod_eq_of_lt (by omega)
  have h2 : (BitVec.ofInt 32 (b : Int)).toNat = b := by
    rw [BitVec.ofInt_natCast, BitVec.toNat_ofNat]; exact Nat.mod_eq_of_lt (by omega)
  show IntKind.u32.wrap ((BitVec.ofInt 32 (a : Int) ||| BitVec.ofInt 32 (b : Int)).toNat : Int) = _
  rw [BitVec.toNat_or, h1, h2, u32_in _ (by omega) (by omega)]
/-- the halves of a word -/
theorem or_u64 (x y : Int) (x0 : 0 ≤ x) (x1 : x < 4294967296) (y0 : 0 ≤ y) (y1 : y < 4294967296) : bits .or .u64 (x * 4294967296) y = x * 4294967296 + y := by
  have h := bits_or_u64_nat (x.toNat * 2 ^ 32) y.toNat (by omega) (by omega)
  rw [nat_or _ _ 32 (by omega)] at h
  have e1 : ((x.toNat * 2 ^ 32 : Nat) : Int) = x * 4294967296 := by omega
  have e2 : ((y.toNat : Nat) : Int) = y := by omega
  have e3 : ((x.toNat * 2 ^ 32 + y.toNat : Nat) : Int) = x * 4294967296 + y := by rw [Int.natCast_add, e1, e2]
  rw [e1, e2, e3] at h
  exact h
theorem or_u32 (a b : Int) (i : Nat) (hi : i ≤ 32) (a0 : 0 ≤ a) (a1 : a * 2 ^ i < 4294967296) (b0 : 0 ≤ b) (b1 : b < 2 ^ i) : bits .or .u32 b (a * 2 ^ i) = b + a * 2 ^ i := by
  have e1 : ((a.toNat * 2 ^ i : Nat) : Int) = a * 2 ^ i := by
    rw [Int.natCast_mul, Int.toNat_of_nonneg a0]; simp
  have hp : ((2 ^ i : Nat) : Int) = (2 : Int) ^ i := by simp
  have h2 : 2 ^ i ≤ 4294967296 := Nat.le_trans (Nat.pow_le_pow_right (by omega) hi) (by decide)
  have h := bits_or_u32_nat b.toNat (a.toNat * 2 ^ i) (by omega) (by omega)
  rw [Nat.or_comm, nat_or _ _ i (by omega)] at h
  have e2 : ((b.toNat : Nat) : Int) = b := by omega
  rw [e1, e2, Int.natCast_add, e1, e2] at h
  rw [h]; omega

end Go.Proofs.Ytgbifcfdbelfpaa
