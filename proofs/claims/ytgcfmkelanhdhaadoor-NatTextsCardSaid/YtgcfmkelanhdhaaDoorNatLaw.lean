/-
  What the laws of nat share: bounds of sums and products, zero as an operand, words.
-/
import Derived.Test.YtgcfmkelanhdhaaDoorNatDivides
namespace Go.Proofs.YtgcfmkelanhdhaaDoor
open Go.RowKit
set_option linter.unusedVariables false

/-- from 0 on, and of at most so many limbs -/
def Bd (z : Int) (n : Nat) : Prop := 0 ≤ z ∧ z < Na.Bp n
theorem Bd.up {z : Int} {m n : Nat} (h : Bd z m) (hmn : m ≤ n) : Bd z n := ⟨h.1, Int.lt_of_lt_of_le h.2 (Na.Bp_le hmn)⟩
theorem Bd.add {x y : Int} {m : Nat} (h : Bd x m) (k : Bd y m) : Bd (x + y) (m + 1) := by
  refine ⟨Int.add_nonneg h.1 k.1, ?_⟩
  have := Na.Bp_pos m
  have h1 := h.2
  have h2 := k.2
  rw [Na.Bp]; omega
theorem Bd.mul {x y : Int} {m n : Nat} (h : Bd x m) (k : Bd y n) : Bd (x * y) (m + n) := by
  refine ⟨Int.mul_nonneg h.1 k.1, ?_⟩
  rw [Na.Bp_add]
  have h1 : x * y ≤ x * Na.Bp n := Int.mul_le_mul_of_nonneg_left (Int.le_of_lt k.2) h.1
  have h2 : x * Na.Bp n < Na.Bp m * Na.Bp n := Int.mul_lt_mul_of_pos_right h.2 (Na.Bp_pos n)
  omega
theorem Bd.fit {z : Int} {n : Nat} (h : Bd z n) (hn : n ≤ 1024) : z < Na.Bp 1024 := (h.up hn).2
theorem Bd.pw {x : Int} {m : Nat} (h : Bd x m) (n : Nat) : Bd (pw x n) (m * n + 1) := by
  refine ⟨pw_nn h.1 n, ?_⟩
  rcases Nat.eq_zero_or_pos n with rfl | hn
  · show (1 : Int) < Na.Bp (m * 0 + 1)
    rw [Nat.mul_zero, Nat.zero_add]; decide
  · exact Int.lt_of_lt_of_le (pw_lt h.1 h.2 n hn) (Na.Bp_le (by omega))
theorem num_nil (w : World) : Num w none [] 0 := ⟨RdK.nil _ _ _, Na.Can.nil, by simp, rfl⟩
theorem mul_nil (A : Option Addr) (ca : Nat) (l : List Int) (x : Int) (w : World) (hr : Num w A l x) :
    Calls Tryd.prog 16 #[.slice A l.length ca, .slice none 0 0] w (PostNumE 0 w) := by
  have := mul_fit A none ca 0 l [] x 0 w hr (num_nil w) (by rw [Int.mul_zero]; exact Na.Bp_pos _)
  rwa [Int.mul_zero] at this
theorem add_nil (A : Option Addr) (ca : Nat) (l : List Int) (x : Int) (w : World) (hr : Num w A l x) :
    Calls Tryd.prog 17 #[.slice A l.length ca, .slice none 0 0] w (PostNumE x w) := by
  have hx := Na.V_lt hr.can.dg
  rw [hr.val] at hx
  have := add_fit A none ca 0 l [] x 0 w hr (num_nil w) (by have := Na.Bp_le hr.len; omega)
  rwa [Int.add_zero] at this
theorem cmp_at_val (A B : Option Addr) (ca cb : Nat) (l m : List Int) (x y c : Int) (w : World) (hr : Num w A l x) (hs : Num w B m y) (hc : Lib.compareInt x y = c) :
    Calls Tryd.prog 23 #[.slice A l.length ca, .slice B m.length cb] w fun e w' => e = .returned (.tuple #[.int .i64 c, .int .i64 0]) ∧ Below w.heap.size w w' := hc ▸ cmp_yes A B ca cb l m x y w hr hs
/-- a number below 2^64, as a word -/
theorem uint_num (A : Option Addr) (ca : Nat) (l : List Int) (x : Int) (w : World) (hr : Num w A l x) (h : x < 18446744073709551616) :
    Calls Tryd.prog 24 #[.slice A l.length ca] w fun e w' => e = .returned (.tuple #[.int .u64 x, .bool true]) ∧ w = w' := by
  have hl : l.length ≤ 2 := by rw [hr.can.len_iff, hr.val]; have : Na.Bp 2 = 18446744073709551616 := by decide
                               omega
  have hx : l.getD 1 0 * 4294967296 + l.getD 0 0 = x := by
    rw [← hr.val]
    match l, hl with
    | [], _ => rfl
    | [a], _ => simp [Na.V]
    | [a, b], _ => simp [Na.V]; omega
  have := uint_yes A ca l w hr.rd hr.can.dg hr.rgt hl
  rwa [hx] at this

end Go.Proofs.YtgcfmkelanhdhaaDoor
