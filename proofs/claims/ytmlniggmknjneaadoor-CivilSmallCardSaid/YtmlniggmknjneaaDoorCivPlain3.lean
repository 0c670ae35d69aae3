/-
  Plain mathematics of the texts of dates and times: no program in sight.
-/
import Derived.Test.YtmlniggmknjneaaDoorCivPlain
namespace Go.Proofs.YtmlniggmknjneaaDoor.Cv
set_option linter.unusedVariables false

/-- is it a digit? -/
def isDg (c : UInt8) : Bool := decide (48 ≤ c.toNat ∧ c.toNat ≤ 57)
/-- the number of a text of digits, behind a number; -1 if there is another byte -/
def numTo (n : Int) : List UInt8 → Int
  | [] => n
  | c :: t => if isDg c = true then numTo (n * 10 + ((c.toNat : Int) - 48)) t else -1
def numL (l : List UInt8) : Int := numTo 0 l
/-- a digit -/
def dgt (n : Int) : UInt8 := UInt8.ofNat (48 + (n % 10).toNat)
def two (n : Int) : List UInt8 := [dgt (n / 10), dgt n]
def four (n : Int) : List UInt8 := [dgt (n / 1000), dgt (n / 100), dgt (n / 10), dgt n]
def dateT (n : Int) : List UInt8 := four (yr n) ++ 45 :: (two (mo n) ++ 45 :: two (dm n))
def timeT (t : Int) : List UInt8 := dateT (t / 1440) ++ 32 :: (two (t % 1440 / 60) ++ 58 :: two (t % 1440 % 60))

theorem dgt_toNat (n : Int) : (dgt n).toNat = 48 + (n % 10).toNat := by
  unfold dgt
  rw [UInt8.toNat_ofNat']
  omega
theorem numTo_append (n : Int) (l : List UInt8) (c : UInt8) : ∀ m, numTo n l = m → 0 ≤ m → numTo n (l ++ [c]) = numTo m [c] := by
  induction l generalizing n with
  | nil => intro m h _; simp [numTo] at h; subst h; rfl
  | cons a t ih =>
    intro m h hm
    simp only [numTo, List.cons_append] at h ⊢
    split at h
    · rename_i hd; rw [if_pos hd]; exact ih _ m h hm
    · omega
end Go.Proofs.YtmlniggmknjneaaDoor.Cv
