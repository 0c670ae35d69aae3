/-
  Lines, tokens, classes of words in plain arithmetic. No program here.
-/
import Derived.Test.YtcponhdeffnndaaGreatDoorFolRows
namespace Tk
set_option linter.unusedVariables false
set_option linter.unusedSimpArgs false

def isL (c : UInt8) : Bool := decide (65 ≤ c.toNat ∧ c.toNat ≤ 90)
def isD (c : UInt8) : Bool := decide (48 ≤ c.toNat ∧ c.toNat ≤ 57)
def isLD (c : UInt8) : Bool := isL c || isD c
def isS (c : UInt8) : Bool := isLD c || c.toNat == 45
def isN (c : UInt8) : Bool := !isL c
def shortW (w : List UInt8) : Bool := decide (1 ≤ w.length ∧ w.length ≤ 6)
/-- the digits of a number -/
def num (w : List UInt8) : Bool := shortW w && (w.getD 0 0).toNat != 48 && w.all isD
/-- the last letter parted -/
def cutD (w : List UInt8) : List UInt8 := if isL (w.getD (w.length - 1) 0) then w.take (w.length - 1) else w
def cutL (w : List UInt8) : List UInt8 := if isL (w.getD (w.length - 1) 0) then w.drop (w.length - 1) else []
def lettered (w : List UInt8) : Bool := !(cutL w).isEmpty && num (cutD w)
def name (w : List UInt8) : Bool := w.all isS && !(w.all isN)
def flat (w : List UInt8) : Bool := shortW w && w.all isLD
/-- a pattern: true for a letter, false for a digit -/
def mat : List Bool → List UInt8 → Bool
  | [], [] => true
  | b :: p, c :: w => (if b then isL c else isD c) && mat p w
  | _, _ => false
def hasK (k : Nat) (w : List UInt8) : Bool := decide (Fo.kinds w / 2 ^ k % 2 = 1)
/-- whether a word has the class of number 2 ^ i -/
def has : Nat → List UInt8 → Bool
  | 0, w => num w
  | 1, w => lettered w
  | 2, w => name w
  | 3, w => hasK 1 w
  | 4, w => hasK 2 w
  | 5, w => hasK 3 w
  | 6, w => hasK 4 w
  | 7, w => flat w
  | 8, w => mat [true, true] w
  | 9, w => mat [false, false, false, false, false] w
  | 10, w => mat [true, false, true, false, true, false] w
  | 11, w => mat [true, false, true] w
  | 12, w => mat [false, true, false] w
  | 13, w => mat [false, false, false, false] w
  | _, _ => false
/-- the sum of the first n classes -/
def upTo (w : List UInt8) : Nat → Nat
  | 0 => 0
  | n + 1 => upTo w n + (if has n w then 2 ^ n else 0)
def cls (w : List UInt8) : Nat := upTo w 14
theorem upTo_lt (w : List UInt8) : ∀ n, upTo w n < 2 ^ n
  | 0 => by simp [upTo]
  | n + 1 => by
    have := upTo_lt w n
    simp only [upTo]
    rw [Nat.pow_succ]
    split <;> omega
theorem upTo_bit (w : List UInt8) : ∀ n i, (upTo w n).testBit i = (decide (i < n) && has i w)
  | 0, i => by simp [upTo]
  | n + 1, i => by
    have hlt := upTo_lt w n
    have ih := upTo_bit w n
    simp only [upTo]
    by_cases h : has n w = true
    · rw [if_pos h, Nat.add_comm]
      rcases Nat.lt_trichotomy i n with hi | hi | hi
      · rw [Nat.testBit_two_pow_add_gt hi, ih]; simp [hi, Nat.lt_succ_of_lt hi]
      · subst hi
        rw [Nat.testBit_two_pow_add_eq, ih]; simp [h]
      · rw [Nat.testBit_lt_two_pow]
        · rw [decide_eq_false (by omega)]; rfl
        · calc 2 ^ n + upTo w n < 2 ^ n + 2 ^ n := by omega
            _ = 2 ^ (n + 1) := by rw [Nat.pow_succ]; omega
            _ ≤ 2 ^ i := Nat.pow_le_pow_right (by omega) hi
    · rw [if_neg h, Nat.add_zero, ih]
      rcases Nat.lt_trichotomy i n with hi | hi | hi
      · simp [hi, Nat.lt_succ_of_lt hi]
      · subst hi; simp at h; simp [h]
      · rw [decide_eq_false (by omega), decide_eq_false (by omega)]
theorem cls_lt (w : List UInt8) : cls w < 16384 := upTo_lt w 14
theorem cls_bit (w : List UInt8) (i : Nat) (h : i < 14) : (cls w).testBit i = has i w := by
  unfold cls; rw [upTo_bit]; simp [h]
/-- digits as a number -/
def val (w : List UInt8) : Nat := w.foldl (fun a c => 10 * a + (c.toNat - 48)) 0
def isNum (w : List UInt8) : Bool := num (cutD w)
def numV (w : List UInt8) : Nat := if isNum w then val (cutD w) else 0
def numT (w : List UInt8) : List UInt8 := if isNum w then cutL w else []

/-! the lines of a text -/
/-- the parts between the bytes 10 -/
def parts : List UInt8 → List (List UInt8)
  | [] => [[]]
  | c :: t => if c = 10 then [] :: parts t else match parts t with
    | [] => [[c]]
    | p :: ps => (c :: p) :: ps
def linesOf (l : List UInt8) : List (List UInt8) := ((parts l).map Fo.fold).filter fun x => !x.isEmpty
def long (l : List UInt8) : Bool := decide (60 < l.length)
def wrong (l : List UInt8) : Bool := l.isEmpty || !(Fo.fold l == l)
def linesE (l : List UInt8) : Nat := if 6 < (linesOf l).length then 5 else if (linesOf l).any long then 3 else 0
def linesV (l : List UInt8) : List (List UInt8) := if linesE l = 0 then linesOf l else []

/-! the tokens of lines -/
structure T where
  text : List UInt8
  line : Nat
  at' : Nat
  deriving DecidableEq
/-- the tokens of words of a line from a place on -/
def toks (line : Nat) : Nat → List (List UInt8) → List T
  | _, [] => []
  | at', w :: ws => ⟨w, line, at'⟩ :: toks line (at' + w.length + 1) ws
def tokensFrom : Nat → List (List UInt8) → List T
  | _, [] => []
  | k, l :: ls => toks k 0 (Fo.words l) ++ tokensFrom (k + 1) ls
def tokensOf (ls : List (List UInt8)) : List T := tokensFrom 0 ls
def tokE (ls : List (List UInt8)) : Nat := if 6 < ls.length then 5 else if ls.any long then 3 else if ls.any wrong then 2 else if 40 < (tokensOf ls).length then 5 else 0
def tokV (ls : List (List UInt8)) : List T := if tokE ls = 0 then tokensOf ls else []

/-! codes -/
def cls4 (k : Nat) : Nat := if k = 1 then 512 else if k = 2 then 1024 else if k = 3 then 8192 else 0
/-- before and behind the first blank -/
def cut1 : List UInt8 → List UInt8
  | [] => []
  | c :: t => if c = 32 then [] else c :: cut1 t
def cut2 : List UInt8 → List UInt8
  | [] => []
  | c :: t => if c = 32 then t else cut2 t
def two (w : List UInt8) : Bool := w.contains 32
def joinC (k : Nat) (w : List UInt8) : List UInt8 := if two w && (k == 2) && (has 11 (cut1 w) && has 12 (cut2 w)) then cut1 w ++ cut2 w else w
def hasC (k : Nat) (w : List UInt8) : Bool := if k = 1 then has 9 w else if k = 2 then has 10 w else if k = 3 then has 13 w else false
def isCode (k : Nat) (w : List UInt8) : Bool := hasC k (joinC k w)
def codeV (k : Nat) (w : List UInt8) : List UInt8 := if isCode k w then joinC k w else []
end Tk
