/-
  Lengths of zero, and what is not the same.
-/
import Derived.Test.YtgcfmkelanhdhaaDoorNatLaw
namespace Go.Proofs.YtgcfmkelanhdhaaDoor
open Go.RowKit
set_option linter.unusedVariables false

theorem Num.l0 {w : World} {A : Option Addr} {l : List Int} {z : Int} (h : Num w A l z) (hz : z = 0) : l.length = 0 := by rw [h.zero hz]; rfl
theorem Num.z0 {w : World} {A : Option Addr} {l : List Int} {z : Int} (h : Num w A l z) (hz : z = 0) : ((l.length : Int) == 0) = true := by rw [h.l0 hz]; rfl
theorem Num.z1 {w : World} {A : Option Addr} {l : List Int} {z : Int} (h : Num w A l z) (hz : z = 0) : decide (0 < (l.length : Int)) = false := by rw [h.l0 hz]; rfl
theorem Num.z2 {w : World} {A : Option Addr} {l : List Int} {z : Int} (h : Num w A l z) (hz : z = 0) : ((l.length : Int) != 0) = false := by rw [h.l0 hz]; rfl
theorem Num.lp {w : World} {A : Option Addr} {l : List Int} {z : Int} (h : Num w A l z) (hz : z ≠ 0) : 0 < l.length := List.length_pos_iff.2 (fun e => hz (by rw [← h.val, e]; rfl))
theorem Num.p0 {w : World} {A : Option Addr} {l : List Int} {z : Int} (h : Num w A l z) (hz : z ≠ 0) : ((l.length : Int) == 0) = false := h.ne hz
theorem Num.p1 {w : World} {A : Option Addr} {l : List Int} {z : Int} (h : Num w A l z) (hz : z ≠ 0) : decide (0 < (l.length : Int)) = true := decide_eq_true (by have := h.lp hz; omega)
theorem Num.p2 {w : World} {A : Option Addr} {l : List Int} {z : Int} (h : Num w A l z) (hz : z ≠ 0) : ((l.length : Int) != 0) = true := by rw [bne_iff_ne]; have := h.lp hz; omega
theorem sameF (A B : Option Addr) (ca cb : Nat) (l m : List Int) (x y : Int) (w : World) (hr : Num w A l x) (hs : Num w B m y) (h : x ≠ y) :
    Calls Tryd.prog 20 #[.slice A l.length ca, .slice B m.length cb] w fun e w' => e = .returned (.bool false) ∧ Below w.heap.size w w' := by
  have := sameN_any A B ca cb l m x y w hr hs
  rwa [decide_eq_false h] at this
theorem lessF (A B : Option Addr) (ca cb : Nat) (l m : List Int) (x y : Int) (w : World) (hr : Num w A l x) (hs : Num w B m y) (h : ¬ x < y) :
    Calls Tryd.prog 19 #[.slice A l.length ca, .slice B m.length cb] w fun e w' => e = .returned (.bool false) ∧ Below w.heap.size w w' := by
  have := less_any A B ca cb l m x y w hr hs
  rwa [decide_eq_false h] at this
theorem mul_lt {x y c : Int} (h : x < y) (hc : 0 < c) : x * c < y * c := Int.mul_lt_mul_of_pos_right h hc

end Go.Proofs.YtgcfmkelanhdhaaDoor
