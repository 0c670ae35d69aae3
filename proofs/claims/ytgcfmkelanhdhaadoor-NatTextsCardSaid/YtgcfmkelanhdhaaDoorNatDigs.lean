/-
  The block of digits; the walk of nat.Text.
-/
import Derived.Test.YtgcfmkelanhdhaaDoorNatGroup
import Derived.Test.YtgcfmkelanhdhaaDoorNatText
import Derived.BigRegion
namespace Go.Proofs.YtgcfmkelanhdhaaDoor
open Go.RowKit
set_option linter.unusedVariables false

set_option maxRecDepth 1000000 in
theorem zero_digits : Tryd.zeroCells69 = (Lib.byteCells (List.replicate 9873 0)).toArray := by kernel_rfl
/-- block g: these bytes -/
def BB (w : World) (g : Nat) (bs : List UInt8) : Prop := w.heap[g]? = some (.cells (Lib.byteCells bs).toArray 69 (0, 0))
section
variable {w w' : World} {g : Nat} {bs : List UInt8}
theorem BB.lt (h : BB w g bs) : g < w.heap.size := lt_of_block h
theorem BB.cell (h : BB w g bs) (k : Nat) (hk : k < bs.length) : w.cell? ⟨g, k, none⟩ = some (.int .u8 (bs.getD k 0).toNat) := by
  rw [cell_of_row w g _ _ _ (0, 0) h]
  simp [Lib.byteCells, hk, List.getD_eq_getElem?_getD]
theorem BB.free (h : BB w g bs) (i : Nat) : w.frozen? ⟨g, i, none⟩ = false := frozen_of_row w g i _ _ h
theorem BB.set (h : BB w g bs) (k : Nat) (c : UInt8) : BB (w.setCell ⟨g, k, none⟩ (.int .u8 c.toNat)) g (bs.set k c) := by
  unfold BB
  rw [heap_setCell_same w g _ _ _ _ h]
  congr 2
  rw [List.setIfInBounds_toArray]
  simp [Lib.byteCells, List.map_set]
theorem BB.kept {r : Option Nat} (h : BB w g bs) (hg : w.grownBy w' r) (hne : some g ≠ r) : BB w' g bs := (hg.block g h.lt hne).trans h
end
theorem set_front {f : Nat} {ds : List UInt8} {c : UInt8} : (List.replicate (f + 1) 0 ++ ds).set f c = List.replicate f 0 ++ c :: ds := by
  rw [List.replicate_succ', List.append_assoc, List.set_append_right _ _ (by simp)]
  simp
/-- there is room for nine digits more -/
theorem slice_digits (w : World) (g f : Nat) (hf : f < 9873) : (Instr.sliceAt 69 (.pointer (some ⟨g, 0, none⟩)) (some (.int .i64 f)) none none).run Tryd.prog w = .ok (.slice (some ⟨g, f, none⟩) (9873 - f) (9873 - f)) w := by
  have h1 : Tryd.prog.arrayLen 69 = 9873 := by kernel_rfl
  have h2 : Tryd.prog.underlying 69 = some (.array (Tryd.prog.arrayLen 69) (Tryd.prog.elem 69)) := by kernel_rfl
  have h3 : (sizeOf (Tryd.prog.elem 69)).run Tryd.prog w = .ok 1 w := by kernel_rfl
  have ea : (⟨g, 0, none⟩ : Addr).add f = ⟨g, f, none⟩ := by unfold Addr.add; split <;> simp [*]
  rw [run_sliceAt_array_l w 69 ⟨g, 0, none⟩ h2 .i64 (f : Int) (by omega) (by rw [h1]; omega), h3]
  simp [Result.andThen, slicedAt, h1, ea]
  omega
def tenTop : Nat := 10 ^ 9873
theorem room_of {z r d n j : Nat} (hz : z < tenTop) (h : z = r * 10 ^ n + d) (hr : 0 < r) (hn : n = 9 * j) : n + 9 ≤ 9873 := by
  unfold tenTop at hz
  have h1 : 10 ^ n ≤ r * 10 ^ n := Nat.le_mul_of_pos_left _ hr
  have h2 : 10 ^ n < 10 ^ 9873 := by omega
  have := (Nat.pow_lt_pow_iff_right (show 1 < 10 by omega)).1 h2
  omega
theorem dig_step {z v G m d t : Nat} (h : z = (v * 10 ^ (9 - t) + G) * 10 ^ m + d) (ht : t < 9) : z = (v * 10 ^ (9 - (t + 1)) + G / 10) * 10 ^ (m + 1) + (G % 10 * 10 ^ m + d) := by
  have e1 : 10 ^ (9 - t) = 10 * 10 ^ (9 - (t + 1)) := by rw [show 9 - t = 9 - (t + 1) + 1 by omega, Nat.pow_succ, Nat.mul_comm]
  have e2 : G = 10 * (G / 10) + G % 10 := by omega
  rw [h, e1, Nat.pow_succ]
  generalize 10 ^ (9 - (t + 1)) = P
  generalize 10 ^ m = M
  generalize hq : G / 10 = q at *
  generalize hr : G % 10 = r at *
  rw [e2]
  grind
theorem bp_top : Na.Bp 1024 < (tenTop : Int) := by decide +kernel

end Go.Proofs.YtgcfmkelanhdhaaDoor
