/-
  The rows by value: the whole variable, and each row of it.
-/
import Derived.Test.YtcponhdeffnndaaGreatDoorTokRow
namespace Go.Proofs.YtcponhdeffnndaaGreatDoor
open Go.RowKit
set_option linter.unusedVariables false
set_option linter.unusedSimpArgs false

def rowAt (k : Nat) : Fo.Row := Fo.T.getD k (0, [], [])
def rowVal (r : Fo.Row) : Value := .agg #[.int .u8 r.1, .string ⟨r.2.1.toArray⟩, .string ⟨r.2.2.toArray⟩]
def Idx (k : Nat) : Prop := ∀ W : World, (Instr.index 206 (.agg rowsCells.toArray) (.int .i64 k)).run Tryz.prog W = .ok (rowVal (rowAt k)) W
theorem idx0 : Idx 0 := fun _ => by kernel_rfl
theorem idx1 : Idx 1 := fun _ => by kernel_rfl
theorem idx2 : Idx 2 := fun _ => by kernel_rfl
theorem idx3 : Idx 3 := fun _ => by kernel_rfl
theorem idx4 : Idx 4 := fun _ => by kernel_rfl
theorem idx5 : Idx 5 := fun _ => by kernel_rfl
theorem idx6 : Idx 6 := fun _ => by kernel_rfl
theorem idx7 : Idx 7 := fun _ => by kernel_rfl
theorem idx8 : Idx 8 := fun _ => by kernel_rfl
theorem idx9 : Idx 9 := fun _ => by kernel_rfl
theorem idx10 : Idx 10 := fun _ => by kernel_rfl
theorem idx11 : Idx 11 := fun _ => by kernel_rfl
theorem idx12 : Idx 12 := fun _ => by kernel_rfl
theorem idx13 : Idx 13 := fun _ => by kernel_rfl
theorem idx14 : Idx 14 := fun _ => by kernel_rfl
theorem idx15 : Idx 15 := fun _ => by kernel_rfl
theorem idx16 : Idx 16 := fun _ => by kernel_rfl
theorem idx17 : Idx 17 := fun _ => by kernel_rfl
theorem idx18 : Idx 18 := fun _ => by kernel_rfl
theorem idx19 : Idx 19 := fun _ => by kernel_rfl
theorem idx20 : Idx 20 := fun _ => by kernel_rfl
theorem idx21 : Idx 21 := fun _ => by kernel_rfl
theorem idx22 : Idx 22 := fun _ => by kernel_rfl
theorem idx23 : Idx 23 := fun _ => by kernel_rfl
theorem idx24 : Idx 24 := fun _ => by kernel_rfl
theorem idx25 : Idx 25 := fun _ => by kernel_rfl
theorem idx26 : Idx 26 := fun _ => by kernel_rfl
theorem idx27 : Idx 27 := fun _ => by kernel_rfl
theorem idx28 : Idx 28 := fun _ => by kernel_rfl
theorem idx29 : Idx 29 := fun _ => by kernel_rfl
theorem idx30 : Idx 30 := fun _ => by kernel_rfl
theorem idx31 : Idx 31 := fun _ => by kernel_rfl
theorem idx32 : Idx 32 := fun _ => by kernel_rfl
theorem idx33 : Idx 33 := fun _ => by kernel_rfl
theorem idx34 : Idx 34 := fun _ => by kernel_rfl
theorem idx35 : Idx 35 := fun _ => by kernel_rfl
theorem idx36 : Idx 36 := fun _ => by kernel_rfl
theorem idx37 : Idx 37 := fun _ => by kernel_rfl
theorem idx38 : Idx 38 := fun _ => by kernel_rfl
theorem idx39 : Idx 39 := fun _ => by kernel_rfl
theorem idx_any : ∀ k, k < 40 → Idx k
  | 0, _ => idx0
  | 1, _ => idx1
  | 2, _ => idx2
  | 3, _ => idx3
  | 4, _ => idx4
  | 5, _ => idx5
  | 6, _ => idx6
  | 7, _ => idx7
  | 8, _ => idx8
  | 9, _ => idx9
  | 10, _ => idx10
  | 11, _ => idx11
  | 12, _ => idx12
  | 13, _ => idx13
  | 14, _ => idx14
  | 15, _ => idx15
  | 16, _ => idx16
  | 17, _ => idx17
  | 18, _ => idx18
  | 19, _ => idx19
  | 20, _ => idx20
  | 21, _ => idx21
  | 22, _ => idx22
  | 23, _ => idx23
  | 24, _ => idx24
  | 25, _ => idx25
  | 26, _ => idx26
  | 27, _ => idx27
  | 28, _ => idx28
  | 29, _ => idx29
  | 30, _ => idx30
  | 31, _ => idx31
  | 32, _ => idx32
  | 33, _ => idx33
  | 34, _ => idx34
  | 35, _ => idx35
  | 36, _ => idx36
  | 37, _ => idx37
  | 38, _ => idx38
  | 39, _ => idx39
  | k + 40, h => absurd h (by omega)
theorem rowAt_get (k : Nat) (h : k < 40) : Fo.T[k]? = some (rowAt k) := by
  have hl : Fo.T.length = 40 := by decide
  unfold rowAt
  rw [List.getD_eq_getElem?_getD, List.getElem?_eq_getElem (by omega)]
  rfl
end Go.Proofs.YtcponhdeffnndaaGreatDoor
