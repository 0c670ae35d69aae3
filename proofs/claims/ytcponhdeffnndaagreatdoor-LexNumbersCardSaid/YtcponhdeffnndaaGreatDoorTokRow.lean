/-
  The walks of a row's test of a word, and of the closure over it.
-/
import Derived.Test.YtcponhdeffnndaaGreatDoorFolWords2
import Derived.Deep.RegionHeld3
import Derived.BigRegion
namespace Go.Proofs.YtcponhdeffnndaaGreatDoor
open Go.RowKit
set_option linter.unusedVariables false
set_option linter.unusedSimpArgs false

theorem belowN {n : Nat} {w X : World} (h : Below n w X) (k : Nat) : Below n w (X.drewN k) := by
  induction k with
  | zero => exact h
  | succ k ih => exact ih.drew
set_option maxHeartbeats 2000000 in
theorem hasWord_any (a : Nat) (x y z : ByteArray) (w : World) : Calls Tryz.prog 77 #[.agg #[.int .u8 a, .string x, .string y], .string z] w (PostB (x.data.toList == z.data.toList || y.data.toList == z.data.toList) w) := by
  have hb := (Below.refl w.heap.size w).alloc (Nat.le_refl _) (.cells #[.int .u8 a, .string x, .string y] 143)
  have HB := Lib.hid hb; clear hb
  have E1 := Lib.hid (show (x.toList == z.toList) = (x.data.toList == z.data.toList) by rw [ByteArray.toList_eq, ByteArray.toList_eq])
  have E2 := Lib.hid (show (y.toList == z.toList) = (y.data.toList == z.data.toList) by rw [ByteArray.toList_eq, ByteArray.toList_eq])
  by_cases h0 : (x.data.toList == z.data.toList) = true
  · have e1 : (x.toList == z.toList) = true := E1.out.trans h0
    rw [h0]
    clear h0
    go_enter Tryz.func77, Tryz.ntmps77
    go_wp2
    go_ret
    exact ⟨rfl, HB.out⟩
  · have h0' : (x.data.toList == z.data.toList) = false := by simpa using h0
    have e1 : (x.toList == z.toList) = false := E1.out.trans h0'
    rw [h0', Bool.false_or]
    clear h0 h0'
    go_enter Tryz.func77, Tryz.ntmps77
    go_wp2
    all_goals go_ret
    all_goals exact ⟨ret_bool (by first | exact E2.out | (rw [← E2.out]; simp [*])), HB.out⟩
theorem cell_keep {V V' : World} {b o : Nat} {v : Value} (h : V.cell? ⟨b, o, none⟩ = some v) (hb : Below V.heap.size V V') : V'.cell? ⟨b, o, none⟩ = some v :=
  (hb.cell (p := ⟨b, o, none⟩) (World.block_lt_of_cell? _ _ h)).trans h
/-- one variable captured beside the row -/
def R4 (V : World) (g bw a : Nat) (x y z : ByteArray) : Prop :=
  V.cell? ⟨g, 0, none⟩ = some (.int .u8 a) ∧ V.cell? ⟨g, 1, none⟩ = some (.string x) ∧ V.cell? ⟨g, 2, none⟩ = some (.string y) ∧ V.cell? ⟨bw, 0, none⟩ = some (.string z)
theorem R4.below {V V' : World} {g bw a : Nat} {x y z : ByteArray} (h : R4 V g bw a x y z) (hb : Below V.heap.size V V') : R4 V' g bw a x y z :=
  ⟨cell_keep h.1 hb, cell_keep h.2.1 hb, cell_keep h.2.2.1 hb, cell_keep h.2.2.2 hb⟩
theorem R4.drew {V : World} {g bw a : Nat} {x y z : ByteArray} (h : R4 V g bw a x y z) : R4 V.drew g bw a x y z := h
theorem R4.new (w : World) (bw a : Nat) (x y z : ByteArray) (hz : w.cell? ⟨bw, 0, none⟩ = some (.string z)) :
    R4 (w.alloc (.cells #[.int .u8 a, .string x, .string y] 143)) w.heap.size bw a x y z := by
  have hb := (Below.refl w.heap.size w).alloc (Nat.le_refl _) (.cells #[.int .u8 a, .string x, .string y] 143)
  refine ⟨?_, ?_, ?_, cell_keep hz hb⟩ <;> go_simp
def PostIB (a : Nat) (b : Bool) (w : World) (e : Ending) (w' : World) : Prop := e = .returned (.tuple #[.int .u8 a, .bool b]) ∧ Below w.heap.size w w'
set_option maxRecDepth 100000 in
set_option maxHeartbeats 4000000 in
theorem kinds1_any (a bw : Nat) (x y z : ByteArray) (w : World) (hz : w.cell? ⟨bw, 0, none⟩ = some (.string z)) :
    Calls Tryz.prog 76 #[.agg #[.int .u8 a, .string x, .string y], .pointer (some ⟨bw, 0, none⟩)] w
      (PostIB a (x.data.toList == z.data.toList || y.data.toList == z.data.toList) w) := by
  have hr := R4.new w bw a x y z hz
  have hb := (Below.refl w.heap.size w).alloc (Nat.le_refl _) (.cells #[.int .u8 a, .string x, .string y] 143)
  obtain ⟨W, hW⟩ : ∃ W, W = w.alloc (.cells #[.int .u8 a, .string x, .string y] 143) := ⟨_, rfl⟩
  obtain ⟨g, hg⟩ : ∃ g, g = w.heap.size := ⟨_, rfl⟩
  rw [← hW] at hb hr
  rw [← hg] at hr
  have K2 := Lib.hid (fun V => hasWord_any a x y z V)
  have HB := Lib.hid hb
  have HR := Lib.hid hr
  have HD := Lib.hid (show Below W.heap.size W W.drew from belowN (Below.refl _ _) 1)
  have HW := Lib.hid hW; have HG := Lib.hid hg
  obtain ⟨h0, h1, h2, h4⟩ := hr
  clear hb hW hg hz
  obtain ⟨D, hD⟩ : ∃ D, D = (x.data.toList == z.data.toList || y.data.toList == z.data.toList) := ⟨_, rfl⟩
  rw [← hD] at K2 ⊢
  clear hD
  go_enter Tryz.func76, Tryz.ntmps76
  go_wp2
  rw [← HW.out, ← HG.out]
  go_region_held3 (fun V => V.cell? ⟨g, 0, none⟩ = some (.int .u8 a) ∧ V.cell? ⟨g, 1, none⟩ = some (.string x) ∧ V.cell? ⟨g, 2, none⟩ = some (.string y) ∧ V.cell? ⟨bw, 0, none⟩ = some (.string z))
    (first | exact ⟨u0, u1, u2, u4⟩ | exact ⟨h0, h1, h2, h4⟩)
    (first
      | (go_at_call 77; (with_reducible refine (K2.out _).mono ?_); rintro e V1 ⟨rfl, hb⟩; obtain ⟨u0, u1, u2, u4⟩ := HR.out.drew.below hb; have B1 := Lib.hid (below_next (HB.out.trans (HD.out.mono HB.out.size)) hb); clear hb))
  all_goals go_wp2
  all_goals go_ret2
  all_goals exact ⟨rfl, B1.out⟩
end Go.Proofs.YtcponhdeffnndaaGreatDoor
