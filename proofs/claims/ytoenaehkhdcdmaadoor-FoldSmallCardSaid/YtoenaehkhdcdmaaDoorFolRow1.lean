/-
  The walks of a row's tests and of the closures over them.
-/
import Derived.Test.YtoenaehkhdcdmaaDoorFolWords2
import Derived.Deep.RegionHeld3
import Derived.BigRegion
namespace Go.Proofs.YtoenaehkhdcdmaaDoor
open Go.RowKit
set_option linter.unusedVariables false
set_option linter.unusedSimpArgs false

/-- a row by value -/
def rowV (a : Nat) (x y : ByteArray) : Value := .agg #[.int .u8 a, .string x, .string y]
theorem beq_sym {α : Type} [BEq α] [LawfulBEq α] (a b : α) : (a == b) = (b == a) := by
  rw [Bool.eq_iff_iff, beq_iff_eq, beq_iff_eq]; exact eq_comm
set_option maxHeartbeats 2000000 in
theorem hasKind_any (a k : Nat) (x y : ByteArray) (w : World) : Calls Tryd.prog 45 #[.agg #[.int .u8 a, .string x, .string y], .int .u8 k] w (PostB (k == 0 || a == k) w) := by
  have hb := (Below.refl w.heap.size w).alloc (Nat.le_refl _) (.cells #[.int .u8 a, .string x, .string y] 30)
  have HB := Lib.hid hb; clear hb
  by_cases h0 : k = 0
  · subst h0
    go_enter Tryd.func45, Tryd.ntmps45
    go_wp2
    go_ret
    exact ⟨rfl, HB.out⟩
  · have e0 : (k == 0) = false := by rw [beq_eq_false_iff_ne]; exact h0
    rw [e0, Bool.false_or]
    have e1 : ((k : Int) == 0) = false := by rw [beq_eq_false_iff_ne]; omega
    have e2 : ((a : Int) == (k : Int)) = (a == k) := by rw [Bool.eq_iff_iff, beq_iff_eq, beq_iff_eq]; omega
    have E2 := Lib.hid e2; clear e2 e0 h0
    go_enter Tryd.func45, Tryd.ntmps45
    go_wp2
    all_goals go_ret
    all_goals exact ⟨ret_bool (by first | exact E2.out | (simp; omega)), HB.out⟩
set_option maxHeartbeats 2000000 in
theorem hasWord_any (a : Nat) (x y z : ByteArray) (w : World) : Calls Tryd.prog 46 #[.agg #[.int .u8 a, .string x, .string y], .string z] w (PostB (x.data.toList == z.data.toList || y.data.toList == z.data.toList) w) := by
  have hb := (Below.refl w.heap.size w).alloc (Nat.le_refl _) (.cells #[.int .u8 a, .string x, .string y] 30)
  have HB := Lib.hid hb; clear hb
  have E1 := Lib.hid (show (x.toList == z.toList) = (x.data.toList == z.data.toList) by rw [ByteArray.toList_eq, ByteArray.toList_eq])
  have E2 := Lib.hid (show (y.toList == z.toList) = (y.data.toList == z.data.toList) by rw [ByteArray.toList_eq, ByteArray.toList_eq])
  by_cases h0 : (x.data.toList == z.data.toList) = true
  · have e1 : (x.toList == z.toList) = true := E1.out.trans h0
    rw [h0]
    clear h0
    go_enter Tryd.func46, Tryd.ntmps46
    go_wp2
    go_ret
    exact ⟨rfl, HB.out⟩
  · have h0' : (x.data.toList == z.data.toList) = false := by simpa using h0
    have e1 : (x.toList == z.toList) = false := E1.out.trans h0'
    rw [h0', Bool.false_or]
    clear h0 h0'
    go_enter Tryd.func46, Tryd.ntmps46
    go_wp2
    all_goals go_ret
    all_goals exact ⟨ret_bool (by first | exact E2.out | (rw [← E2.out]; simp [*])), HB.out⟩

def PostSB (x : ByteArray) (b : Bool) (w : World) (e : Ending) (w' : World) : Prop := e = .returned (.tuple #[.string x, .bool b]) ∧ Below w.heap.size w w'
/-- a boxed row and two captured variables -/
def R5 (V : World) (g bk bw a k : Nat) (x y z : ByteArray) : Prop :=
  V.cell? ⟨g, 0, none⟩ = some (.int .u8 a) ∧ V.cell? ⟨g, 1, none⟩ = some (.string x) ∧ V.cell? ⟨g, 2, none⟩ = some (.string y) ∧ V.cell? ⟨bk, 0, none⟩ = some (.int .u8 k) ∧ V.cell? ⟨bw, 0, none⟩ = some (.string z)
theorem cell_keep {V V' : World} {b o : Nat} {v : Value} (h : V.cell? ⟨b, o, none⟩ = some v) (hb : Below V.heap.size V V') : V'.cell? ⟨b, o, none⟩ = some v :=
  (hb.cell (p := ⟨b, o, none⟩) (World.block_lt_of_cell? _ _ h)).trans h
theorem R5.below {V V' : World} {g bk bw a k : Nat} {x y z : ByteArray} (h : R5 V g bk bw a k x y z) (hb : Below V.heap.size V V') : R5 V' g bk bw a k x y z :=
  ⟨cell_keep h.1 hb, cell_keep h.2.1 hb, cell_keep h.2.2.1 hb, cell_keep h.2.2.2.1 hb, cell_keep h.2.2.2.2 hb⟩
theorem R5.drew {V : World} {g bk bw a k : Nat} {x y z : ByteArray} (h : R5 V g bk bw a k x y z) : R5 V.drew g bk bw a k x y z := h
theorem R5.new (w : World) (bk bw a k : Nat) (x y z : ByteArray) (hk : w.cell? ⟨bk, 0, none⟩ = some (.int .u8 k)) (hz : w.cell? ⟨bw, 0, none⟩ = some (.string z)) :
    R5 (w.alloc (.cells #[.int .u8 a, .string x, .string y] 30)) w.heap.size bk bw a k x y z := by
  have hb := (Below.refl w.heap.size w).alloc (Nat.le_refl _) (.cells #[.int .u8 a, .string x, .string y] 30)
  refine ⟨?_, ?_, ?_, cell_keep hk hb, cell_keep hz hb⟩ <;> go_simp
set_option maxRecDepth 100000 in
set_option maxHeartbeats 4000000 in
theorem longs1_any (a k bk bw : Nat) (x y z : ByteArray) (w : World) (hk : w.cell? ⟨bk, 0, none⟩ = some (.int .u8 k)) (hz : w.cell? ⟨bw, 0, none⟩ = some (.string z)) :
    Calls Tryd.prog 44 #[.agg #[.int .u8 a, .string x, .string y], .pointer (some ⟨bk, 0, none⟩), .pointer (some ⟨bw, 0, none⟩)] w
      (PostSB x ((k == 0 || a == k) && (x.data.toList == z.data.toList || y.data.toList == z.data.toList)) w) := by
  have hr := R5.new w bk bw a k x y z hk hz
  have hb := (Below.refl w.heap.size w).alloc (Nat.le_refl _) (.cells #[.int .u8 a, .string x, .string y] 30)
  obtain ⟨W, hW⟩ : ∃ W, W = w.alloc (.cells #[.int .u8 a, .string x, .string y] 30) := ⟨_, rfl⟩
  obtain ⟨g, hg⟩ : ∃ g, g = w.heap.size := ⟨_, rfl⟩
  rw [← hW] at hb hr
  rw [← hg] at hr
  have K1 := Lib.hid (fun V => hasKind_any a k x y V)
  have K2 := Lib.hid (fun V => hasWord_any a x y z V)
  have HB := Lib.hid hb
  have HR := Lib.hid hr
  have HD := Lib.hid (show Below W.heap.size W W.drew from below_drewN (Below.refl _ _) 1)
  have HW := Lib.hid hW; have HG := Lib.hid hg
  obtain ⟨h0, h1, h2, h3, h4⟩ := hr
  clear hb hW hg hk hz
  obtain ⟨D, hD⟩ : ∃ D, D = (x.data.toList == z.data.toList || y.data.toList == z.data.toList) := ⟨_, rfl⟩
  rw [← hD] at K2 ⊢
  clear hD
  by_cases c : (k == 0 || a == k) = true
  · rw [c, Bool.true_and]
    rw [c] at K1
    clear c
    go_enter Tryd.func44, Tryd.ntmps44
    go_wp2
    rw [← HW.out, ← HG.out]
    go_region_held3 (fun V => V.cell? ⟨g, 0, none⟩ = some (.int .u8 a) ∧ V.cell? ⟨g, 1, none⟩ = some (.string x) ∧ V.cell? ⟨g, 2, none⟩ = some (.string y) ∧ V.cell? ⟨bk, 0, none⟩ = some (.int .u8 k) ∧ V.cell? ⟨bw, 0, none⟩ = some (.string z))
      (first | exact ⟨v0, v1, v2, v3, v4⟩ | exact ⟨u0, u1, u2, u3, u4⟩ | exact ⟨h0, h1, h2, h3, h4⟩)
      (first
        | (go_at_call 45; (with_reducible refine (K1.out _).mono ?_); rintro e V1 ⟨rfl, hb⟩; have R1 := Lib.hid (HR.out.drew.below hb); obtain ⟨u0, u1, u2, u3, u4⟩ := HR.out.drew.below hb; have B1 := Lib.hid (below_next (HB.out.trans (HD.out.mono HB.out.size)) hb); clear hb)
        | (go_at_call 46; (with_reducible refine (K2.out _).mono ?_); rintro e V2 ⟨rfl, hb⟩; obtain ⟨v0, v1, v2, v3, v4⟩ := R1.out.below hb; have B2 := Lib.hid (below_next B1.out hb); clear hb u0 u1 u2 u3 u4))
    all_goals go_wp2
    all_goals go_ret2
    all_goals exact ⟨rfl, B2.out⟩
  · have c' : (k == 0 || a == k) = false := by simpa using c
    rw [c', Bool.false_and]
    rw [c'] at K1
    clear c c'
    go_enter Tryd.func44, Tryd.ntmps44
    go_wp2
    rw [← HW.out, ← HG.out]
    go_region_with (first
        | (go_at_call 45; (with_reducible refine (K1.out _).mono ?_); rintro e V1 ⟨rfl, hb⟩; obtain ⟨u0, u1, u2, u3, u4⟩ := HR.out.drew.below hb; have B1 := Lib.hid (below_next (HB.out.trans (HD.out.mono HB.out.size)) hb); clear hb))
    all_goals go_wp2
    all_goals go_ret2
    all_goals exact ⟨rfl, B1.out⟩

/-- one variable captured beside the row -/
def R4 (V : World) (g bw a : Nat) (x y z : ByteArray) : Prop :=
  V.cell? ⟨g, 0, none⟩ = some (.int .u8 a) ∧ V.cell? ⟨g, 1, none⟩ = some (.string x) ∧ V.cell? ⟨g, 2, none⟩ = some (.string y) ∧ V.cell? ⟨bw, 0, none⟩ = some (.string z)
theorem R4.below {V V' : World} {g bw a : Nat} {x y z : ByteArray} (h : R4 V g bw a x y z) (hb : Below V.heap.size V V') : R4 V' g bw a x y z :=
  ⟨cell_keep h.1 hb, cell_keep h.2.1 hb, cell_keep h.2.2.1 hb, cell_keep h.2.2.2 hb⟩
theorem R4.drew {V : World} {g bw a : Nat} {x y z : ByteArray} (h : R4 V g bw a x y z) : R4 V.drew g bw a x y z := h
theorem R4.new (w : World) (bw a : Nat) (x y z : ByteArray) (hz : w.cell? ⟨bw, 0, none⟩ = some (.string z)) :
    R4 (w.alloc (.cells #[.int .u8 a, .string x, .string y] 30)) w.heap.size bw a x y z := by
  have hb := (Below.refl w.heap.size w).alloc (Nat.le_refl _) (.cells #[.int .u8 a, .string x, .string y] 30)
  refine ⟨?_, ?_, ?_, cell_keep hz hb⟩ <;> go_simp
def PostIB (a : Nat) (b : Bool) (w : World) (e : Ending) (w' : World) : Prop := e = .returned (.tuple #[.int .u8 a, .bool b]) ∧ Below w.heap.size w w'
set_option maxRecDepth 100000 in
set_option maxHeartbeats 4000000 in
theorem kinds1_any (a bw : Nat) (x y z : ByteArray) (w : World) (hz : w.cell? ⟨bw, 0, none⟩ = some (.string z)) :
    Calls Tryd.prog 48 #[.agg #[.int .u8 a, .string x, .string y], .pointer (some ⟨bw, 0, none⟩)] w
      (PostIB a (x.data.toList == z.data.toList || y.data.toList == z.data.toList) w) := by
  have hr := R4.new w bw a x y z hz
  have hb := (Below.refl w.heap.size w).alloc (Nat.le_refl _) (.cells #[.int .u8 a, .string x, .string y] 30)
  obtain ⟨W, hW⟩ : ∃ W, W = w.alloc (.cells #[.int .u8 a, .string x, .string y] 30) := ⟨_, rfl⟩
  obtain ⟨g, hg⟩ : ∃ g, g = w.heap.size := ⟨_, rfl⟩
  rw [← hW] at hb hr
  rw [← hg] at hr
  have K2 := Lib.hid (fun V => hasWord_any a x y z V)
  have HB := Lib.hid hb
  have HR := Lib.hid hr
  have HD := Lib.hid (show Below W.heap.size W W.drew from below_drewN (Below.refl _ _) 1)
  have HW := Lib.hid hW; have HG := Lib.hid hg
  obtain ⟨h0, h1, h2, h4⟩ := hr
  clear hb hW hg hz
  obtain ⟨D, hD⟩ : ∃ D, D = (x.data.toList == z.data.toList || y.data.toList == z.data.toList) := ⟨_, rfl⟩
  rw [← hD] at K2 ⊢
  clear hD
  go_enter Tryd.func48, Tryd.ntmps48
  go_wp2
  rw [← HW.out, ← HG.out]
  go_region_held3 (fun V => V.cell? ⟨g, 0, none⟩ = some (.int .u8 a) ∧ V.cell? ⟨g, 1, none⟩ = some (.string x) ∧ V.cell? ⟨g, 2, none⟩ = some (.string y) ∧ V.cell? ⟨bw, 0, none⟩ = some (.string z))
    (first | exact ⟨u0, u1, u2, u4⟩ | exact ⟨h0, h1, h2, h4⟩)
    (first
      | (go_at_call 46; (with_reducible refine (K2.out _).mono ?_); rintro e V1 ⟨rfl, hb⟩; obtain ⟨u0, u1, u2, u4⟩ := HR.out.drew.below hb; have B1 := Lib.hid (below_next (HB.out.trans (HD.out.mono HB.out.size)) hb); clear hb))
  all_goals go_wp2
  all_goals go_ret2
  all_goals exact ⟨rfl, B1.out⟩
end Go.Proofs.YtoenaehkhdcdmaaDoor
