/-
  The walk of money.Text.
-/
import Derived.Test.YtbbmpjndalkgbaaDoorMonWalk3
import Derived.Test.YtbbmpjndalkgbaaDoorMonOrder
namespace Go.Proofs.YtbbmpjndalkgbaaDoor
open Go.RowKit
set_option linter.unusedVariables false

/-- the table of powers of ten lies as it was laid -/
def P10 (w : World) : Prop := Lib.TabIs Tryd.prog w "internal/strconv.uint64pow10" .u64 Lib.pow10Tab
theorem pow10_named : Tryd.prog.globalNamed "internal/strconv.uint64pow10" = some 5 := by kernel_rfl
theorem P10.below {w w1 : World} (h : P10 w) (hb : Below w.heap.size w w1) : P10 w1 :=
  var?_below hb pow10_named (by
    have := World.block_lt_of_cell? w ⟨5, 0, none⟩ (h.cell pow10_named 0 (by simp [Lib.pow10Tab]))
    exact this) h

theorem itoa_nat (n : Int) (w : World) (hw : P10 w) (h0 : 0 ≤ n) (h : n ≤ 9223372036854775807) :
    Calls Tryd.prog 35 #[.int .i64 n] w fun e w' => e = .returned (.string ⟨(Lib.decDigits n.toNat).toArray⟩) ∧ Below w.heap.size w w' := by
  refine (Tryd.strconv_Itoa n (by omega) (by omega) w hw).mono ?_
  rintro e w' ⟨rfl, k, os, rfl⟩
  rw [show n = ((n.toNat : Nat) : Int) by omega, Lib.itoa_nonneg]
  exact ⟨rfl, ⟨rfl, rfl, rfl, by show w.heap.size ≤ (w.heap ++ os).size; rw [Array.size_append]; omega, fun j hj => by show (w.heap ++ os)[j]? = _; rw [Array.getElem?_append_left hj]⟩⟩
theorem dec_three (k : Nat) (h : k < 100) : Lib.decDigits (100 + k) = [49, Mo.dgt (k / 10), Mo.dgt k] := by
  rw [Lib.decDigits, dif_neg (by omega), Lib.decDigits, dif_neg (by omega), Lib.decDigits_one (by omega)]
  unfold Mo.dgt
  rw [show (100 + k) / 10 / 10 = 1 by omega, show (100 + k) / 10 % 10 = k / 10 % 10 by omega, show (100 + k) % 10 = k % 10 by omega]
  rfl
theorem itoa_hun (x : Int) (w : World) (hw : P10 w) (h0 : 0 ≤ x) (h : x < 100) :
    Calls Tryd.prog 35 #[.int .i64 (100 + x)] w fun e w' => e = .returned (.string ⟨#[49, Mo.dgt (x.toNat / 10), Mo.dgt x.toNat]⟩) ∧ Below w.heap.size w w' := by
  refine (itoa_nat (100 + x) w hw (by omega) (by omega)).mono ?_
  rintro e w' ⟨rfl, hb⟩
  rw [show (100 + x).toNat = 100 + x.toNat by omega, dec_three _ (by omega)]
  exact ⟨rfl, hb⟩
theorem cut_three (a b c : UInt8) : (⟨#[a, b, c]⟩ : ByteArray).extract 1 3 = ⟨[b, c].toArray⟩ := by
  apply ByteArray.ext; simp [ByteArray.data_extract]

def PostTx (a : Int) (w : World) (e : Ending) (w' : World) : Prop :=
  e = .returned (.tuple #[.string ⟨(Mo.txV a).toArray⟩, .int .i64 (Mo.txE a)]) ∧ Below w.heap.size w w'

set_option maxHeartbeats 400000 in
theorem text_no (a : Int) (w : World) (h : Mo.rt a = false) : Calls Tryd.prog 21 #[.int .i64 a] w (PostTx a w) := by
  have hrt : ∀ W, Calls Tryd.prog 23 #[.int .i64 a] W fun e w' => e = .returned (.bool false) ∧ W = w' := fun W => h ▸ mRight_any a W
  have HE := Lib.hid (show Mo.txV a = [] ∧ Mo.txE a = 2 by simp [Mo.txV, Mo.txE, h])
  have HR := Lib.hid hrt; clear hrt h
  go_enter Tryd.func21, Tryd.ntmps21
  go_wp2_with (go_at_call 23; refine (HR.out _).mono ?_; rintro e w' ⟨rfl, rfl⟩)
  go_ret2
  exact ⟨ret_si (by rw [HE.out.1]) HE.out.2.symm, Below.refl _ _⟩

theorem dgt_hun (n m : Nat) (h : m = n % 100) : Mo.dgt (m / 10) = Mo.dgt (n / 10) ∧ Mo.dgt m = Mo.dgt n := by
  unfold Mo.dgt; rw [show m / 10 % 10 = n / 10 % 10 by omega, show m % 10 = n % 10 by omega]; exact ⟨rfl, rfl⟩
theorem tx_pos (a : Int) (h : 0 ≤ a) : (⟨#[]⟩ : ByteArray) ++ ⟨(Lib.decDigits (a / 100).toNat).toArray⟩ ++ ⟨#[46]⟩ ++ (⟨#[49, Mo.dgt ((a % 100).toNat / 10), Mo.dgt (a % 100).toNat]⟩ : ByteArray).extract 1 3 = ⟨(Mo.tx a).toArray⟩ := by
  obtain ⟨d1, d2⟩ := dgt_hun a.natAbs (a % 100).toNat (by omega)
  rw [cut_three, show (⟨#[]⟩ : ByteArray) = ⟨([] : List UInt8).toArray⟩ from rfl, show (⟨#[46]⟩ : ByteArray) = ⟨[(46 : UInt8)].toArray⟩ from rfl, bytes_append, bytes_append, bytes_append, d1, d2, Mo.tx, if_neg (by omega), Mo.body, show (a / 100).toNat = a.natAbs / 100 by omega]
  simp
theorem tx_neg (a : Int) (h : a < 0) : (⟨#[45]⟩ : ByteArray) ++ ⟨(Lib.decDigits (-a / 100).toNat).toArray⟩ ++ ⟨#[46]⟩ ++ (⟨#[49, Mo.dgt ((-a % 100).toNat / 10), Mo.dgt (-a % 100).toNat]⟩ : ByteArray).extract 1 3 = ⟨(Mo.tx a).toArray⟩ := by
  obtain ⟨d1, d2⟩ := dgt_hun a.natAbs (-a % 100).toNat (by omega)
  rw [cut_three, show (⟨#[45]⟩ : ByteArray) = ⟨[(45 : UInt8)].toArray⟩ from rfl, show (⟨#[46]⟩ : ByteArray) = ⟨[(46 : UInt8)].toArray⟩ from rfl, bytes_append, bytes_append, bytes_append, d1, d2, Mo.tx, if_pos (by omega), Mo.body, show (-a / 100).toNat = a.natAbs / 100 by omega]
  simp
set_option maxHeartbeats 1000000 in
theorem text_pos (a : Int) (w : World) (hw : P10 w) (h : Mo.rt a = true) (h0 : 0 ≤ a) : Calls Tryd.prog 21 #[.int .i64 a] w (PostTx a w) := by
  have hrt : ∀ W, Calls Tryd.prog 23 #[.int .i64 a] W fun e w' => e = .returned (.bool true) ∧ W = w' := fun W => h ▸ mRight_any a W
  have HE := Lib.hid (show Mo.txV a = Mo.tx a ∧ Mo.txE a = 0 by simp [Mo.txV, Mo.txE, h])
  have hbd := (Mo.rt_iff a).1 h
  have HR := Lib.hid hrt; clear hrt h
  obtain ⟨-, b1⟩ := hbd
  have W0 := Lib.hid hw; clear hw
  have hl := Mo.dec_len (a / 100).toNat 14 (by omega) (by omega)
  have i1 : ∀ W, P10 W → Calls Tryd.prog 35 #[.int .i64 (100 + a % 100)] W fun e w' => e = .returned (.string ⟨#[49, Mo.dgt ((a % 100).toNat / 10), Mo.dgt (a % 100).toNat]⟩) ∧ Below W.heap.size W w' := fun W hW => itoa_hun _ W hW (by omega) (by omega)
  have i2 : ∀ W, P10 W → Calls Tryd.prog 35 #[.int .i64 (a / 100)] W fun e w' => e = .returned (.string ⟨(Lib.decDigits (a / 100).toNat).toArray⟩) ∧ Below W.heap.size W w' := fun W hW => itoa_nat _ W hW (by omega) (by omega)
  have I1 := Lib.hid i1; clear i1
  have I2 := Lib.hid i2; clear i2
  go_enter Tryd.func21, Tryd.ntmps21
  go_wp2_with (first
    | (go_at_call 23; refine (HR.out _).mono ?_; rintro e w' ⟨rfl, rfl⟩)
    | (go_at_call 35; (with_reducible refine (I1.out _ W0.out).mono ?_); rintro e w1 ⟨rfl, hb1⟩; have W1 := Lib.hid (W0.out.below hb1); have B1 := Lib.hid hb1; clear hb1)
    | (go_at_call 35; (with_reducible refine (I2.out _ W1.out).mono ?_); rintro e w2 ⟨rfl, hb2⟩; have B2 := Lib.hid (B1.out.trans (hb2.mono B1.out.size)); clear hb2))
  go_ret2
  refine ⟨ret_si ?_ HE.out.2.symm, B2.out⟩
  rw [HE.out.1]; exact tx_pos a h0

set_option maxHeartbeats 1000000 in
theorem text_neg (a : Int) (w : World) (hw : P10 w) (h : Mo.rt (-a) = true) (h0 : 0 < a) : Calls Tryd.prog 21 #[.int .i64 (-a)] w (PostTx (-a) w) := by
  have hrt : ∀ W, Calls Tryd.prog 23 #[.int .i64 (-a)] W fun e w' => e = .returned (.bool true) ∧ W = w' := fun W => h ▸ mRight_any (-a) W
  have HE := Lib.hid (show Mo.txV (-a) = Mo.tx (-a) ∧ Mo.txE (-a) = 0 by simp [Mo.txV, Mo.txE, h])
  have hbd := (Mo.rt_iff (-a)).1 h
  have HR := Lib.hid hrt; clear hrt h
  have b1 : a ≤ 1000000000000000 := by omega
  clear hbd
  have W0 := Lib.hid hw; clear hw
  have hl := Mo.dec_len (a / 100).toNat 14 (by omega) (by omega)
  have i1 : ∀ W, P10 W → Calls Tryd.prog 35 #[.int .i64 (100 + a % 100)] W fun e w' => e = .returned (.string ⟨#[49, Mo.dgt ((a % 100).toNat / 10), Mo.dgt (a % 100).toNat]⟩) ∧ Below W.heap.size W w' := fun W hW => itoa_hun _ W hW (by omega) (by omega)
  have i2 : ∀ W, P10 W → Calls Tryd.prog 35 #[.int .i64 (a / 100)] W fun e w' => e = .returned (.string ⟨(Lib.decDigits (a / 100).toNat).toArray⟩) ∧ Below W.heap.size W w' := fun W hW => itoa_nat _ W hW (by omega) (by omega)
  have I1 := Lib.hid i1; clear i1
  have I2 := Lib.hid i2; clear i2
  go_enter Tryd.func21, Tryd.ntmps21
  go_wp2_with (first
    | (go_at_call 23; refine (HR.out _).mono ?_; rintro e w' ⟨rfl, rfl⟩)
    | (go_at_call 35; (with_reducible refine (I1.out _ W0.out).mono ?_); rintro e w1 ⟨rfl, hb1⟩; have W1 := Lib.hid (W0.out.below hb1); have B1 := Lib.hid hb1; clear hb1)
    | (go_at_call 35; (with_reducible refine (I2.out _ W1.out).mono ?_); rintro e w2 ⟨rfl, hb2⟩; have B2 := Lib.hid (B1.out.trans (hb2.mono B1.out.size)); clear hb2))
  go_ret2
  refine ⟨ret_si ?_ HE.out.2.symm, B2.out⟩
  rw [HE.out.1]; have := tx_neg (-a) (by omega); rw [Int.neg_neg] at this; exact this

theorem text_any (a : Int) (w : World) (hw : P10 w) : Calls Tryd.prog 21 #[.int .i64 a] w (PostTx a w) := by
  cases h : Mo.rt a
  · exact text_no a w h
  · rcases Int.lt_or_le a 0 with c | c
    · have := text_neg (-a) w hw (by rw [Int.neg_neg]; exact h) (by omega)
      rw [Int.neg_neg] at this; exact this
    · exact text_pos a w hw h c

end Go.Proofs.YtbbmpjndalkgbaaDoor
