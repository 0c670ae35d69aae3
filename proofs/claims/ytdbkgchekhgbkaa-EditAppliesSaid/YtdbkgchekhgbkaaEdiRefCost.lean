/-
  The reference's Cost.
-/
import Derived.Test.YtdbkgchekhgbkaaEdiCostAny
namespace Go.Proofs.Ytdbkgchekhgbkaa
open Go.RowKit Go.Shelf
set_option linter.unusedVariables false
set_option linter.unusedSimpArgs false

set_option maxRecDepth 100000 in
set_option maxHeartbeats 8000000 in
theorem refCost_in (A : Option Addr) (len cap : Nat) (l : List (Nat × Nat)) (c : Ed.Cst) (w : World) (hc : c.ok) (hl : l.length = len) (h120 : len ≤ 120) (hrd : RdO w A l) :
    Calls Try.prog 10 #[.slice A len cap, cstV c] w fun e w' => e = .returned (.tuple #[.int .i64 (if kok l = true then Ed.price c l else 0), .int .i64 (if kok l = true then 0 else 60)]) ∧ Below w.heap.size w w' := by
  obtain ⟨RV, hRV⟩ : ∃ x, (if kok l = true then Ed.price c l else 0) = x := ⟨_, rfl⟩
  obtain ⟨RE, hRE⟩ : ∃ x : Int, (if kok l = true then 0 else 60) = x := ⟨_, rfl⟩
  rw [hRV, hRE]
  have HRV := Lib.hid hRV; have HRE := Lib.hid hRE
  clear hRV hRE
  obtain ⟨W1, hW1, hb1, hq1, hcb⟩ := cboxR w c
  have rt := fun V => refRight_any c V
  have hr : ∀ V, Calls Try.prog 21 #[cstV c] V fun e w' => e = .returned (.bool true) ∧ Below V.heap.size V w' := fun V => (rt V).mono fun e w' ⟨h1, h2⟩ => ⟨by rw [h1, decide_eq_true hc], h2⟩
  unfold cstV at hr ⊢
  have L0 := Lib.hid (show LS w W1 w.heap.size c from ⟨hb1, hcb⟩)
  have HR := Lib.hid hr; have HC := Lib.hid hc; have HRD := Lib.hid hrd; have HL := Lib.hid hl
  obtain ⟨q0, q1, q2, q3⟩ := hcb
  have hleni : (len : Int) ≤ 120 := by omega
  have i2 : decide ((120 : Int) < (len : Int)) = false := decide_eq_false (by omega)
  clear hr rt hb1 hc hrd hl
  go_enter Try.func10, Try.ntmps10
  go_wp2_with fail
  rw [← hW1]
  clear hW1
  go_wp2_with (go_at_call 21; (with_reducible refine (HR.out _).mono ?_); rintro e Vm ⟨rfl, hb⟩; have L3 := Lib.hid (L0.out.next hb); clear hb q0 q1 q2 q3)
  clear i2
  go_loopw [6, 7] (fun s6 s7 wr => ∃ (i : Nat) (v : Int), s7 = .int .i64 i ∧ s6 = .int .i64 v ∧ i ≤ len ∧ 0 ≤ v ∧ v ≤ 1000 * (i : Int) ∧ Hid (v = Ed.price c (l.take i) ∧ Below Vm.heap.size Vm wr ∧ kok (l.take i) = true)) (fun _ s7 _ => len - (intOf s7).toNat)
  case atStart => exact ⟨0, 0, rfl, rfl, Nat.zero_le _, by omega, by omega, Lib.hid ⟨rfl, Below.refl _ _, rfl⟩⟩
  case round =>
    obtain ⟨i, v, rfl, rfl, hi, hv0, hv1, HS⟩ := hrel
    by_cases hlt : i < len
    · have hlti : (i : Int) < (len : Int) := by omega
      have hil : i < l.length := by have := HL.out; omega
      obtain ⟨b, off, rfl, hbl, hcs⟩ := HRD.out (by omega)
      obtain ⟨c0, c1⟩ := hcs i hil
      have hpt := price_take c l i hil
      have hkt := kok_take l i hil
      have hkm : kok l = true → kok [l[i]] = true := kok_mem (List.getElem_mem _)
      obtain ⟨o, ho⟩ : ∃ o, l[i] = o := ⟨_, rfl⟩
      rw [ho] at c0 c1 hpt hkt hkm
      obtain ⟨k, y⟩ := o
      simp only at c0 c1 hpt
      rw [kok_one] at hkt hkm
      have d0 := cell_keep (cell_keep c0 L3.out.bel) HS.out.2.1
      obtain ⟨q0, q1, q2, q3⟩ := (L3.out.next HS.out.2.1).cb
      obtain ⟨⟨i1, i2⟩, ⟨i3, i4⟩, ⟨i5, i6⟩, i7, i8⟩ := HC.out
      by_cases hkk : 1 ≤ k ∧ k ≤ 5
      · rw [decide_eq_true hkk, Bool.and_true, HS.out.2.2] at hkt
        have HPT := Lib.hid hpt; have HKT := Lib.hid hkt
        have hcase : k = 1 ∨ k = 2 ∨ k = 3 ∨ k = 4 ∨ k = 5 := by omega
        clear hkt hkm hpt ho c0 c1 hcs hkk
        rcases hcase with rfl | rfl | rfl | rfl | rfl
        all_goals
          go_wp2
          go_roundw
          case rel =>
            refine ⟨i + 1, _, by go_num, rfl, by omega, by omega, by omega, Lib.hid ⟨?_, HS.out.2.1, HKT.out⟩⟩
            rw [HPT.out, ← HS.out.1]
            simp [Ed.cst]
          case measure => simp [intOf]; omega
      · have hkf : kok l = false := by
          cases h : kok l with
          | false => rfl
          | true => have := hkm h; rw [decide_eq_false hkk] at this; cases this
        have HKF := Lib.hid hkf
        have h1 : ((k : Int) == 1) = false := by rw [beq_eq_false_iff_ne]; omega
        have h2 : ((k : Int) == 2) = false := by rw [beq_eq_false_iff_ne]; omega
        have h3 : ((k : Int) == 3) = false := by rw [beq_eq_false_iff_ne]; omega
        have h4 : ((k : Int) == 4) = false := by rw [beq_eq_false_iff_ne]; omega
        have h5 : ((k : Int) == 5) = false := by rw [beq_eq_false_iff_ne]; omega
        have HBE := Lib.hid (L3.out.bel.trans (HS.out.2.1.mono L3.out.bel.size))
        clear hkt hkm hkf hpt ho c0 c1 hcs hkk
        go_wp2
        go_ret2
        have h1 := HRV.out; have h2 := HRE.out
        rw [HKF.out, if_neg (by decide)] at h1 h2
        subst h1; subst h2
        exact ⟨rfl, HBE.out⟩
    · obtain rfl : i = len := by omega
      have hp := HS.out.1
      rw [List.take_of_length_le (by have := HL.out; omega)] at hp
      have HP := Lib.hid hp
      have HB := Lib.hid (L3.out.bel.trans (HS.out.2.1.mono L3.out.bel.size))
      clear hp
      go_wp2
      go_ret2
      have hkl := HS.out.2.2
      rw [List.take_of_length_le (by have := HL.out; omega)] at hkl
      have h1 := HRV.out; have h2 := HRE.out
      rw [if_pos hkl] at h1 h2
      rw [← HP.out] at h1
      subst h1; subst h2
      exact ⟨rfl, HB.out⟩
end Go.Proofs.Ytdbkgchekhgbkaa
