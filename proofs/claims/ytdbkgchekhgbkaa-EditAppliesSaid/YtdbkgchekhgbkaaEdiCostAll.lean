/-
  The walk of Cost, whatever comes in.
-/
import Derived.Test.YtdbkgchekhgbkaaEdiCost
namespace Go.Proofs.Ytdbkgchekhgbkaa
open Go.RowKit Go.Shelf
open Go.MapKept (run_checkKey IsKey)
set_option linter.unusedVariables false
set_option linter.unusedSimpArgs false

/-- all steps have kinds -/
def kok (l : List (Nat × Nat)) : Bool := l.all fun o => decide (1 ≤ o.1 ∧ o.1 ≤ 5)
theorem kok_one (o : Nat × Nat) : kok [o] = decide (1 ≤ o.1 ∧ o.1 ≤ 5) := by simp [kok]
theorem kok_take (l : List (Nat × Nat)) (i : Nat) (h : i < l.length) : kok (l.take (i + 1)) = (kok (l.take i) && kok [l[i]]) := by
  unfold kok; rw [← List.take_append_getElem h, List.all_append]
theorem kok_mem {l : List (Nat × Nat)} {o : Nat × Nat} (ho : o ∈ l) (h : kok l = true) : kok [o] = true := by
  rw [kok_one]
  exact List.all_eq_true.1 h o ho
theorem run_lookup_none {P : Program} {w : World} {t k e : TypeId} {kd : IntKind} {b clock : Nat} {es : Array MapEntry} (ht : P.underlying t = some (.map k e)) (hk : P.underlying k = some (.int kd)) (hb : w.heap[b]? = some (.map es clock)) (n : Int) (z : Value) (hz : ∀ w, (zeroValue e).run P w = .ok z w) (hf : Instr.findNow (.int kd) (.int kd n) es.toList 0 = some none) :
    (Instr.lookup t (.map (some b)) (.int kd n) false).run P w = .ok z w := by
  simp [Instr.lookup, run_underlying ht, MapKept.run_getObj_map hb, run_checkKey hk (k := .int kd n) (by simp [IsKey]) _ 9999, run_findKey_now hk n _ _ hf, hz, Result.andThen]
theorem zero_tell (w : World) : (zeroValue 60).run Try.prog w = .ok .nilFunc w := rfl
theorem eq_nilF (W : World) : (binOp .eql 60 .nilFunc .nilFunc).run Try.prog W = .ok (.bool true) W := by first | rfl | (simp [binOp]; done)
theorem find_none (A B C k : Nat) (h : ¬ (1 ≤ k ∧ k ≤ 5)) : Instr.findNow (.int .u8) (.int .u8 (k : Int)) (sEs A B C).toList 0 = some none := by
  have h1 : ((k : Int) == 1) = false := by rw [beq_eq_false_iff_ne]; omega
  have h2 : ((k : Int) == 2) = false := by rw [beq_eq_false_iff_ne]; omega
  have h3 : ((k : Int) == 3) = false := by rw [beq_eq_false_iff_ne]; omega
  have h4 : ((k : Int) == 4) = false := by rw [beq_eq_false_iff_ne]; omega
  have h5 : ((k : Int) == 5) = false := by rw [beq_eq_false_iff_ne]; omega
  have g1 : (1 == (k : Int)) = false := by rw [beq_eq_false_iff_ne]; omega
  have g2 : (2 == (k : Int)) = false := by rw [beq_eq_false_iff_ne]; omega
  have g3 : (3 == (k : Int)) = false := by rw [beq_eq_false_iff_ne]; omega
  have g4 : (4 == (k : Int)) = false := by rw [beq_eq_false_iff_ne]; omega
  have g5 : (5 == (k : Int)) = false := by rw [beq_eq_false_iff_ne]; omega
  simp [sEs, Instr.findNow, Instr.sameNow, h1, h2, h3, h4, h5, g1, g2, g3, g4, g5] <;> omega

set_option maxRecDepth 100000 in
set_option maxHeartbeats 4000000 in
theorem cost_run (A : Option Addr) (len cap : Nat) (l : List (Nat × Nat)) (c : Ed.Cst) (w : World) (hc : c.ok) (hl : l.length = len) (h120 : len ≤ 120) (hrd : RdO w A l) :
    Calls Try.prog 9 #[.slice A len cap, cstV c] w fun e w' => e = .returned (.tuple #[.int .i64 (if kok l = true then Ed.price c l else 0), .int .i64 (if kok l = true then 0 else 60)]) ∧ Below w.heap.size w w' := by
  obtain ⟨RV, hRV⟩ : ∃ x, (if kok l = true then Ed.price c l else 0) = x := ⟨_, rfl⟩
  obtain ⟨RE, hRE⟩ : ∃ x : Int, (if kok l = true then 0 else 60) = x := ⟨_, rfl⟩
  rw [hRV, hRE]
  have HRV := Lib.hid hRV; have HRE := Lib.hid hRE
  clear hRV hRE
  obtain ⟨W1, hW1, hb1, hq1, hcb⟩ := cbox w c
  have rt := fun V => right_any c V
  have st := fun V => steps_any ⟨#[]⟩ ⟨#[]⟩ c V
  unfold cstV at rt st ⊢
  have hr : ∀ V, Calls Try.prog 19 #[.agg #[.int .i64 c.ins, .int .i64 c.del, .int .i64 c.chg, .int .i64 c.swp]] V fun e w' => e = .returned (.bool true) ∧ Below V.heap.size V w' := fun V => (rt V).mono fun e w' ⟨h1, h2⟩ => ⟨by rw [h1, decide_eq_true hc], h2⟩
  have L0 := Lib.hid (show LS w W1 w.heap.size c from ⟨hb1, hcb⟩)
  have HR := Lib.hid hr; have ST := Lib.hid st
  have HC := Lib.hid hc; have HRD := Lib.hid hrd; have HL := Lib.hid hl
  obtain ⟨q0, q1, q2, q3⟩ := hcb
  have hleni : (len : Int) ≤ 120 := by omega
  have i2 : decide ((120 : Int) < (len : Int)) = false := decide_eq_false (by omega)
  clear hr rt st hb1 hc hrd hl
  go_enter Try.func9, Try.ntmps9
  go_wp2_with fail
  rw [← hW1]
  clear hW1
  go_wp2_with (first
    | (go_at_call 19; (with_reducible refine (HR.out _).mono ?_); rintro e V2 ⟨rfl, hb⟩; have h1 := L0.out.next hb; have L2 := Lib.hid h1; obtain ⟨u0, u1, u2, u3⟩ := h1.cb; clear hb h1 q0 q1 q2 q3)
    | (go_at_call 20; (with_reducible refine (ST.out _).mono ?_); rintro e Vm ⟨m, A', B', C', rfl, hm, hcp, hb, -, -, -⟩; have h1 := L2.out.next hb; have L3 := Lib.hid h1; have HM := Lib.hid (show CM Vm m A' B' C' c from ⟨hm, hcp⟩); clear hm hcp hb h1 u0 u1 u2 u3))
  clear i2
  go_loopw [6, 25] (fun s6 s25 wr => ∃ (i : Nat) (v : Int), s25 = .int .i64 i ∧ s6 = .int .i64 v ∧ i ≤ len ∧ 0 ≤ v ∧ v ≤ 1000 * (i : Int) ∧ Hid (v = Ed.price c (l.take i) ∧ Below Vm.heap.size Vm wr ∧ kok (l.take i) = true)) (fun _ s25 _ => len - (intOf s25).toNat)
  case atStart => exact ⟨0, 0, rfl, rfl, Nat.zero_le _, by omega, by omega, Lib.hid ⟨rfl, Below.refl _ _, rfl⟩⟩
  case round =>
    obtain ⟨i, v, rfl, rfl, hi, hv0, hv1, HS⟩ := hrel
    by_cases hlt : i < len
    · have hlti : (i : Int) < (len : Int) := by omega
      have hil : i < l.length := by have := HL.out; omega
      obtain ⟨b, off, rfl, hbl, hcs⟩ := HRD.out (by omega)
      obtain ⟨c0, c1⟩ := hcs i hil
      have hpt := price_take c l i hil
      have hkt := kok_take l i hil
      have hkm : kok l = true → kok [l[i]] = true := kok_mem (List.getElem_mem _)
      obtain ⟨o, ho⟩ : ∃ o, l[i] = o := ⟨_, rfl⟩
      rw [ho] at c0 c1 hpt hkt hkm
      obtain ⟨k, y⟩ := o
      simp only at c0 c1 hpt
      rw [kok_one] at hkt hkm
      have d0 := cell_keep (cell_keep c0 L3.out.bel) HS.out.2.1
      have d1 := cell_keep (cell_keep c1 L3.out.bel) HS.out.2.1
      rw [← Nat.add_assoc] at d1
      by_cases hkk : 1 ≤ k ∧ k ≤ 5
      · obtain ⟨hk1, hk5⟩ := hkk
        rw [decide_eq_true (And.intro hk1 hk5), Bool.and_true] at hkt
        rw [HS.out.2.2] at hkt
        have HKT := Lib.hid hkt
        clear hkt hkm
        obtain ⟨g, lb, e1, eg, e2⟩ := fn_tells c A' B' C' ⟨#[]⟩ ⟨#[]⟩ 0 0 k (by decide) (by decide) (Nat.le_refl _) (Nat.le_refl _) hk1 hk5
        obtain ⟨ix, hfi⟩ := find_of A' B' C' k hk1 hk5
        obtain ⟨X, hX⟩ : ∃ X, X = wr.alloc (.cells #[.int .u8 k, .int .u8 y] 52) := ⟨_, rfl⟩
        have hbX : Below wr.heap.size wr X := by rw [hX]; exact below_new wr _
        obtain ⟨x0, x1⟩ := op_new wr k y
        rw [← hX] at x0 x1
        have hbVX := HS.out.2.1.trans (hbX.mono HS.out.2.1.size)
        have hmX : X.heap[m]? = some (.map (sEs A' B' C') 5) := (hbVX.block _ (Array.getElem?_eq_some_iff.1 HM.out.map).1).trans HM.out.map
        have hlk := run_lookup_one (P := Try.prog) (w := X) Try.underlying57 Try.underlying5 hmX k ix _ hfi
        rw [e1] at hlk
        have hcall := e2 X (HM.out.cap.below hbVX)
        unfold PostSt stV at hcall
        rw [show ((0 : Nat) : Int) = 0 from rfl] at hcall
        obtain ⟨T, hT⟩ : ∃ T, Ed.tk k = T := ⟨_, rfl⟩
        obtain ⟨U, hU⟩ : ∃ U, Ed.wr k = U := ⟨_, rfl⟩
        obtain ⟨Z, hZ⟩ : ∃ Z, Ed.cst c k = Z := ⟨_, rfl⟩
        have hz0 : 0 ≤ Z := by rw [← hZ]; exact Ed.cst_nonneg HC.out _
        have hz1 : Z ≤ 1000 := by rw [← hZ]; exact Ed.cst_max HC.out _
        obtain ⟨ft, hft⟩ : ∃ ft, Ed.fit k ((tx ⟨#[]⟩).drop 0) ((tx ⟨#[]⟩).drop 0) = ft := ⟨_, rfl⟩
        rw [hT, hU, hZ, hft] at hcall
        rw [hZ] at hpt
        have HQ := Lib.hid hcall; have HPT := Lib.hid hpt; have HBX := Lib.hid hbVX
        clear e1 e2 hcall hpt hT hU hZ hft hfi hmX hbX hbVX ho c0 c1 hcs hk1 hk5
        subst hX
        clear x0 x1
        go_wp2_with fail
        rename_i K0 hK0
        refine hK0 _ _ ?_
        clear hK0
        go_wp2_with (go_at_fn g; (with_reducible refine HQ.out.mono ?_); rintro e V ⟨rfl, hb⟩; have hbV := HBX.out.trans (hb.mono HBX.out.size); have HBV := Lib.hid (hbV.trans ((below_new V (.cells #[.int .i64 T, .int .i64 U, .int .i64 Z] 62)).mono hbV.size)); obtain ⟨d0, d1, d2⟩ := step_new V (.int .i64 T) (.int .i64 U) (.int .i64 Z); clear hb hbV)
        go_roundw
        case rel =>
          refine ⟨i + 1, v + Z, by go_num, by go_num, by omega, by omega, by omega, Lib.hid ⟨?_, HBV.out, HKT.out⟩⟩
          rw [HPT.out, ← HS.out.1]
        case measure => simp [intOf]; omega
      · have hkf : kok l = false := by
          cases h : kok l with
          | false => rfl
          | true => have := hkm h; rw [decide_eq_false hkk] at this; cases this
        have hmX : (wr.alloc (.cells #[.int .u8 k, .int .u8 y] 52)).heap[m]? = some (.map (sEs A' B' C') 5) := ((HS.out.2.1.trans ((below_new wr _).mono HS.out.2.1.size)).block _ (Array.getElem?_eq_some_iff.1 HM.out.map).1).trans HM.out.map
        have hlk := run_lookup_none (P := Try.prog) (w := wr.alloc (.cells #[.int .u8 k, .int .u8 y] 52)) Try.underlying57 Try.underlying5 hmX k .nilFunc zero_tell (find_none A' B' C' k hkk)
        have HKF := Lib.hid hkf
        have HBE := Lib.hid (L3.out.bel.trans ((HS.out.2.1.trans ((below_new wr (.cells #[.int .u8 k, .int .u8 y] 52)).mono HS.out.2.1.size)).mono L3.out.bel.size))
        clear hkt hkm hkf hmX hpt ho c0 c1 hcs hkk
        have hen := eq_nilF (wr.alloc (.cells #[.int .u8 k, .int .u8 y] 52))
        go_wp2
        go_ret2
        have h1 := HRV.out; have h2 := HRE.out
        rw [HKF.out, if_neg (by decide)] at h1 h2
        subst h1; subst h2
        exact ⟨rfl, HBE.out⟩
    · obtain rfl : i = len := by omega
      have hp := HS.out.1
      rw [List.take_of_length_le (by have := HL.out; omega)] at hp
      have HP := Lib.hid hp
      have HB := Lib.hid (L3.out.bel.trans (HS.out.2.1.mono L3.out.bel.size))
      clear hp
      go_wp2
      go_ret2
      have hkl := HS.out.2.2
      rw [List.take_of_length_le (by have := HL.out; omega)] at hkl
      have h1 := HRV.out; have h2 := HRE.out
      rw [if_pos hkl] at h1 h2
      rw [← HP.out] at h1
      subst h1; subst h2
      exact ⟨rfl, HB.out⟩
end Go.Proofs.Ytdbkgchekhgbkaa
