/-
  The walk of Cost: of right costs, over a script whose kinds are kinds.
-/
import Derived.Test.YtdbkgchekhgbkaaEdiJoin0
namespace Go.Proofs.Ytdbkgchekhgbkaa
open Go.RowKit Go.Shelf
set_option linter.unusedVariables false
set_option linter.unusedSimpArgs false

theorem price_take (c : Ed.Cst) (l : List (Nat × Nat)) (i : Nat) (h : i < l.length) : Ed.price c (l.take (i + 1)) = Ed.price c (l.take i) + Ed.cst c l[i].1 := by
  rw [← List.take_append_getElem h, Ed.price_app]
  show _ + (Ed.cst c l[i].1 + 0) = _
  omega
theorem find_of (A B C k : Nat) (h1 : 1 ≤ k) (h5 : k ≤ 5) : ∃ i, Instr.findNow (.int .u8) (.int .u8 (k : Int)) (sEs A B C).toList 0 = some (some (i, fnOf A B C k)) := by
  rcases (show k = 1 ∨ k = 2 ∨ k = 3 ∨ k = 4 ∨ k = 5 by omega) with rfl | rfl | rfl | rfl | rfl
  · exact ⟨0, rfl⟩
  · exact ⟨1, rfl⟩
  · exact ⟨2, rfl⟩
  · exact ⟨3, rfl⟩
  · exact ⟨4, rfl⟩
/-- what the loop of Cost reads -/
structure CM (Vm : World) (m A B C : Nat) (c : Ed.Cst) : Prop where
  map : Vm.heap[m]? = some (.map (sEs A B C) 5)
  cap : Caps Vm A B C ⟨#[]⟩ ⟨#[]⟩ c
set_option maxRecDepth 100000 in
set_option maxHeartbeats 4000000 in
theorem cost_in (A : Option Addr) (len cap : Nat) (l : List (Nat × Nat)) (c : Ed.Cst) (w : World) (hc : c.ok) (hl : l.length = len) (h120 : len ≤ 120) (hk : ∀ o, o ∈ l → 1 ≤ o.1 ∧ o.1 ≤ 5) (hrd : RdO w A l) :
    Calls Try.prog 9 #[.slice A len cap, cstV c] w fun e w' => e = .returned (.tuple #[.int .i64 (Ed.price c l), .int .i64 0]) ∧ Below w.heap.size w w' := by
  obtain ⟨W1, hW1, hb1, hq1, hcb⟩ := cbox w c
  have rt := fun V => right_any c V
  have st := fun V => steps_any ⟨#[]⟩ ⟨#[]⟩ c V
  unfold cstV at rt st ⊢
  have hr : ∀ V, Calls Try.prog 19 #[.agg #[.int .i64 c.ins, .int .i64 c.del, .int .i64 c.chg, .int .i64 c.swp]] V fun e w' => e = .returned (.bool true) ∧ Below V.heap.size V w' := fun V => (rt V).mono fun e w' ⟨h1, h2⟩ => ⟨by rw [h1, decide_eq_true hc], h2⟩
  have L0 := Lib.hid (show LS w W1 w.heap.size c from ⟨hb1, hcb⟩)
  have HR := Lib.hid hr; have ST := Lib.hid st
  have HC := Lib.hid hc; have HK := Lib.hid hk; have HRD := Lib.hid hrd; have HL := Lib.hid hl
  obtain ⟨q0, q1, q2, q3⟩ := hcb
  have hleni : (len : Int) ≤ 120 := by omega
  have i2 : decide ((120 : Int) < (len : Int)) = false := decide_eq_false (by omega)
  clear hr rt st hb1 hc hk hrd hl
  go_enter Try.func9, Try.ntmps9
  go_wp2_with fail
  rw [← hW1]
  clear hW1
  go_wp2_with (first
    | (go_at_call 19; (with_reducible refine (HR.out _).mono ?_); rintro e V2 ⟨rfl, hb⟩; have h1 := L0.out.next hb; have L2 := Lib.hid h1; obtain ⟨u0, u1, u2, u3⟩ := h1.cb; clear hb h1 q0 q1 q2 q3)
    | (go_at_call 20; (with_reducible refine (ST.out _).mono ?_); rintro e Vm ⟨m, A', B', C', rfl, hm, hcp, hb, -, -, -⟩; have h1 := L2.out.next hb; have L3 := Lib.hid h1; have HM := Lib.hid (show CM Vm m A' B' C' c from ⟨hm, hcp⟩); clear hm hcp hb h1 u0 u1 u2 u3))
  clear i2
  go_loopw [6, 25] (fun s6 s25 wr => ∃ (i : Nat) (v : Int), s25 = .int .i64 i ∧ s6 = .int .i64 v ∧ i ≤ len ∧ 0 ≤ v ∧ v ≤ 1000 * (i : Int) ∧ Hid (v = Ed.price c (l.take i) ∧ Below Vm.heap.size Vm wr)) (fun _ s25 _ => len - (intOf s25).toNat)
  case atStart => exact ⟨0, 0, rfl, rfl, Nat.zero_le _, by omega, by omega, Lib.hid ⟨rfl, Below.refl _ _⟩⟩
  case round =>
    obtain ⟨i, v, rfl, rfl, hi, hv0, hv1, HS⟩ := hrel
    by_cases hlt : i < len
    · have hlti : (i : Int) < (len : Int) := by omega
      have hil : i < l.length := by have := HL.out; omega
      obtain ⟨b, off, rfl, hbl, hcs⟩ := HRD.out (by omega)
      obtain ⟨c0, c1⟩ := hcs i hil
      have hpt := price_take c l i hil
      obtain ⟨hk1, hk5⟩ := HK.out l[i] (List.getElem_mem _)
      obtain ⟨o, ho⟩ : ∃ o, l[i] = o := ⟨_, rfl⟩
      rw [ho] at c0 c1 hpt hk1 hk5
      obtain ⟨k, y⟩ := o
      simp only at c0 c1 hpt hk1 hk5
      have d0 := cell_keep (cell_keep c0 L3.out.bel) HS.out.2
      have d1 := cell_keep (cell_keep c1 L3.out.bel) HS.out.2
      rw [← Nat.add_assoc] at d1
      obtain ⟨g, lb, e1, eg, e2⟩ := fn_tells c A' B' C' ⟨#[]⟩ ⟨#[]⟩ 0 0 k (by decide) (by decide) (Nat.le_refl _) (Nat.le_refl _) hk1 hk5
      obtain ⟨ix, hfi⟩ := find_of A' B' C' k hk1 hk5
      obtain ⟨X, hX⟩ : ∃ X, X = wr.alloc (.cells #[.int .u8 k, .int .u8 y] 52) := ⟨_, rfl⟩
      have hbX : Below wr.heap.size wr X := by rw [hX]; exact below_new wr _
      obtain ⟨x0, x1⟩ := op_new wr k y
      rw [← hX] at x0 x1
      have hbVX := HS.out.2.trans (hbX.mono HS.out.2.size)
      have hmX : X.heap[m]? = some (.map (sEs A' B' C') 5) := (hbVX.block _ (Array.getElem?_eq_some_iff.1 HM.out.map).1).trans HM.out.map
      have hlk := run_lookup_one (P := Try.prog) (w := X) Try.underlying57 Try.underlying5 hmX k ix _ hfi
      rw [e1] at hlk
      have hcall := e2 X (HM.out.cap.below hbVX)
      unfold PostSt stV at hcall
      rw [show ((0 : Nat) : Int) = 0 from rfl] at hcall
      obtain ⟨T, hT⟩ : ∃ T, Ed.tk k = T := ⟨_, rfl⟩
      obtain ⟨U, hU⟩ : ∃ U, Ed.wr k = U := ⟨_, rfl⟩
      obtain ⟨Z, hZ⟩ : ∃ Z, Ed.cst c k = Z := ⟨_, rfl⟩
      have hz0 : 0 ≤ Z := by rw [← hZ]; exact Ed.cst_nonneg HC.out _
      have hz1 : Z ≤ 1000 := by rw [← hZ]; exact Ed.cst_max HC.out _
      obtain ⟨ft, hft⟩ : ∃ ft, Ed.fit k ((tx ⟨#[]⟩).drop 0) ((tx ⟨#[]⟩).drop 0) = ft := ⟨_, rfl⟩
      rw [hT, hU, hZ, hft] at hcall
      rw [hZ] at hpt
      have HQ := Lib.hid hcall; have HPT := Lib.hid hpt; have HBX := Lib.hid hbVX
      clear e1 e2 hcall hpt hT hU hZ hft hfi hmX hbX hbVX ho c0 c1 hcs hk1 hk5
      subst hX
      clear x0 x1
      go_wp2_with fail
      rename_i K0 hK0
      refine hK0 _ _ ?_
      clear hK0
      go_wp2_with (go_at_fn g; (with_reducible refine HQ.out.mono ?_); rintro e V ⟨rfl, hb⟩; have hbV := HBX.out.trans (hb.mono HBX.out.size); have HBV := Lib.hid (hbV.trans ((below_new V (.cells #[.int .i64 T, .int .i64 U, .int .i64 Z] 62)).mono hbV.size)); obtain ⟨d0, d1, d2⟩ := step_new V (.int .i64 T) (.int .i64 U) (.int .i64 Z); clear hb hbV)
      go_roundw
      case rel =>
        refine ⟨i + 1, v + Z, by go_num, by go_num, by omega, by omega, by omega, Lib.hid ⟨?_, HBV.out⟩⟩
        rw [HPT.out, ← HS.out.1]
      case measure => simp [intOf]; omega
    · obtain rfl : i = len := by omega
      have hp := HS.out.1
      rw [List.take_of_length_le (by have := HL.out; omega)] at hp
      have HP := Lib.hid hp
      have HB := Lib.hid (L3.out.bel.trans (HS.out.2.mono L3.out.bel.size))
      clear hp
      go_wp2
      go_ret2
      exact ⟨by rw [← HP.out]; rfl, HB.out⟩
end Go.Proofs.Ytdbkgchekhgbkaa
