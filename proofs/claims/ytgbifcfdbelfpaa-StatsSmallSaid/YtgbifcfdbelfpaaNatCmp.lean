/-
  The walk of nat.Cmp; the kit's SameLimbs.
-/
import Derived.Test.YtgbifcfdbelfpaaNatWalk2
import Derived.Test.YtgbifcfdbelfpaaShelf
namespace Go.Proofs.Ytgbifcfdbelfpaa
open Go.RowKit
set_option linter.unusedVariables false

theorem nan_any (x : Int) (w : World) : Calls Try.prog 86 #[.int .u32 x] w fun e w' => e = .returned (.bool false) ∧ w' = w := by
  go_enter Try.func86, Try.ntmps86
  go_wp2
  go_ret
  exact ⟨rfl, rfl⟩
theorem cmpI_lt {x y : Int} (h : x < y) : Lib.compareInt x y = -1 := by simp [Lib.compareInt, h]
theorem cmpI_eq (x : Int) : Lib.compareInt x x = 0 := by simp [Lib.compareInt]
theorem cmpI_gt {x y : Int} (h : y < x) : Lib.compareInt x y = 1 := by
  have : ¬ x < y := by omega
  simp [Lib.compareInt, h, this]
theorem cmpU_any (x y : Int) (w : World) : Calls Try.prog 67 #[.int .u32 x, .int .u32 y] w fun e w' => e = .returned (.int .i64 (Lib.compareInt x y)) ∧ w' = w := by
  have hn := fun x => nan_any x w
  have HN := Lib.hid hn; clear hn
  rcases Int.lt_trichotomy x y with h | h | h
  · have hc := Lib.hid (cmpI_lt h)
    go_enter Try.func67, Try.ntmps67
    go_wp2_with (go_at_call 86; refine (HN.out _).mono ?_; rintro e w' ⟨rfl, rfl⟩)
    go_ret
    exact ⟨ret_int hc.out.symm, rfl⟩
  · subst h
    have hc := Lib.hid (cmpI_eq x)
    have h1 : decide (x < x) = false := decide_eq_false (by omega)
    go_enter Try.func67, Try.ntmps67
    go_wp2_with (go_at_call 86; refine (HN.out _).mono ?_; rintro e w' ⟨rfl, rfl⟩)
    go_ret
    exact ⟨ret_int hc.out.symm, rfl⟩
  · have hc := Lib.hid (cmpI_gt h)
    have h1 : decide (x < y) = false := decide_eq_false (by omega)
    go_enter Try.func67, Try.ntmps67
    go_wp2_with (go_at_call 86; refine (HN.out _).mono ?_; rintro e w' ⟨rfl, rfl⟩)
    go_ret
    exact ⟨ret_int hc.out.symm, rfl⟩

/-- the highest limb that differs decides -/
theorem cmp_at {l m : List Int} (hl : Na.Dg l) (hm : Na.Dg m) (h : l.length = m.length) (i : Nat) (hi : i < l.length) (hd : l.drop (i + 1) = m.drop (i + 1)) (hne : l.getD i 0 ≠ m.getD i 0) :
    Lib.compareInt (l.getD i 0) (m.getD i 0) = Lib.compareInt (Na.V l) (Na.V m) := by
  have a1 := Na.V_split l i (by omega)
  have a2 := Na.V_split m i (by omega)
  have b1 := Na.V_drop l i hi
  have b2 := Na.V_drop m i (by omega)
  have c1 := Na.V_lt (hl.take i)
  have c2 := Na.V_lt (hm.take i)
  have d1 := Na.V_nonneg (hl.take i)
  have d2 := Na.V_nonneg (hm.take i)
  rw [List.length_take, show min i l.length = i by omega] at c1
  rw [List.length_take, show min i m.length = i by omega] at c2
  rw [← hd] at b2
  rw [b1] at a1
  rw [b2] at a2
  generalize l.getD i 0 = x at *
  generalize m.getD i 0 = y at *
  generalize Na.V (l.drop (i + 1)) = T at *
  generalize Na.V (l.take i) = L at *
  generalize Na.V (m.take i) = M at *
  generalize Na.Bp i = P at *
  rcases Int.lt_trichotomy x y with k | k | k
  · have : P * (x + 1) ≤ P * y := Int.mul_le_mul_of_nonneg_left (by omega) (by omega)
    rw [cmpI_lt k, cmpI_lt (by grind)]
  · exact absurd k hne
  · have : P * (y + 1) ≤ P * x := Int.mul_le_mul_of_nonneg_left (by omega) (by omega)
    rw [cmpI_gt k, cmpI_gt (by grind)]
theorem cmp_len {l m : List Int} (hl : Na.Can l) (hm : Na.Can m) (h : l.length ≠ m.length) : Lib.compareInt l.length m.length = Lib.compareInt (Na.V l) (Na.V m) := by
  rcases Nat.lt_trichotomy l.length m.length with k | k | k
  · have h1 := (hl.len_iff l.length).1 (Nat.le_refl _)
    have h2 : ¬ Na.V m < Na.Bp l.length := fun x => Nat.not_le_of_lt k ((hm.len_iff l.length).2 x)
    rw [cmpI_lt (by omega), cmpI_lt (by omega)]
  · exact absurd k h
  · have h1 := (hm.len_iff m.length).1 (Nat.le_refl _)
    have h2 : ¬ Na.V l < Na.Bp m.length := fun x => Nat.not_le_of_lt k ((hl.len_iff m.length).2 x)
    rw [cmpI_gt (by omega), cmpI_gt (by omega)]

theorem cmp_no (A B : Option Addr) (ca cb : Nat) (l m : List Int) (w : World) (hr : RdK .u32 w A l) (hs : RdK .u32 w B m) (hl : l.length ≤ 9223372036854775807) (hm : m.length ≤ 9223372036854775807) (h : Na.rgt l = false ∨ Na.rgt m = false) :
    Calls Try.prog 36 #[.slice A l.length ca, .slice B m.length cb] w fun e w' => e = .returned (.tuple #[.int .i64 0, .int .i64 2]) ∧ w = w' := by
  have hq := right_any A ca l w hr hl
  have hp := right_any B cb m w hs hm
  rcases (show Na.rgt l = false ∨ Na.rgt l = true ∧ Na.rgt m = false by cases e : Na.rgt l <;> simp_all) with e | ⟨e, e2⟩
  · rw [e] at hq
    have HQ := Lib.hid hq; clear hq hp hr hs e h
    go_enter Try.func36, Try.ntmps36
    go_wp2_with (go_at_call 59; refine HQ.out.mono ?_; rintro e w' ⟨rfl, rfl⟩)
    go_ret2
    exact ⟨rfl, rfl⟩
  · rw [e] at hq
    rw [e2] at hp
    have HQ := Lib.hid hq; have HP := Lib.hid hp; clear hq hp hr hs e e2 h
    go_enter Try.func36, Try.ntmps36
    go_wp2_with (first
      | (go_at_call 59; (with_reducible refine HQ.out.mono ?_); rintro e w' ⟨rfl, rfl⟩)
      | (go_at_call 59; (with_reducible refine HP.out.mono ?_); rintro e w' ⟨rfl, rfl⟩))
    go_ret2
    exact ⟨rfl, rfl⟩

set_option maxHeartbeats 1000000 in
theorem cmp_yes (A B : Option Addr) (ca cb : Nat) (l m : List Int) (x y : Int) (w : World) (hr : Num w A l x) (hs : Num w B m y) :
    Calls Try.prog 36 #[.slice A l.length ca, .slice B m.length cb] w fun e w' => e = .returned (.tuple #[.int .i64 (Lib.compareInt x y), .int .i64 0]) ∧ Below w.heap.size w w' := by
  have hl1 := hr.len
  have hm1 := hs.len
  have hq := right_any A ca l w hr.rd (by omega)
  have hp := right_any B cb m w hs.rd (by omega)
  rw [hr.rgt] at hq
  rw [hs.rgt] at hp
  have HQ := Lib.hid hq; have HP := Lib.hid hp; clear hq hp
  by_cases h : l.length = m.length
  · have hne : ((l.length : Int) != (m.length : Int)) = false := by rw [bne_eq_false_iff_eq]; omega
    have Hr := Lib.hid hr; have Hs := Lib.hid hs; have HL := Lib.hid h; clear hr hs h
    go_enter Try.func36, Try.ntmps36
    go_wp2_with (first
      | (go_at_call 59; (with_reducible refine HQ.out.mono ?_); rintro e w' ⟨rfl, rfl⟩)
      | (go_at_call 59; (with_reducible refine HP.out.mono ?_); rintro e w' ⟨rfl, rfl⟩))
    clear HQ HP
    go_loopw [6] (fun i wr => ∃ k : Nat, k ≤ l.length ∧ i = .int .i64 ((k : Int) - 1) ∧ Hid (l.drop k = m.drop k) ∧ Hid (Below w.heap.size w wr)) (fun i _ => (intOf i + 1).toNat)
    case atStart => exact ⟨l.length, Nat.le_refl _, by first | rfl | go_num, Lib.hid (by rw [List.drop_length, HL.out, List.drop_length]), Lib.hid (Below.refl _ _)⟩
    case round =>
      obtain ⟨k, hk, rfl, HD, HB⟩ := hrel
      have hl2 := HL.out
      by_cases h0 : k = 0
      · subst h0
        have hd := HD.out
        rw [List.drop_zero, List.drop_zero] at hd
        have hxy : x = y := by rw [← Hr.out.val, ← Hs.out.val, hd]
        have HZ := Lib.hid (show Lib.compareInt x y = 0 by rw [hxy]; exact cmpI_eq y)
        clear hxy hd hl2
        go_wp2_with fail
        go_ret2
        exact ⟨ret_two HZ.out.symm rfl, HB.out⟩
      · obtain ⟨j, rfl⟩ : ∃ j, k = j + 1 := ⟨k - 1, by omega⟩
        obtain ⟨b, off, rfl, hbl, hc⟩ := Hr.out.rd.below HB.out (by omega)
        obtain ⟨b2, off2, rfl, hbl2, hc2⟩ := Hs.out.rd.below HB.out (by omega)
        have hc1 := hc j (by omega); clear hc
        have hc3 := hc2 j (by omega); clear hc2
        have hat := cmp_at Hr.out.can.dg Hs.out.can.dg hl2 j (by omega) HD.out
        rw [Hr.out.val, Hs.out.val] at hat
        have hdr : l.getD j 0 = m.getD j 0 → l.drop j = m.drop j := fun e => by rw [Na.drop_at l j (by omega), Na.drop_at m j (by omega), e, HD.out]
        generalize l.getD j 0 = u at *
        generalize m.getD j 0 = v at *
        have e1 : ((j + 1 : Nat) : Int) - 1 = (j : Int) := by omega
        rw [e1]
        have i0 : (0 : Int) ≤ (j : Int) := by omega
        have i1 : (j : Int) < (l.length : Int) := by omega
        have i2 : (j : Int) < (m.length : Int) := by omega
        have HDR := Lib.hid hdr; have HAT := Lib.hid hat
        clear hdr hat e1 hl2 h0
        by_cases hu : u = v
        · subst hu
          have f1 : (u != u) = false := by rw [bne_eq_false_iff_eq]
          go_wp2_with fail
          go_quiet (fail)
          go_wp2
          exact ⟨⟨j, by omega, by go_num, Lib.hid (HDR.out (by simp)), Lib.hid (below_drewN HB.out nq)⟩, by simp [intOf]⟩
        · have f1 : (u != v) = true := by rw [bne_iff_ne]; exact hu
          have HC := Lib.hid (fun W => cmpU_any u v W)
          go_wp2_with fail
          go_quiet (fail)
          have hd1 : (wr.drewN nq).cell? ⟨b, off + j, none⟩ = some (.int .u32 u) := hc1
          have hd3 : (wr.drewN nq).cell? ⟨b2, off2 + j, none⟩ = some (.int .u32 v) := hc3
          have B2 := Lib.hid (below_drewN HB.out nq)
          clear hc1 hc3 HB
          generalize wr.drewN nq = wx at *
          go_wp2_with fail
          go_quiet ((go_at_call 67; exact Calls.quiet_of_same (cmpU_any _ _ _)))
          go_wp2_with fail
          go_ret2
          exact ⟨ret_two (HAT.out hu) rfl, below_drewN B2.out _⟩
  · have hne : ((l.length : Int) != (m.length : Int)) = true := by rw [bne_iff_ne]; omega
    have hcl := cmp_len hr.can hs.can h
    rw [hr.val, hs.val] at hcl
    have HC := Lib.hid (Try.cmp_Compare_int l.length m.length w)
    have HL := Lib.hid hcl
    clear hcl hr hs h
    go_enter Try.func36, Try.ntmps36
    go_wp2_with (first
      | (go_at_call 59; (with_reducible refine HQ.out.mono ?_); rintro e w' ⟨rfl, rfl⟩)
      | (go_at_call 59; (with_reducible refine HP.out.mono ?_); rintro e w' ⟨rfl, rfl⟩)
      | (go_at_call 66; (with_reducible refine HC.out.mono ?_); rintro e w' ⟨rfl, rfl⟩))
    go_ret2
    exact ⟨ret_two HL.out rfl, Below.refl _ _⟩

end Go.Proofs.Ytgbifcfdbelfpaa
