/-
  The walk of nat.Sub.
-/
import Derived.Test.YtgcfmkelanhdhaaDoorNatTake
namespace Go.Proofs.YtgcfmkelanhdhaaDoor
open Go.RowKit
set_option linter.unusedVariables false

theorem takeAway_nil (B : Option Addr) (n cb : Nat) (T : Int) (w : World) :
    Calls Tryd.prog 42 #[.slice none 0 0, .slice B n cb, .int .u32 T] w fun e w' => e = .returned (.bool false) ∧ w = w' := by
  go_enter Tryd.func42, Tryd.ntmps42
  go_wp2_with fail
  refine wp_loop_rounds 1 ?_
  rw [rounds_succ]
  go_wp2
  go_ret
  exact ⟨rfl, rfl⟩

set_option maxRecDepth 100000 in
set_option maxHeartbeats 1000000 in
theorem sub_yes (A B : Option Addr) (ca cb : Nat) (l m : List Int) (x y : Int) (w : World) (hr : Num w A l x) (hs : Num w B m y) (hxy : y ≤ x) :
    Calls Tryd.prog 21 #[.slice A l.length ca, .slice B m.length cb] w (PostNumE (x - y) w) := by
  have hl1 := hr.len
  have hm1 := hs.len
  have hc := cmp_yes A B ca cb l m x y w hr hs
  have hlm : m.length ≤ l.length := by
    rw [hs.can.len_iff, hs.val]
    have := (hr.can.len_iff l.length).1 (Nat.le_refl _)
    rw [hr.val] at this
    omega
  have hc0 : Lib.compareInt x y = 0 ∨ Lib.compareInt x y = 1 := by
    by_cases h : x = y
    · subst h; exact .inl (cmpI_eq x)
    · exact .inr (cmpI_gt (by omega))
  generalize Lib.compareInt x y = o at *
  have ho : decide (o < 0) = false := decide_eq_false (by omega)
  have HC := Lib.hid hc; have Hr := Lib.hid hr; have Hs := Lib.hid hs
  clear hc hr hs hc0
  go_enter Tryd.func21, Tryd.ntmps21
  go_wp2_with (first
    | (go_at_call 23; (with_reducible refine HC.out.mono ?_); rintro e w1 ⟨rfl, hb⟩; have B1 := Lib.hid hb; clear hb)
    | (go_at_call 41; refine (clone_any A ca l w1 (Hr.out.below B1.out).rd (by omega)).mono ?_; rintro e w2 ⟨v, rfl, hcl, hb⟩; have B2 := Lib.hid (B1.out.trans (hb.mono B1.out.size)); have HCL := Lib.hid hcl; have HB := Lib.hid hb; clear hcl hb))
  rcases HCL.out with ⟨hl, rfl⟩ | ⟨g, s, rfl, hblk, hg, hcap⟩
  · have hm : m = [] := List.eq_nil_of_length_eq_zero (by rw [hl] at hlm; simpa using hlm)
    have hz : x - y = 0 := by rw [← Hr.out.val, ← Hs.out.val, hl, hm]; rfl
    have q1 := fun wx => takeAway_nil B m.length cb 1 wx
    have q2 : ∀ wx, Calls Tryd.prog 35 #[.slice none 0 0] wx fun e w' => e = .returned (.slice none 0 0) ∧ wx = w' := fun wx => trimmed_any none 0 [] wx (RdK.nil _ _ _) (by simp) (by simp)
    have Q1 := Lib.hid q1; have Q2 := Lib.hid q2; have HZ := Lib.hid hz
    clear hl hm hz q1 q2 HCL
    go_wp2_with (first
      | (go_at_call 42; (with_reducible refine (Q1.out _).mono ?_); rintro e w3 ⟨rfl, rfl⟩)
      | (go_at_call 35; (with_reducible refine (Q2.out _).mono ?_); rintro e w3 ⟨rfl, rfl⟩))
    go_ret2
    exact ⟨none, 0, [], rfl, ⟨RdK.nil _ _ _, Na.Can.nil, by simp, HZ.out.symm⟩, B2.out⟩
  · have hoff2 : RdOff w2 g B m := RdK.off (Hs.out.below B1.out).rd HB.out hg
    have q1 := takeAway_any B g 0 (l.length + s.length) cb [] s l m 1 w2 hblk rfl Hr.out.can.dg hoff2 Hs.out.can.dg (by omega) (by omega) (by omega) (by omega)
    have Q1 := Lib.hid q1
    clear q1 hoff2 hblk HCL
    go_wp2_with (go_at_call 42; (with_reducible refine Q1.out.mono ?_); rintro e w3 ⟨q, β, rfl, h1, h2, h3, h4, h5, h6, h7⟩; have H1 := Lib.hid h1; have H2 := Lib.hid h2; have H3 := Lib.hid h3; have H6 := Lib.hid h6; have H7 := Lib.hid h7; clear h1 h2 h3 h6 h7)
    have hv := H6.out
    rw [List.take_of_length_le hlm, Hr.out.val, Hs.out.val] at hv
    have hv0 : Na.V q = x - y := by
      have a1 := Na.V_lt H3.out
      rw [H2.out] at a1
      have : β = 0 := by
        by_cases k : 0 < β
        · have : 1 * Na.Bp l.length ≤ β * Na.Bp l.length := Int.mul_le_mul_of_nonneg_right (by omega) (by have := Na.Bp_pos l.length; omega)
          omega
        · omega
      rw [this] at hv; omega
    have q2 := trimmed_any (some ⟨g, 0, none⟩) (l.length + s.length) q w3 (H1.out.rd rfl) (by rw [H2.out]; omega) (by unfold maxLen at hcap; omega)
    rw [H2.out] at q2
    have hrt := rdk_trm (H1.out.rd rfl)
    have hcan := Na.Can.mk' H3.out
    have hv1 : Na.V (Na.trm q) = x - y := by rw [Na.V_trm]; exact hv0
    have hlt := Na.trm_len q
    rw [H2.out] at hlt
    generalize Na.trm q = t at *
    have Q2 := Lib.hid q2; have HRT := Lib.hid hrt; have HV := Lib.hid hv1
    clear q2 hrt hv1 hv hv0
    go_wp2_with (go_at_call 35; (with_reducible refine Q2.out.mono ?_); rintro e w4 ⟨rfl, rfl⟩)
    go_ret2
    exact ⟨_, _, t, rfl, ⟨HRT.out, hcan, by omega, HV.out⟩, B2.out.grown H7.out B2.out.size (fun k hk => by cases hk; have := B1.out.size; omega)⟩

theorem sub_less (A B : Option Addr) (ca cb : Nat) (l m : List Int) (x y : Int) (w : World) (hr : Num w A l x) (hs : Num w B m y) (hxy : x < y) :
    Calls Tryd.prog 21 #[.slice A l.length ca, .slice B m.length cb] w (PostErr 2 w) := by
  have hc := cmp_yes A B ca cb l m x y w hr hs
  rw [cmpI_lt hxy] at hc
  have HC := Lib.hid hc
  clear hc hr hs
  go_enter Tryd.func21, Tryd.ntmps21
  go_wp2_with (go_at_call 23; (with_reducible refine HC.out.mono ?_); rintro e w1 ⟨rfl, hb⟩; have B1 := Lib.hid hb; clear hb)
  go_ret2
  exact ⟨rfl, B1.out⟩
theorem sub_no (A B : Option Addr) (ca cb : Nat) (l m : List Int) (w : World) (hr : RdK .u32 w A l) (hs : RdK .u32 w B m) (hl : l.length ≤ 9223372036854775807) (hm : m.length ≤ 9223372036854775807) (h : Na.rgt l = false ∨ Na.rgt m = false) :
    Calls Tryd.prog 21 #[.slice A l.length ca, .slice B m.length cb] w fun e w' => e = .returned (.tuple #[.slice none 0 0, .int .i64 2]) ∧ w = w' := by
  have hc := cmp_no A B ca cb l m w hr hs hl hm h
  have HC := Lib.hid hc
  clear hc hr hs h
  go_enter Tryd.func21, Tryd.ntmps21
  go_wp2_with (go_at_call 23; (with_reducible refine HC.out.mono ?_); rintro e w1 ⟨rfl, rfl⟩)
  go_ret2
  exact ⟨rfl, rfl⟩
theorem mul_no (A B : Option Addr) (ca cb : Nat) (l m : List Int) (w : World) (hr : RdK .u32 w A l) (hs : RdK .u32 w B m) (hl : l.length ≤ 9223372036854775807) (hm : m.length ≤ 9223372036854775807) (h : Na.rgt l = false ∨ Na.rgt m = false) :
    Calls Tryd.prog 16 #[.slice A l.length ca, .slice B m.length cb] w fun e w' => e = .returned (.tuple #[.slice none 0 0, .int .i64 2]) ∧ w = w' := by
  have hq := right_any A ca l w hr hl
  have hp := right_any B cb m w hs hm
  rcases (show Na.rgt l = false ∨ Na.rgt l = true ∧ Na.rgt m = false by cases e : Na.rgt l <;> simp_all) with e | ⟨e, e2⟩
  · rw [e] at hq
    have HQ := Lib.hid hq; clear hq hp hr hs e h
    go_enter Tryd.func16, Tryd.ntmps16
    go_wp2_with (go_at_call 18; refine HQ.out.mono ?_; rintro e w' ⟨rfl, rfl⟩)
    go_ret2
    exact ⟨rfl, rfl⟩
  · rw [e] at hq
    rw [e2] at hp
    have HQ := Lib.hid hq; have HP := Lib.hid hp; clear hq hp hr hs e e2 h
    go_enter Tryd.func16, Tryd.ntmps16
    go_wp2_with (first
      | (go_at_call 18; (with_reducible refine HQ.out.mono ?_); rintro e w' ⟨rfl, rfl⟩)
      | (go_at_call 18; (with_reducible refine HP.out.mono ?_); rintro e w' ⟨rfl, rfl⟩))
    go_ret2
    exact ⟨rfl, rfl⟩

end Go.Proofs.YtgcfmkelanhdhaaDoor
