/-
  The walk of money.Share.
-/
import Derived.Test.YtbbmpjndalkgbaaDoorMonWalk2
namespace Go.Proofs.YtbbmpjndalkgbaaDoor
open Go.RowKit
set_option linter.unusedVariables false

theorem zeroFunc (W : World) : (zeroValue 67).run Tryd.prog W = .ok .nilFunc W := by kernel_rfl
def PostSh (a s way : Int) (w : World) (e : Ending) (w' : World) : Prop :=
  e = .returned (.tuple #[.int .i64 (Mo.shV a s way), .int .i64 (Mo.shE a s way)]) ∧ Below w.heap.size w w'

theorem share_no (a s way : Int) (w : World) (h : ¬ ((-1000000000000000 ≤ a ∧ a ≤ 1000000000000000) ∧ (0 ≤ s ∧ s ≤ 10000))) :
    Calls Tryd.prog 18 #[.int .i64 a, .int .i64 s, .int .u8 way] w (PostSh a s way w) := by
  have hno : Mo.shOk a s way = false := by
    rw [Bool.eq_false_iff]
    exact fun x => h ⟨((Mo.shOk_iff _ _ _).1 x).1, ((Mo.shOk_iff _ _ _).1 x).2.1⟩
  have hE := Mo.sh_no hno
  have HE := Lib.hid hE; clear hE hno
  cases hr : Mo.rt a
  · have hrt : ∀ W, Calls Tryd.prog 23 #[.int .i64 a] W fun e w' => e = .returned (.bool false) ∧ W = w' := fun W => hr ▸ mRight_any a W
    have HR := Lib.hid hrt; clear hrt hr h
    go_enter Tryd.func18, Tryd.ntmps18
    go_wp2_with (go_at_call 23; refine (HR.out _).mono ?_; rintro e w' ⟨rfl, rfl⟩)
    go_ret2
    exact ⟨ret_two HE.out.1.symm HE.out.2.symm, Below.refl _ _⟩
  · have hrt : ∀ W, Calls Tryd.prog 23 #[.int .i64 a] W fun e w' => e = .returned (.bool true) ∧ W = w' := fun W => hr ▸ mRight_any a W
    have hs : s < 0 ∨ 10000 < s := by
      have := (Mo.rt_iff a).1 hr
      omega
    have HR := Lib.hid hrt; clear hrt hr h
    rcases hs with hs | hs
    · go_enter Tryd.func18, Tryd.ntmps18
      go_wp2_with (go_at_call 23; refine (HR.out _).mono ?_; rintro e w' ⟨rfl, rfl⟩)
      go_ret2
      exact ⟨ret_two HE.out.1.symm HE.out.2.symm, Below.refl _ _⟩
    · have hs2 : decide (s < 0) = false := decide_eq_false (by omega)
      go_enter Tryd.func18, Tryd.ntmps18
      go_wp2_with (go_at_call 23; refine (HR.out _).mono ?_; rintro e w' ⟨rfl, rfl⟩)
      go_ret2
      exact ⟨ret_two HE.out.1.symm HE.out.2.symm, Below.refl _ _⟩

set_option maxHeartbeats 2000000 in
theorem share_yes (a s way : Int) (w : World) (a0 : -1000000000000000 ≤ a) (a1 : a ≤ 1000000000000000) (s0 : 0 ≤ s) (s1 : s ≤ 10000) (v0 : 0 ≤ way) (v1 : way ≤ 255) :
    Calls Tryd.prog 18 #[.int .i64 a, .int .i64 s, .int .u8 way] w (PostSh a s way w) := by
  have hrt : ∀ W, Calls Tryd.prog 23 #[.int .i64 a] W fun e w' => e = .returned (.bool true) ∧ W = w' := by
    have hr : Mo.rt a = true := (Mo.rt_iff a).2 ⟨a0, a1⟩
    exact fun W => hr ▸ mRight_any a W
  have hpo : ∀ W, Calls Tryd.prog 33 #[.int .i64 a, .int .i64 s, .int .i64 10000] W fun e w' => e = .returned (.tuple #[.int .i64 (a * s / 10000), .int .i64 (a * s % 10000)]) ∧ ∃ n, w' = W.drewN n :=
    fun W => portion_any a s 10000 W (by omega) (by omega) s0 s1 (by omega) a0 a1
  have bd := Mo.part_bd a s 10000 (by omega) s0 s1 a0 a1
  have hV : Mo.shOk a s way = true → Mo.shV a s way = Mo.shS a s way ∧ Mo.shE a s way = 0 := Mo.sh_ok
  have hN : Mo.shOk a s way = false → Mo.shV a s way = 0 ∧ Mo.shE a s way = 2 := Mo.sh_no
  have h1 := Mo.shS_1 a s
  have h2 := Mo.shS_2 a s
  have h3 := Mo.shS_3 a s
  have h4 := Mo.shS_4 a s
  have hok := Mo.shOk_iff a s way
  have r0 := Int.emod_nonneg (a * s) (show (10000 : Int) ≠ 0 by omega)
  have r1 := Int.emod_lt_of_pos (a * s) (show (0 : Int) < 10000 by omega)
  generalize a * s / 10000 = f at *
  generalize a * s % 10000 = r at *
  have HR := Lib.hid hrt; clear hrt
  have HP := Lib.hid hpo; clear hpo
  have HV := Lib.hid hV; clear hV
  have HN := Lib.hid hN; clear hN
  have HK := Lib.hid hok; clear hok
  have HS := Lib.hid (show _ ∧ _ ∧ _ ∧ _ from ⟨h1, h2, h3, h4⟩); clear h1 h2 h3 h4
  obtain ⟨f0, f1⟩ := bd
  have hw : (way = 1 ∨ way = 2 ∨ way = 3 ∨ way = 4) ∨ ¬ (1 ≤ way ∧ way ≤ 4) := by omega
  rcases hw with (rfl | rfl | rfl | rfl) | hw
  · have hv := HV.out (HK.out.2 ⟨⟨a0, a1⟩, ⟨s0, s1⟩, by omega, by omega⟩)
    rw [HS.out.1] at hv
    have HW := Lib.hid hv; clear hv HV HN HK HS
    go_enter Tryd.func18, Tryd.ntmps18
    go_wp2_with (first
      | (go_at_call 23; refine (HR.out _).mono ?_; rintro e w' ⟨rfl, rfl⟩)
      | (go_at_call 33; refine (HP.out _).mono ?_; rintro e w1 ⟨rfl, n, hn⟩; have B1 := Lib.hid (show Below w.heap.size w w1 from hn ▸ below_drewN (Below.refl _ _) n); clear hn)
      | (go_at_call 34; refine (roundings_any _ _ _).mono ?_; rintro e w2 ⟨m, pn, pr, pf, rfl, hR, hb⟩; have B2 := Lib.hid (B1.out.trans (hb.mono B1.out.size)); have HM := Lib.hid hR; have hlk := run_lookup_hit Tryd.underlying69 Tryd.underlying5 hR.map 1 0 _ (by simp [rEs, Instr.findNow, Instr.sameNow]; rfl); clear hR hb)
      | (go_at_call 41; refine (way1_any _).mono ?_; rintro e w' ⟨rfl, rfl⟩))
    go_ret2
    exact ⟨ret_two (by rw [HW.out.1]) HW.out.2.symm, B2.out⟩
  · have hv := HV.out (HK.out.2 ⟨⟨a0, a1⟩, ⟨s0, s1⟩, by omega, by omega⟩)
    rw [HS.out.2.1] at hv
    have HW := Lib.hid hv; clear hv HV HN HK HS
    go_enter Tryd.func18, Tryd.ntmps18
    go_wp2_with (first
      | (go_at_call 23; refine (HR.out _).mono ?_; rintro e w' ⟨rfl, rfl⟩)
      | (go_at_call 33; refine (HP.out _).mono ?_; rintro e w1 ⟨rfl, n, hn⟩; have B1 := Lib.hid (show Below w.heap.size w w1 from hn ▸ below_drewN (Below.refl _ _) n); clear hn)
      | (go_at_call 34; refine (roundings_any _ _ _).mono ?_; rintro e w2 ⟨m, pn, pr, pf, rfl, hR, hb⟩; have B2 := Lib.hid (B1.out.trans (hb.mono B1.out.size)); have HM := Lib.hid hR; have hlk := run_lookup_hit Tryd.underlying69 Tryd.underlying5 hR.map 2 1 _ (by simp [rEs, Instr.findNow, Instr.sameNow]; rfl); clear hR hb)
      | (go_at_call 42; refine (way2_any r pr _ HM.out.rest).mono ?_; rintro e w' ⟨rfl, rfl⟩))
    go_ret2
    exact ⟨ret_two (by rw [HW.out.1]; split <;> omega) HW.out.2.symm, B2.out⟩
  · have hv := HV.out (HK.out.2 ⟨⟨a0, a1⟩, ⟨s0, s1⟩, by omega, by omega⟩)
    rw [HS.out.2.2.1] at hv
    have hcl := fun (m pn pr pf : Nat) (W : World) (hR : Rnds W m pn pr pf f r) => way3_any m pn pr pf f r W hR r0 r1
    have hx : 0 ≤ (if 5000 < r ∨ r = 5000 ∧ 0 ≤ f then (1 : Int) else 0) ∧ (if 5000 < r ∨ r = 5000 ∧ 0 ≤ f then (1 : Int) else 0) ≤ 1 := by split <;> omega
    generalize (if 5000 < r ∨ r = 5000 ∧ 0 ≤ f then (1 : Int) else 0) = x at *
    have HC := Lib.hid hcl; clear hcl
    obtain ⟨x0, x1⟩ := hx
    have HW := Lib.hid hv; clear hv HV HN HK HS
    go_enter Tryd.func18, Tryd.ntmps18
    go_wp2_with (first
      | (go_at_call 23; refine (HR.out _).mono ?_; rintro e w' ⟨rfl, rfl⟩)
      | (go_at_call 33; refine (HP.out _).mono ?_; rintro e w1 ⟨rfl, n, hn⟩; have B1 := Lib.hid (show Below w.heap.size w w1 from hn ▸ below_drewN (Below.refl _ _) n); clear hn)
      | (go_at_call 34; refine (roundings_any _ _ _).mono ?_; rintro e w2 ⟨m, pn, pr, pf, rfl, hR, hb⟩; have B2 := Lib.hid (B1.out.trans (hb.mono B1.out.size)); have HM := Lib.hid hR; have hlk := run_lookup_hit Tryd.underlying69 Tryd.underlying5 hR.map 3 2 _ (by simp [rEs, Instr.findNow, Instr.sameNow]; rfl); clear hR hb)
      | (go_at_call 43; refine (HC.out m pn pr pf _ HM.out).mono ?_; rintro e w' ⟨rfl, rfl⟩))
    go_ret2
    exact ⟨ret_two (by rw [HW.out.1]) HW.out.2.symm, B2.out⟩
  · have hv := HV.out (HK.out.2 ⟨⟨a0, a1⟩, ⟨s0, s1⟩, by omega, by omega⟩)
    rw [HS.out.2.2.2] at hv
    have hcl := fun (m pn pr pf : Nat) (W : World) (hR : Rnds W m pn pr pf f r) => way4_any m pn pr pf f r W hR r0 r1
    have hx : 0 ≤ (if 5000 < r ∨ r = 5000 ∧ f % 2 ≠ 0 then (1 : Int) else 0) ∧ (if 5000 < r ∨ r = 5000 ∧ f % 2 ≠ 0 then (1 : Int) else 0) ≤ 1 := by split <;> omega
    generalize (if 5000 < r ∨ r = 5000 ∧ f % 2 ≠ 0 then (1 : Int) else 0) = x at *
    have HC := Lib.hid hcl; clear hcl
    obtain ⟨x0, x1⟩ := hx
    have HW := Lib.hid hv; clear hv HV HN HK HS
    go_enter Tryd.func18, Tryd.ntmps18
    go_wp2_with (first
      | (go_at_call 23; refine (HR.out _).mono ?_; rintro e w' ⟨rfl, rfl⟩)
      | (go_at_call 33; refine (HP.out _).mono ?_; rintro e w1 ⟨rfl, n, hn⟩; have B1 := Lib.hid (show Below w.heap.size w w1 from hn ▸ below_drewN (Below.refl _ _) n); clear hn)
      | (go_at_call 34; refine (roundings_any _ _ _).mono ?_; rintro e w2 ⟨m, pn, pr, pf, rfl, hR, hb⟩; have B2 := Lib.hid (B1.out.trans (hb.mono B1.out.size)); have HM := Lib.hid hR; have hlk := run_lookup_hit Tryd.underlying69 Tryd.underlying5 hR.map 4 3 _ (by simp [rEs, Instr.findNow, Instr.sameNow]; rfl); clear hR hb)
      | (go_at_call 44; refine (HC.out m pn pr pf _ HM.out).mono ?_; rintro e w' ⟨rfl, rfl⟩))
    go_ret2
    exact ⟨ret_two (by rw [HW.out.1]) HW.out.2.symm, B2.out⟩
  · have hno : Mo.shOk a s way = false := by
      rw [Bool.eq_false_iff]
      exact fun x => hw (HK.out.1 x).2.2
    have HW := Lib.hid (HN.out hno); clear hno HV HN HK HS
    have n1 : (way == 1) = false := by rw [beq_eq_false_iff_ne]; omega
    have n2 : (way == 2) = false := by rw [beq_eq_false_iff_ne]; omega
    have n3 : (way == 3) = false := by rw [beq_eq_false_iff_ne]; omega
    have n4 : (way == 4) = false := by rw [beq_eq_false_iff_ne]; omega
    have hfn : ∀ pn pr pf, Instr.findNow (.int .u8) (.int .u8 way) (rEs pn pr pf).toList 0 = some none := by
      intro pn pr pf
      simp [rEs, Instr.findNow, Instr.sameNow, n1, n2, n3, n4]
    have HF := Lib.hid hfn; clear hfn n1 n2 n3 n4 hw
    go_enter Tryd.func18, Tryd.ntmps18
    go_wp2_with (first
      | (go_at_call 23; refine (HR.out _).mono ?_; rintro e w' ⟨rfl, rfl⟩)
      | (go_at_call 33; refine (HP.out _).mono ?_; rintro e w1 ⟨rfl, n, hn⟩; have B1 := Lib.hid (show Below w.heap.size w w1 from hn ▸ below_drewN (Below.refl _ _) n); clear hn)
      | (go_at_call 34; refine (roundings_any _ _ _).mono ?_; rintro e w2 ⟨m, pn, pr, pf, rfl, hR, hb⟩; have B2 := Lib.hid (B1.out.trans (hb.mono B1.out.size)); have hlk := run_lookup_miss Tryd.underlying69 Tryd.underlying5 hR.map way _ (zeroFunc w2) (HF.out pn pr pf); clear hR hb))
    go_ret2
    exact ⟨ret_two HW.out.1.symm HW.out.2.symm, B2.out⟩

theorem share_any (a s way : Int) (w : World) (v0 : 0 ≤ way) (v1 : way ≤ 255) :
    Calls Tryd.prog 18 #[.int .i64 a, .int .i64 s, .int .u8 way] w (PostSh a s way w) := by
  by_cases h : (-1000000000000000 ≤ a ∧ a ≤ 1000000000000000) ∧ (0 ≤ s ∧ s ≤ 10000)
  · exact share_yes a s way w h.1.1 h.1.2 h.2.1 h.2.2 v0 v1
  · exact share_no a s way w h

end Go.Proofs.YtbbmpjndalkgbaaDoor
