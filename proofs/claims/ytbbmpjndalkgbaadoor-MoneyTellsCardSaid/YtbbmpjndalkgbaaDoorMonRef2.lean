/-
  The walk of the reference's part: a product divided bit by bit.
-/
import Derived.Test.YtbbmpjndalkgbaaDoorMonRef1
namespace Go.Proofs.YtbbmpjndalkgbaaDoor
open Go.RowKit
set_option linter.unusedVariables false

theorem step_one (a d q r u ones rest : Int) (h : d * q + r = a * u) (e : d * ones + rest = a) : d * (2 * q + ones) + (2 * r + rest) = a * (2 * u + 1) := by
  rw [Int.mul_add, Int.mul_add, Int.mul_one, show d * (2 * q) = 2 * (d * q) from Int.mul_left_comm .., show a * (2 * u) = 2 * (a * u) from Int.mul_left_comm ..]
  omega
theorem step_nil (a d q r u : Int) (h : d * q + r = a * u) : d * (2 * q) + 2 * r = a * (2 * u) := by
  rw [show d * (2 * q) = 2 * (d * q) from Int.mul_left_comm .., show a * (2 * u) = 2 * (a * u) from Int.mul_left_comm ..]
  omega
theorem step_in (d q r X : Int) (h : d * q + r = X) : d * (q + 1) + (r - d) = X := by
  rw [Int.mul_add, Int.mul_one]; omega

set_option maxRecDepth 100000 in
set_option maxHeartbeats 1500000 in
theorem rpart_any (a p d : Int) (w : World) (h : 0 < d) (hd : d ≤ 4096000000) (p0 : 0 ≤ p) (p1 : p ≤ d) (p2 : p ≤ 1000000) (a0 : -1000000000000000 ≤ a) (a1 : a ≤ 1000000000000000) :
    Calls Tryd.prog 39 #[.int .i64 a, .int .i64 p, .int .i64 d] w fun e w' => e = .returned (.tuple #[.int .i64 (a * p / d), .int .i64 (a * p % d)]) ∧ ∃ n, w' = w.drewN n := by
  have hdn := down_any a d w h hd a0 a1
  have bd := Mo.part_bd a 1 d h (by omega) (by omega) a0 a1
  rw [Int.mul_one] at bd
  have em := Int.mul_ediv_add_emod a d
  have r0 := Int.emod_nonneg a (show d ≠ 0 by omega)
  have r1 := Int.emod_lt_of_pos a h
  generalize a / d = ones at *
  generalize a % d = rest at *
  have DN := Lib.hid hdn
  have HX : Hid (∀ u : Int, 0 ≤ u → u ≤ d → -(1000000000000000 * d) ≤ a * u ∧ a * u ≤ 1000000000000000 * d) := fun u u0 u1 => Mo.prod_bd u0 u1 (by omega) a0 a1
  have EM := Lib.hid em
  clear hdn em
  obtain ⟨o0, o1⟩ := bd
  go_enter Tryd.func39, Tryd.ntmps39
  go_wp2_with (go_at_call 54; (with_reducible refine DN.out.mono ?_); rintro e x1 ⟨rfl, n, rfl⟩)
  go_loop [10, 11, 12] (fun q r b => ∃ (q' r' b' : Int), q = .int .i64 q' ∧ r = .int .i64 r' ∧ b = .int .i64 b' ∧ Hid (Mo.isBit b') ∧ Hid (d * q' + r' = a * Mo.up p b') ∧ 0 ≤ r' ∧ r' < d) (fun _ _ b => (intOf b).toNat)
  case atStart =>
    have h0 : Mo.up p 1048576 = 0 := by simp [Mo.up]; omega
    exact ⟨0, 0, 1048576, rfl, rfl, rfl, .inr ⟨20, by omega, rfl⟩, Lib.hid (by rw [h0]; simp), by omega, by omega⟩
  case round =>
    obtain ⟨q, r, b, rfl, rfl, rfl, HB, HE, rr0, rr1⟩ := hrel
    have hbb := Mo.isBit_bd HB.out
    by_cases hb : 0 < b
    · have hu := Mo.up_step p b hb
      have hh := Mo.isBit_half HB.out hb
      have hpb : 0 ≤ p / b := Int.ediv_nonneg p0 (by omega)
      have hpb2 : p / b ≤ p := Int.ediv_le_self b p0
      have hub : 0 ≤ Mo.up p b ∧ Mo.up p b ≤ d := by omega
      have hx := HX.out (Mo.up p b) hub.1 hub.2
      have hq := Mo.quot_bd (M := 1000000000000000) h HE.out rr0 (by omega) hx.1 hx.2
      have hy := HX.out (p / b) hpb (by omega)
      have hn : p / b % 2 = 0 ∨ p / b % 2 = 1 := by omega
      have H1 := Lib.hid (step_one a d q r _ ones rest HE.out EM.out)
      have H0 := Lib.hid (step_nil a d q r _ HE.out)
      have HN := Lib.hid hh.1
      have HU := Lib.hid (hh.2 p)
      generalize Mo.up p b = u at *
      generalize hP : p / b = P at *
      have hdb : p.tdiv b = P := by rw [Int.tdiv_eq_ediv_of_nonneg p0]; exact hP
      have hmod : P.tmod 2 = P % 2 := Int.tmod_eq_emod_of_nonneg hpb
      have hb0 : (b == 0) = false := by rw [beq_eq_false_iff_ne]; omega
      obtain ⟨q0, q1⟩ := hq
      have HPU := Lib.hid hu
      clear hh hx hP hu
      rcases hn with hn | hn
      all_goals
        rw [hn] at hmod
        have HMN := Lib.hid hn
        clear hn
        go_wp2_with fail
        have HS := Lib.hid (show (P % 2 = 0 → d * (2 * q) + 2 * r = a * P) ∧ (P % 2 = 1 → d * (2 * q + ones) + (2 * r + rest) = a * P) from ⟨fun z => by rw [show P = 2 * u by have := HPU.out; omega]; exact H0.out, fun z => by rw [show P = 2 * u + 1 by have := HPU.out; omega]; exact H1.out⟩)
        go_loop [10, 11] (fun q r => ∃ (q' r' : Int), q = .int .i64 q' ∧ r = .int .i64 r' ∧ Hid (d * q' + r' = a * P) ∧ 0 ≤ r' ∧ r' < 3 * d) (fun _ r => (intOf r).toNat)
        case atStart =>
          first
            | exact ⟨_, _, rfl, rfl, Lib.hid (HS.out.1 HMN.out), by omega, by omega⟩
            | exact ⟨_, _, rfl, rfl, Lib.hid (HS.out.2 HMN.out), by omega, by omega⟩
        case round =>
          obtain ⟨q', r', rfl, rfl, HE', s0, s1⟩ := hrel
          have hx' := HX.out P hpb (by omega)
          have hq' := Mo.quot_bd (M := 1000000000000000) h HE'.out s0 s1 hx'.1 hx'.2
          obtain ⟨q0', q1'⟩ := hq'
          clear hx'
          by_cases hr : d ≤ r'
          · go_wp2_with fail
            exact ⟨⟨q' + 1, r' - d, rfl, rfl, Lib.hid (step_in d q' r' _ HE'.out), by omega, by omega⟩, by simp [intOf]; omega⟩
          · go_wp2_with fail
            exact ⟨⟨q', r', b / 2, rfl, rfl, rfl, HN, Lib.hid (by rw [HU.out]; exact HE'.out), s0, by omega⟩, by simp [intOf]; omega⟩
    · have hb0 : b = 0 := by omega
      subst hb0
      have hup : Mo.up p 0 = p := by simp [Mo.up]
      have he := HE.out
      rw [hup] at he
      have hdm := Mo.divmod_of h he rr0 rr1
      go_wp2_with fail
      go_ret2
      exact ⟨by first | exact ret_two hdm.1.symm hdm.2.symm | rfl | simp [hdm.1, hdm.2], _, rfl⟩

end Go.Proofs.YtbbmpjndalkgbaaDoor
