/-
  The walk of the reference's share.
-/
import Derived.Test.YtbbmpjndalkgbaaDoorMonRef2
import Derived.Test.YtbbmpjndalkgbaaDoorMonWalk3
namespace Go.Proofs.YtbbmpjndalkgbaaDoor
open Go.RowKit
set_option linter.unusedVariables false

theorem half_sign (a s : Int) (s0 : 0 ≤ s) (h : a * s % 10000 = 5000) : (0 < a ↔ 0 ≤ a * s / 10000) := by
  have e := Int.mul_ediv_add_emod (a * s) 10000
  constructor
  · intro h0
    have := Int.mul_nonneg (show 0 ≤ a by omega) s0
    omega
  · intro h0
    by_cases c : 0 < a
    · exact c
    · have := Int.mul_nonneg (show 0 ≤ -a by omega) s0
      rw [Int.neg_mul] at this
      omega
theorem tmod2' (E : Int) : (E.tmod 2 = 0) = (E % 2 = 0) := by
  have e := Int.tmod_def E 2
  apply propext
  by_cases c : 0 ≤ E
  · rw [Int.tmod_eq_emod_of_nonneg c]
  · have := Int.neg_tmod (-E) 2
    rw [Int.neg_neg] at this
    rw [this, Int.tmod_eq_emod_of_nonneg (by omega)]
    omega

def PostRS (a s way : Int) (w : World) (e : Ending) (w' : World) : Prop :=
  e = .returned (.tuple #[.int .i64 (Mo.shV a s way), .int .i64 (Mo.shE a s way)]) ∧ ∃ n, w' = w.drewN n

set_option maxRecDepth 100000 in
set_option maxHeartbeats 1500000 in
theorem rshare_any (a s way : Int) (w : World) (v0 : 0 ≤ way) (v1 : way ≤ 255) :
    Calls Tryd.prog 29 #[.int .i64 a, .int .i64 s, .int .u8 way] w (PostRS a s way w) := by
  have hR := fun W => rRight_any a W
  cases hrt : Mo.rt a
  · have hno : Mo.shOk a s way = false := by simp [Mo.shOk, hrt]
    obtain ⟨n1, n2⟩ := Mo.sh_no hno
    rw [hrt] at hR
    have HR := Lib.hid hR; have N1 := Lib.hid n1; have N2 := Lib.hid n2
    clear hR n1 n2 hno hrt
    go_enter Tryd.func29, Tryd.ntmps29
    go_wp2_with (go_at_call 25; (with_reducible refine (HR.out _).mono ?_); rintro e w' ⟨rfl, rfl⟩)
    go_ret2
    exact ⟨ret_two N1.out.symm N2.out.symm, 0, rfl⟩
  rw [hrt] at hR
  have HR := Lib.hid hR
  clear hR
  by_cases hok : 0 ≤ s ∧ s ≤ 10000 ∧ 1 ≤ way ∧ way ≤ 4
  · obtain ⟨s0, s1, y0, y1⟩ := hok
    have hab := (Mo.rt_iff a).1 hrt
    have hk := Mo.sh_ok (Mo.shOk_mk hrt s0 s1 y0 y1)
    have hp := fun W => rpart_any a s 10000 W (by omega) (by omega) s0 s1 (by omega) hab.1 hab.2
    have hsg := half_sign a s s0
    have hbd := Mo.part_bd a s 10000 (by omega) s0 s1 hab.1 hab.2
    have hr0 : 0 ≤ a * s % 10000 ∧ a * s % 10000 < 10000 := by omega
    have h1 := Mo.shS_1 a s; have h2 := Mo.shS_2 a s; have h3 := Mo.shS_3 a s; have h4 := Mo.shS_4 a s
    generalize a * s / 10000 = Q at *
    generalize a * s % 10000 = R at *
    have HP := Lib.hid hp; have HK := Lib.hid hk
    have htq := tmod2' Q
    obtain ⟨q0, q1⟩ := hbd
    obtain ⟨r0, r1⟩ := hr0
    clear hp hk hrt hab
    have hway : way = 1 ∨ way = 2 ∨ way = 3 ∨ way = 4 := by omega
    have hcase : (Mo.shS a s way = Q ∧ (way = 1 ∨ (way = 2 ∧ decide (0 < R) = false) ∨ (way = 3 ∧ ((decide (5000 < R) = false ∧ (R == 5000) = false) ∨ (decide (5000 < R) = false ∧ (R == 5000) = true ∧ decide (0 < a) = false))) ∨ (way = 4 ∧ ((decide (5000 < R) = false ∧ (R == 5000) = false) ∨ (decide (5000 < R) = false ∧ (R == 5000) = true ∧ (Q.tmod 2 != 0) = false))))) ∨
        (Mo.shS a s way = Q + 1 ∧ ((way = 2 ∧ decide (0 < R) = true) ∨ (way = 3 ∧ (decide (5000 < R) = true ∨ (decide (5000 < R) = false ∧ (R == 5000) = true ∧ decide (0 < a) = true))) ∨ (way = 4 ∧ (decide (5000 < R) = true ∨ (decide (5000 < R) = false ∧ (R == 5000) = true ∧ (Q.tmod 2 != 0) = true))))) := by
      rcases hway with rfl | rfl | rfl | rfl
      · exact .inl ⟨h1, .inl rfl⟩
      · by_cases c : 0 < R
        · exact .inr ⟨by rw [h2, if_pos c], .inl ⟨rfl, decide_eq_true c⟩⟩
        · exact .inl ⟨by rw [h2, if_neg c]; omega, .inr (.inl ⟨rfl, decide_eq_false c⟩)⟩
      · by_cases c : 5000 < R
        · exact .inr ⟨by rw [h3, if_pos (.inl c)], .inr (.inl ⟨rfl, .inl (decide_eq_true c)⟩)⟩
        · by_cases c2 : R = 5000
          · by_cases c3 : 0 < a
            · exact .inr ⟨by rw [h3, if_pos (.inr ⟨c2, (hsg c2).1 c3⟩)], .inr (.inl ⟨rfl, .inr ⟨decide_eq_false c, beq_iff_eq.2 c2, decide_eq_true c3⟩⟩)⟩
            · exact .inl ⟨by rw [h3, if_neg (fun z => z.elim (fun z => c z) (fun z => c3 ((hsg c2).2 z.2)))]; omega, .inr (.inr (.inl ⟨rfl, .inr ⟨decide_eq_false c, beq_iff_eq.2 c2, decide_eq_false c3⟩⟩))⟩
          · exact .inl ⟨by rw [h3, if_neg (fun z => z.elim (fun z => c z) (fun z => c2 z.1))]; omega, .inr (.inr (.inl ⟨rfl, .inl ⟨decide_eq_false c, beq_eq_false_iff_ne.2 c2⟩⟩))⟩
      · by_cases c : 5000 < R
        · exact .inr ⟨by rw [h4, if_pos (.inl c)], .inr (.inr ⟨rfl, .inl (decide_eq_true c)⟩)⟩
        · by_cases c2 : R = 5000
          · by_cases c3 : Q % 2 = 0
            · exact .inl ⟨by rw [h4, if_neg (fun z => z.elim (fun z => c z) (fun z => z.2 c3))]; omega, .inr (.inr (.inr ⟨rfl, .inr ⟨decide_eq_false c, beq_iff_eq.2 c2, by rw [bne_eq_false_iff_eq, htq]; exact c3⟩⟩))⟩
            · exact .inr ⟨by rw [h4, if_pos (.inr ⟨c2, c3⟩)], .inr (.inr ⟨rfl, .inr ⟨decide_eq_false c, beq_iff_eq.2 c2, by rw [bne_iff_ne, Ne, htq]; exact c3⟩⟩)⟩
          · exact .inl ⟨by rw [h4, if_neg (fun z => z.elim (fun z => c z) (fun z => c2 z.1))]; omega, .inr (.inr (.inr ⟨rfl, .inl ⟨decide_eq_false c, beq_eq_false_iff_ne.2 c2⟩⟩))⟩
    clear h1 h2 h3 h4 htq hsg hway
    rcases hcase with ⟨hS, hc⟩ | ⟨hS, hc⟩
    · have HS := Lib.hid hS; clear hS
      rcases hc with rfl | ⟨rfl, c⟩ | ⟨rfl, ⟨c, c2⟩ | ⟨c, c2, c3⟩⟩ | ⟨rfl, ⟨c, c2⟩ | ⟨c, c2, c3⟩⟩
      all_goals
        go_enter Tryd.func29, Tryd.ntmps29
        go_wp2_with (first
          | (go_at_call 25; (with_reducible refine (HR.out _).mono ?_); rintro e w' ⟨rfl, rfl⟩)
          | (go_at_call 39; (with_reducible refine (HP.out _).mono ?_); rintro e w' ⟨rfl, nn, rfl⟩))
        go_ret2
        exact ⟨ret_two (by rw [HK.out.1, HS.out]) HK.out.2.symm, _, rfl⟩
    · have HS := Lib.hid hS; clear hS
      rcases hc with ⟨rfl, c⟩ | ⟨rfl, c | ⟨c, c2, c3⟩⟩ | ⟨rfl, c | ⟨c, c2, c3⟩⟩
      all_goals
        go_enter Tryd.func29, Tryd.ntmps29
        go_wp2_with (first
          | (go_at_call 25; (with_reducible refine (HR.out _).mono ?_); rintro e w' ⟨rfl, rfl⟩)
          | (go_at_call 39; (with_reducible refine (HP.out _).mono ?_); rintro e w' ⟨rfl, nn, rfl⟩))
        go_ret2
        exact ⟨ret_two (by rw [HK.out.1, HS.out]) HK.out.2.symm, _, rfl⟩
  · have hno : Mo.shOk a s way = false := by
      rw [Bool.eq_false_iff]; intro hc; have := (Mo.shOk_iff _ _ _).1 hc; omega
    obtain ⟨n1, n2⟩ := Mo.sh_no hno
    have N1 := Lib.hid n1; have N2 := Lib.hid n2
    clear n1 n2 hno hrt
    have hc : s < 0 ∨ (0 ≤ s ∧ 10000 < s) ∨ (0 ≤ s ∧ s ≤ 10000 ∧ way < 1) ∨ (0 ≤ s ∧ s ≤ 10000 ∧ 1 ≤ way ∧ 4 < way) := by omega
    clear hok
    rcases hc with c | ⟨c, c2⟩ | ⟨c, c2, c3⟩ | ⟨c, c2, c3, c4⟩
    all_goals
      go_enter Tryd.func29, Tryd.ntmps29
      go_wp2_with (go_at_call 25; (with_reducible refine (HR.out _).mono ?_); rintro e w' ⟨rfl, rfl⟩)
      go_ret2
      exact ⟨ret_two N1.out.symm N2.out.symm, 0, rfl⟩

end Go.Proofs.YtbbmpjndalkgbaaDoor
