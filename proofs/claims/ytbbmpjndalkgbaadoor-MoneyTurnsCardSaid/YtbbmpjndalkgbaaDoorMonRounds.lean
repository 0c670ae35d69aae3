/-
  The walk of the law MoneyRounds.
-/
import Derived.Test.YtbbmpjndalkgbaaDoorMonRdy
namespace Go.Proofs.YtbbmpjndalkgbaaDoor
open Go.RowKit
set_option linter.unusedVariables false

theorem tmod2 (E : Int) : (E.tmod 2 == 0) = decide (E % 2 = 0) := by
  have t := Mo.tdown E 2 (by omega)
  have t1 : E.tmod 2 < 2 := Int.tmod_lt_of_pos _ (by omega)
  have t2 : (-E).tmod 2 < 2 := Int.tmod_lt_of_pos _ (by omega)
  rw [Int.neg_tmod] at t2
  rw [Bool.eq_iff_iff, beq_iff_eq, decide_eq_true_eq]; omega
theorem share_s (a s way : Int) (h : Mo.rt a = true) (s0 : 0 ≤ s) (s1 : s ≤ 10000) (v0 : 1 ≤ way) (v1 : way ≤ 4) (W : World) :
    Calls Tryd.prog 18 #[.int .i64 a, .int .i64 s, .int .u8 way] W fun e w' => e = .returned (.tuple #[.int .i64 (Mo.shS a s way), .int .i64 0]) ∧ Below W.heap.size W w' :=
  share_is a s way _ W (by omega) (by omega) (Mo.sh_ok (Mo.shOk_mk h s0 s1 v0 v1))

set_option maxRecDepth 100000 in
set_option maxHeartbeats 4000000 in
theorem walk_moneyRounds (a0 : Int) (w0 : (Lit.int .i64 a0).wf = true) (a1 : Int) (w1 : (Lit.int .i64 a1).wf = true) (w : World) (hw : Rdy w) :
    Calls Tryd.prog 5 #[.int .i64 a0, .int .i64 a1] w fun e w' => e = .returned (.bool true) ∧ Below w.heap.size w w' := by
  have b0 := int_bd w0
  have b1 := int_bd w1
  clear w0 w1
  have R0 := Lib.hid hw; clear hw
  have ham := fun W => amount_any a0 W b0.1 b0.2
  have hbd := amount_bd a0
  have hpk : ∀ W, Calls Tryd.prog 17 #[.int .i64 a1, .int .i64 10001] W fun e w' => e = .returned (.int .i64 (a1 % 10001)) ∧ W = w' := fun W => pick_any a1 _ W (by omega) (by omega)
  have s0 : 0 ≤ a1 % 10001 := by omega
  have s1 : a1 % 10001 ≤ 10000 := by omega
  generalize a0 % 2000000000000001 - 1000000000000000 = a at *
  generalize a1 % 10001 = s at *
  have hrt : Mo.rt a = true := (Mo.rt_iff a).2 hbd
  obtain ⟨f1, f2, f3, f4, f5⟩ := Mo.rounds a s hrt s0 s1
  have f6 := Mo.rounds_even a s s0
  have q1 := fun W => share_s a s 1 hrt s0 s1 (by omega) (by omega) W
  have q2 := fun W => share_s a s 2 hrt s0 s1 (by omega) (by omega) W
  have q3 := fun W => share_s a s 3 hrt s0 s1 (by omega) (by omega) W
  have q4 := fun W => share_s a s 4 hrt s0 s1 (by omega) (by omega) W
  have q5 := fun W => share_s a (10000 - s) 2 hrt (by omega) (by omega) (by omega) (by omega) W
  have q6 : ∀ v, 1 ≤ v → v ≤ 4 → ∀ W, Calls Tryd.prog 18 #[.int .i64 a, .int .i64 10000, .int .u8 v] W fun e w' => e = .returned (.tuple #[.int .i64 a, .int .i64 0]) ∧ Below W.heap.size W w' := by
    intro v v0 v1 W
    have := share_s a 10000 v hrt (by omega) (by omega) v0 v1 W
    rw [(Mo.whole_none a v v0 v1).1] at this
    exact this
  have q7 : ∀ v, 1 ≤ v → v ≤ 4 → ∀ W, Calls Tryd.prog 18 #[.int .i64 a, .int .i64 0, .int .u8 v] W fun e w' => e = .returned (.tuple #[.int .i64 0, .int .i64 0]) ∧ Below W.heap.size W w' := by
    intro v v0 v1 W
    have := share_s a 0 v hrt (by omega) (by omega) v0 v1 W
    rw [(Mo.whole_none a v v0 v1).2] at this
    exact this
  have bd1 := Mo.shS_bd a s 1 hrt s0 s1
  have bd2 := Mo.shS_bd a s 2 hrt s0 s1
  have bd3 := Mo.shS_bd a s 3 hrt s0 s1
  have bd4 := Mo.shS_bd a s 4 hrt s0 s1
  have bd5 := Mo.shS_bd a (10000 - s) 2 hrt (by omega) (by omega)
  generalize Mo.shS a s 1 = D at *
  generalize Mo.shS a s 2 = U at *
  generalize Mo.shS a s 3 = H at *
  generalize Mo.shS a s 4 = E at *
  generalize Mo.shS a (10000 - s) 2 = R at *
  obtain ⟨d0, d1⟩ := bd1
  obtain ⟨u0, u1⟩ := bd2
  obtain ⟨h0, h1⟩ := bd3
  obtain ⟨e0, e1⟩ := bd4
  obtain ⟨r0, r1⟩ := bd5
  obtain ⟨a0', a1'⟩ := hbd
  have g1 : decide (U < D) = false := decide_eq_false (by omega)
  have g2 : decide (D + 1 < U) = false := decide_eq_false (by omega)
  have g5 : (D + R != a) = false := by rw [bne_eq_false_iff_eq]; omega
  have gH : (H != D) = false ∨ ((H != D) = true ∧ (H != U) = false) := by
    by_cases c : H = D
    · exact .inl (by rw [bne_eq_false_iff_eq]; exact c)
    · exact .inr ⟨by rw [bne_iff_ne]; exact c, by rw [bne_eq_false_iff_eq]; omega⟩
  have gE : (E != D) = false ∨ ((E != D) = true ∧ (E != U) = false) := by
    by_cases c : E = D
    · exact .inl (by rw [bne_eq_false_iff_eq]; exact c)
    · exact .inr ⟨by rw [bne_iff_ne]; exact c, by rw [bne_eq_false_iff_eq]; omega⟩
  have gX : (H != E) = false ∨ ((H != E) = true ∧ (E.tmod 2 == 0) = true ∧ (H != 0) = true ∧ ((decide (E < H) = true ∧ decide (0 < a) = true) ∨ (decide (E < H) = false ∧ decide (0 < a) = false))) := by
    by_cases c : H = E
    · exact .inl (by rw [bne_eq_false_iff_eq]; exact c)
    · obtain ⟨y1, y2, y3⟩ := f6 c
      refine .inr ⟨by rw [bne_iff_ne]; exact c, by rw [tmod2]; exact decide_eq_true y1, by rw [bne_iff_ne]; exact y2, ?_⟩
      by_cases c2 : 0 < a
      · exact .inl ⟨decide_eq_true (y3.2 c2), decide_eq_true c2⟩
      · exact .inr ⟨decide_eq_false (fun z => c2 (y3.1 z)), decide_eq_false c2⟩
  have A0 := Lib.hid ham; have PK := Lib.hid hpk
  have Q1 := Lib.hid q1; have Q2 := Lib.hid q2; have Q3 := Lib.hid q3; have Q4 := Lib.hid q4; have Q5 := Lib.hid q5; have Q6 := Lib.hid q6; have Q7 := Lib.hid q7
  have GX := Lib.hid gX
  clear q1 q2 q3 q4 q5 q6 q7 ham hpk f1 f2 f3 f4 f5 f6 gX hrt b0 b1
  rcases gH with gH | ⟨gH, gH2⟩ <;> rcases gE with gE | ⟨gE, gE2⟩
  all_goals
    go_enter Tryd.func5, Tryd.ntmps5
    go_wp2_with (first
      | (go_at_call 11; refine (awake_any _ R0.out).mono ?_; rintro e x1 ⟨rfl, hb⟩; have B1 := Lib.hid hb; clear hb)
      | (go_at_call 13; refine (A0.out _).mono ?_; rintro e w' ⟨rfl, rfl⟩)
      | (go_at_call 17; refine (PK.out _).mono ?_; rintro e w' ⟨rfl, rfl⟩)
      | (go_at_call 18; (with_reducible refine (Q1.out _).mono ?_); rintro e x2 ⟨rfl, hb⟩; have B2 := Lib.hid (B1.out.trans (hb.mono B1.out.size)); clear hb)
      | (go_at_call 18; (with_reducible refine (Q3.out _).mono ?_); rintro e x4 ⟨rfl, hb⟩; have B4 := Lib.hid (B3.out.trans (hb.mono B3.out.size)); clear hb)
      | (go_at_call 18; (with_reducible refine (Q4.out _).mono ?_); rintro e x5 ⟨rfl, hb⟩; have B5 := Lib.hid (B4.out.trans (hb.mono B4.out.size)); clear hb)
      | (go_at_call 18; (with_reducible refine (Q2.out _).mono ?_); rintro e x3 ⟨rfl, hb⟩; have B3 := Lib.hid (B2.out.trans (hb.mono B2.out.size)); clear hb)
      | (go_at_call 18; (with_reducible refine (Q5.out _).mono ?_); rintro e x6 ⟨rfl, hb⟩; have B6 := Lib.hid (B5.out.trans (hb.mono B5.out.size)); clear hb))
    clear Q1 Q2 Q3 Q4 Q5
    go_loopw [17] (fun v wr => ∃ x : Int, 1 ≤ x ∧ x ≤ 5 ∧ v = .int .u8 x ∧ Hid (Below w.heap.size w wr)) (fun v _ => 5 - (intOf v).toNat)
    case atStart => exact ⟨1, by omega, by omega, rfl, B6⟩
    case round =>
      obtain ⟨x, z0, z1, rfl, HB⟩ := hrel
      by_cases hx : x ≤ 4
      · have Q8 := Lib.hid (Q6.out x z0 hx)
        have Q9 := Lib.hid (Q7.out x z0 hx)
        have hxw : IntKind.u8.wrap (x + 1) = x + 1 := by simp [IntKind.wrap, IntKind.bits, IntKind.signed]; omega
        go_wp2_with (first
          | (go_at_call 18; (with_reducible refine (Q8.out _).mono ?_); rintro e x2 ⟨rfl, hb⟩; have B7 := Lib.hid (HB.out.trans (hb.mono HB.out.size)); clear hb)
          | (go_at_call 18; (with_reducible refine (Q9.out _).mono ?_); rintro e x3 ⟨rfl, hb⟩; have B8 := Lib.hid (B7.out.trans (hb.mono B7.out.size)); clear hb))
        exact ⟨⟨x + 1, by omega, by omega, by first | rfl | (rw [hxw]), B8⟩, by simp [intOf]; omega⟩
      · rcases GX.out with g | ⟨g, k1, k2, ⟨k3, k4⟩ | ⟨k3, k4⟩⟩
        all_goals
          go_wp2_with fail
          go_ret
          exact ⟨rfl, HB.out⟩

end Go.Proofs.YtbbmpjndalkgbaaDoor
