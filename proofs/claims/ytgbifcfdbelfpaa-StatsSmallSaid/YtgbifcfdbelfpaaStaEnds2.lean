/-
  The walk of the law's ends: trials and lists at their limits.
-/
import Derived.Test.YtgbifcfdbelfpaaStaEnds
namespace Go.Proofs.Ytgbifcfdbelfpaa
open Go.RowKit
set_option linter.unusedVariables false

theorem bel_drop {W w w' : World} (h : Below W.heap.size W w) (h2 : Below w.heap.size w w') : Below W.heap.size W w' := h.trans (h2.mono h.size)

set_option maxRecDepth 100000 in
set_option maxHeartbeats 16000000 in
theorem ends_any (w : World) : Calls Try.prog 18 #[] w (PostT' w) := by
  go_enter Try.func18, Try.ntmps18
  go_wp2_with fail
  go_loopw [1] (fun nv wr => ∃ n : Int, 499 ≤ n ∧ n ≤ 502 ∧ nv = .int .i64 n ∧ Hid (Below w.heap.size w wr)) (fun nv _ => (502 - intOf nv).toNat)
  case atStart => exact ⟨499, by omega, by omega, rfl, Lib.hid (Below.refl _ _)⟩
  case round =>
    obtain ⟨n, hn0, hn1, rfl, HB⟩ := hrel
    by_cases he : n = 502
    · subst he
      go_wp2_with fail
      go_loopw [13] (fun nv wx => ∃ N : Nat, 9999 ≤ N ∧ N ≤ 10002 ∧ nv = .int .i64 N ∧ Hid (Below w.heap.size w wx)) (fun nv _ => 10002 - (intOf nv).toNat)
      case atStart => exact ⟨9999, by omega, by omega, rfl, HB⟩
      case round =>
        obtain ⟨N, hN0, hN1, rfl, HX⟩ := hrel
        by_cases hE : N = 10002
        · subst hE
          have AW := Lib.hid (awake_any wr)
          go_wp2_with (go_at_call 14; (with_reducible refine (AW.out).mono ?_); rintro e x1 ⟨rfl, hb⟩; have B1 := Lib.hid (bel_drop HX.out hb); clear hb)
          go_ret
          exact ⟨rfl, B1.out⟩
        · have i0 : (N : Int) ≤ 10001 := by omega
          have i1 : (0 : Int) ≤ (N : Int) := by omega
          have i2 : (9999 : Int) ≤ (N : Int) := by omega
          go_wp2_with (at_make; refine wpList_mkI _ rfl _ _ rfl N _ _ rfl rfl ?c1 ?c2 ?c3 ?_)
          case c1 => first | rfl | omega
          case c2 => first | rfl | omega
          case c3 => omega
          intro w1 hB hG
          obtain ⟨g, hg⟩ : ∃ g, wr.heap.size = g := ⟨_, rfl⟩
          rw [hg] at hB ⊢
          have HG := Lib.hid ((Below.refl _ _).grown hG (Nat.le_refl _) (fun k hk => by cases hk) : Below wr.heap.size wr w1)
          have HG1 := Lib.hid hg
          have HF := Lib.hid (show Fall w1 g N 0 from ⟨_, by simp, hB, fun j hj => by omega⟩)
          clear hB hG hg
          go_wp2_with fail
          obtain ⟨wq, rfl⟩ : ∃ W, W = wr := ⟨_, rfl⟩
          go_loopw [121] (fun iv wx => ∃ k : Nat, k ≤ N ∧ iv = .int .i64 k ∧ Hid (Fall wx g N k) ∧ Hid (Below wq.heap.size wq wx)) (fun iv _ => N - (intOf iv).toNat)
          case atStart => exact ⟨0, by omega, rfl, HF, HG⟩
          case round =>
            obtain ⟨k, hk, rfl, HFk, HBk⟩ := hrel
            have j0 : (0 : Int) ≤ (k : Int) := by omega
            by_cases hkN : k = N
            · subst hkN
              have HBW := Lib.hid (HX.out.trans (HBk.out.mono HX.out.size))
              by_cases hM : k = 10001
              · have Q1 := Lib.hid (fun V => quantile_many (some ⟨g, 0, none⟩) k k 10000 V (by omega) (by omega))
                have Q2 := Lib.hid (fun V => quantile_many (some ⟨g, 0, none⟩) k k 1 V (by omega) (by omega))
                have i3 : (10000 : Int) < (k : Int) := by omega
                have HM := Lib.hid hM
                clear hM
                go_wp2_with (first
                  | (go_at_call 37; (with_reducible refine (Q1.out _).mono ?_); rintro e x1 ⟨rfl, hb⟩; have B1 := Lib.hid (HBW.out.trans (hb.mono HBW.out.size)); clear hb)
                  | (go_at_call 37; (with_reducible refine (Q2.out _).mono ?_); rintro e x2 ⟨rfl, hb⟩; have B2 := Lib.hid (B1.out.trans (hb.mono B1.out.size)); clear hb))
                have hM := HM.out
                exact ⟨⟨k + 1, by omega, by omega, by go_num, B2⟩, by simp [intOf]; omega⟩
              · obtain ⟨q1, q2⟩ := fall_ok HFk.out (by omega) (by omega)
                have Q1 := Lib.hid q1; have Q2 := Lib.hid q2
                have i3 : (k : Int) ≤ 10000 := by omega
                clear q1 q2 hM
                go_wp2_with (first
                  | (go_at_call 37; (with_reducible refine (Q1.out _ (Below.refl _ _)).mono ?_); rintro e x1 ⟨rfl, hb⟩; have BQ := Lib.hid hb; have B1 := Lib.hid (HBW.out.trans (hb.mono HBW.out.size)); clear hb)
                  | (go_at_call 37; (with_reducible refine (Q2.out _ BQ.out).mono ?_); rintro e x2 ⟨rfl, hb⟩; have B2 := Lib.hid (B1.out.trans (hb.mono B1.out.size)); clear hb))
                exact ⟨⟨k + 1, by omega, by omega, by go_num, B2⟩, by simp [intOf]; omega⟩
            · obtain ⟨f1, ⟨z, f2⟩, f3⟩ := HFk.out.step (show k < N by omega)
              have F1 := Lib.hid f1
              have HG2 := HG1.out
              have HBs := Lib.hid (HBk.out.grown (grown_set wr ⟨g, k, none⟩ (.int .i64 (-(k : Int)))) HBk.out.size (fun j hj => by cases hj; show wq.heap.size ≤ g; omega))
              have j1 : (k : Int) < (N : Int) := by omega
              have j2 : (k : Int) ≤ 10001 := by omega
              clear f1 hkN HG2
              go_wp2_with fail
              exact ⟨⟨k + 1, by omega, by go_num, F1, HBs⟩, by simp [intOf]; omega⟩
    · by_cases h5 : n = 501
      · subst h5
        have C1 := Lib.hid (fun V => choose_err 501 250 3 V (by decide) rfl)
        have C2 := Lib.hid (fun V => upper_err 501 501 9999 3 V (by decide) rfl)
        have C3 := Lib.hid (fun V => lower_err 501 0 10000 3 V (by decide) rfl)
        have C4 := Lib.hid (fun V => least_err 501 501 500 3 V (by decide) rfl)
        have C5 := Lib.hid (fun V => greatest_err 501 501 500 3 V (by decide) rfl)
        clear hn0 hn1 he
        go_wp2_with (first
          | (go_at_call 32; (with_reducible refine (C1.out _).mono ?_); rintro e x1 ⟨rfl, hb⟩; have B1 := Lib.hid (HB.out.trans (hb.mono HB.out.size)); clear hb)
          | (go_at_call 28; (with_reducible refine (C2.out _).mono ?_); rintro e x2 ⟨rfl, hb⟩; have B2 := Lib.hid (B1.out.trans (hb.mono B1.out.size)); clear hb)
          | (go_at_call 29; (with_reducible refine (C3.out _).mono ?_); rintro e x3 ⟨rfl, hb⟩; have B3 := Lib.hid (B2.out.trans (hb.mono B2.out.size)); clear hb)
          | (go_at_call 23; (with_reducible refine (C4.out _).mono ?_); rintro e x4 ⟨rfl, hb⟩; have B4 := Lib.hid (B3.out.trans (hb.mono B3.out.size)); clear hb)
          | (go_at_call 24; (with_reducible refine (C5.out _).mono ?_); rintro e x5 ⟨rfl, hb⟩; have B5 := Lib.hid (B4.out.trans (hb.mono B4.out.size)); clear hb))
        exact ⟨⟨502, by omega, by omega, rfl, B5⟩, by simp [intOf]⟩
      · obtain ⟨n, rfl⟩ : ∃ m : Nat, n = (m : Int) := ⟨n.toNat, by omega⟩
        have h5' : n = 499 ∨ n = 500 := by omega
        have C1 := Lib.hid (fun V => end_choose n V (by omega) (by omega))
        have C2 := Lib.hid (fun V => end_upper n V (by omega))
        have C3 := Lib.hid (fun V => end_lower n V (by omega) (by omega))
        have C4 := Lib.hid (fun V => end_least n V h5')
        have C5 := Lib.hid (fun V => end_great n V (by omega))
        have i2 : (n : Int) ≤ 500 := by omega
        have i0 : (499 : Int) ≤ (n : Int) := by omega
        clear h5 h5' he hn0 hn1
        go_wp2_with (first
          | (go_at_call 32; (with_reducible refine (C1.out _).mono ?_); rintro e x1 ⟨A1, c1, l1, rfl, p1, q1, hb⟩; have B1 := Lib.hid (HB.out.trans (hb.mono HB.out.size)); have p1' : (0 : Int) < (l1 : Int) := (by omega); have p5' : ((l1 : Int) == 0) = false := (by rw [beq_eq_false_iff_ne]; omega); have p2' : (l1 : Int) ≤ 1024 := (by omega); clear hb)
          | (go_at_call 28; (with_reducible refine (C2.out _).mono ?_); rintro e x2 ⟨A2, c2, l2, rfl, p2, q2, hb⟩; have B2 := Lib.hid (B1.out.trans (hb.mono B1.out.size)); have p3' : (0 : Int) < (l2 : Int) := (by omega); have p6' : ((l2 : Int) == 0) = false := (by rw [beq_eq_false_iff_ne]; omega); have p4' : (l2 : Int) ≤ 1024 := (by omega); clear hb)
          | (go_at_call 29; (with_reducible refine (C3.out _).mono ?_); rintro e x3 ⟨A3, c3, rfl, hb⟩; have B3 := Lib.hid (B2.out.trans (hb.mono B2.out.size)); clear hb)
          | (go_at_call 23; (with_reducible refine (C4.out _).mono ?_); rintro e x4 ⟨rfl, hb⟩; have B4 := Lib.hid (B3.out.trans (hb.mono B3.out.size)); clear hb)
          | (go_at_call 24; (obtain ⟨z5, hz5⟩ := C5.out x4; with_reducible refine hz5.mono ?_); rintro e x5 ⟨rfl, hb⟩; have B5 := Lib.hid (B4.out.trans (hb.mono B4.out.size)); clear hb))
        exact ⟨⟨(n : Int) + 1, by omega, by omega, by go_num, B5⟩, by simp [intOf]; omega⟩

end Go.Proofs.Ytgbifcfdbelfpaa
