/-
  The walk of the law StatsTells.
-/
import Derived.Test.YtgbifcfdbelfpaaStaRef8
import Derived.Test.YtgbifcfdbelfpaaStaBnds
namespace Go.Proofs.Ytgbifcfdbelfpaa
open Go.RowKit
set_option linter.unusedVariables false

theorem rchoose_err (n k E : Int) (w : World) (h : trErr n k true = E) (h0 : (E != 0) = true) : Calls Try.prog 41 #[.int .i64 n, .int .i64 k] w (PostErr E w) := by
  have C := Lib.hid (rwrong_is (x := 0) (lo := 0) (hi := 0) h (by simp) w)
  clear h
  go_enter Try.func41, Try.ntmps41
  go_wp2_with (go_at_call 71; (with_reducible refine C.out.mono ?_); rintro e w1 ⟨rfl, rfl⟩)
  go_ret2
  exact ⟨rfl, Below.refl _ _⟩
/-- a number and an error -/
def PostNE (z E : Int) (W : World) (e : Ending) (w' : World) : Prop := ∃ A cap l, e = .returned (.tuple #[.slice A (l : List Int).length cap, .int .i64 E]) ∧ Num w' A l z ∧ Below W.heap.size W w'
theorem ne_ok {z : Int} {W w' : World} {e : Ending} (h : PostNumE z W e w') : PostNE z 0 W e w' := h
theorem ne_err {E : Int} {W w' : World} {e : Ending} (h : PostErr E W e w') : PostNE 0 E W e w' := by
  obtain ⟨rfl, hb⟩ := h
  exact ⟨none, 0, [], rfl, ⟨RdK.nil _ _ _, Na.Can.nil, by simp, rfl⟩, hb⟩

set_option maxRecDepth 100000 in
set_option maxHeartbeats 8000000 in
theorem tells_any (n k p : Int) (w : World) : Calls Try.prog 15 #[.int .i64 n, .int .i64 k, .int .i64 p] w (PostT' w) := by
  by_cases hm : 60 < n ∧ n ≤ 500
  · obtain ⟨i0, i1⟩ := hm
    go_enter Try.func15, Try.ntmps15
    go_wp2
    go_ret
    exact ⟨rfl, Below.refl _ _⟩
  · have hs1 : ∃ (x E : Int), (∀ V, Calls Try.prog 32 #[.int .i64 n, .int .i64 k] V (PostNE x E V)) ∧ (∀ V, Calls Try.prog 41 #[.int .i64 n, .int .i64 k] V (PostNE x E V)) := by
      by_cases hE : trErr n k true = 0
      · obtain ⟨a, b, rfl, rfl, h1, h2, -⟩ := nat_of hE
        have h6 : a ≤ 300 := by omega
        exact ⟨_, 0, fun V => choose_ok a b V h2 h1, fun V => rchoose_ok a b V h6 h1⟩
      · have h0 : (trErr n k true != 0) = true := by simp [hE]
        exact ⟨0, _, fun V => (choose_err n k _ V rfl h0).mono fun _ _ => ne_err, fun V => (rchoose_err n k _ V rfl h0).mono fun _ _ => ne_err⟩
    have hs2 : ∃ (y z u F : Int), (∀ V, Calls Try.prog 22 #[.int .i64 n, .int .i64 k, .int .i64 p] V (PostNE y F V)) ∧ (∀ V, Calls Try.prog 42 #[.int .i64 n, .int .i64 k, .int .i64 p] V (PostNE y F V)) ∧ (∀ V, Calls Try.prog 28 #[.int .i64 n, .int .i64 k, .int .i64 p] V (PostNE z F V)) ∧ (∀ V, Calls Try.prog 43 #[.int .i64 n, .int .i64 k, .int .i64 p] V (PostNE z F V)) ∧ (∀ V, Calls Try.prog 29 #[.int .i64 n, .int .i64 k, .int .i64 p] V (PostNE u F V)) ∧ (∀ V, Calls Try.prog 44 #[.int .i64 n, .int .i64 k, .int .i64 p] V (PostNE u F V)) := by
      by_cases hE : trErr n k (shareB p) = 0
      · obtain ⟨a, b, rfl, rfl, h1, h2, h3⟩ := nat_of hE
        obtain ⟨h4, h5⟩ := shareB_iff.1 h3
        have h6 : a ≤ 300 := by omega
        exact ⟨_, _, _, 0, fun V => chance_ok a b p V h4 h5 h2 h1, fun V => rchance_ok a b p V h4 h5 h6 h1, fun V => upper_ok a b p V h4 h5 h2 h1, fun V => rupper_ok a b p V h4 h5 h6 h1, fun V => lower_ok a b p V h4 h5 h2 h1, fun V => rlower_ok a b p V h4 h5 h6 h1⟩
      · have h0 : (trErr n k (shareB p) != 0) = true := by simp [hE]
        exact ⟨0, 0, 0, _, fun V => (chance_err n k p _ V rfl h0).mono fun _ _ => ne_err, fun V => (rchance_err n k p _ V rfl h0).mono fun _ _ => ne_err, fun V => (upper_err n k p _ V rfl h0).mono fun _ _ => ne_err, fun V => (rupper_err n k p _ V rfl h0).mono fun _ _ => ne_err, fun V => (lower_err n k p _ V rfl h0).mono fun _ _ => ne_err, fun V => (rlower_err n k p _ V rfl h0).mono fun _ _ => ne_err⟩
    obtain ⟨x, E, h1, h2⟩ := hs1
    obtain ⟨y, z, u, F, h3, h4, h5, h6, h7, h8⟩ := hs2
    have H1 := Lib.hid h1; have H2 := Lib.hid h2; have H3 := Lib.hid h3; have H4 := Lib.hid h4
    have H5 := Lib.hid h5; have H6 := Lib.hid h6; have H7 := Lib.hid h7; have H8 := Lib.hid h8
    clear h1 h2 h3 h4 h5 h6 h7 h8
    by_cases i0 : 60 < n
    · have i1 : 500 < n := by omega
      clear hm
      go_enter Try.func15, Try.ntmps15
      go_wp2_with (first
        | (go_at_call 32; (with_reducible refine (H1.out _).mono ?_); rintro e w1 ⟨A1, c1, l1, rfl, h, hb⟩; have N1 := Lib.hid h; have B1 := Lib.hid hb; clear h hb)
        | (go_at_call 41; (with_reducible refine (H2.out _).mono ?_); rintro e w2 ⟨A2, c2, l2, rfl, h, hb⟩; have N2 := Lib.hid h; have B2 := Lib.hid (B1.out.trans (hb.mono B1.out.size)); have N1b := Lib.hid (N1.out.below hb); clear h hb)
        | (go_at_call 30; (with_reducible refine (sameT A1 A2 c1 c2 l1 l2 _ _ w2 N1b.out N2.out rfl).mono ?_); rintro e w3 ⟨rfl, hb⟩; have B3 := Lib.hid (B2.out.trans (hb.mono B2.out.size)); clear hb)
        | (go_at_call 22; (with_reducible refine (H3.out _).mono ?_); rintro e w4 ⟨A4, c4, l4, rfl, h, hb⟩; have N4 := Lib.hid h; have B4 := Lib.hid (B3.out.trans (hb.mono B3.out.size)); clear h hb)
        | (go_at_call 42; (with_reducible refine (H4.out _).mono ?_); rintro e w5 ⟨A5, c5, l5, rfl, h, hb⟩; have N5 := Lib.hid h; have B5 := Lib.hid (B4.out.trans (hb.mono B4.out.size)); have N4b := Lib.hid (N4.out.below hb); clear h hb)
        | (go_at_call 30; (with_reducible refine (sameT A4 A5 c4 c5 l4 l5 _ _ w5 N4b.out N5.out rfl).mono ?_); rintro e w6 ⟨rfl, hb⟩; have B6 := Lib.hid (B5.out.trans (hb.mono B5.out.size)); clear hb)
        | (go_at_call 28; (with_reducible refine (H5.out _).mono ?_); rintro e w7 ⟨A7, c7, l7, rfl, h, hb⟩; have N7 := Lib.hid h; have B7 := Lib.hid (B6.out.trans (hb.mono B6.out.size)); clear h hb)
        | (go_at_call 43; (with_reducible refine (H6.out _).mono ?_); rintro e w8 ⟨A8, c8, l8, rfl, h, hb⟩; have N8 := Lib.hid h; have B8 := Lib.hid (B7.out.trans (hb.mono B7.out.size)); have N7b := Lib.hid (N7.out.below hb); clear h hb)
        | (go_at_call 29; (with_reducible refine (H7.out _).mono ?_); rintro e w9 ⟨A9, c9, l9, rfl, h, hb⟩; have N9 := Lib.hid h; have B9 := Lib.hid (B8.out.trans (hb.mono B8.out.size)); have N7c := Lib.hid (N7b.out.below hb); have N8b := Lib.hid (N8.out.below hb); clear h hb)
        | (go_at_call 44; (with_reducible refine (H8.out _).mono ?_); rintro e w10 ⟨A10, c10, l10, rfl, h, hb⟩; have N10 := Lib.hid h; have B10 := Lib.hid (B9.out.trans (hb.mono B9.out.size)); have N7d := Lib.hid (N7c.out.below hb); have N8c := Lib.hid (N8b.out.below hb); have N9b := Lib.hid (N9.out.below hb); clear h hb)
        | (go_at_call 30; (with_reducible refine (sameT A7 A8 c7 c8 l7 l8 _ _ w10 N7d.out N8c.out rfl).mono ?_); rintro e w11 ⟨rfl, hb⟩; have B11 := Lib.hid (B10.out.trans (hb.mono B10.out.size)); have N9c := Lib.hid (N9b.out.below hb); have N10b := Lib.hid (N10.out.below hb); clear hb)
        | (go_at_call 30; (with_reducible refine (sameT A9 A10 c9 c10 l9 l10 _ _ w11 N9c.out N10b.out rfl).mono ?_); rintro e w12 ⟨rfl, hb⟩; have B12 := Lib.hid (B11.out.trans (hb.mono B11.out.size)); clear hb))
      go_ret
      exact ⟨rfl, B12.out⟩
    · have i1 : n ≤ 60 := by omega
      clear hm
      go_enter Try.func15, Try.ntmps15
      go_wp2_with (first
        | (go_at_call 32; (with_reducible refine (H1.out _).mono ?_); rintro e w1 ⟨A1, c1, l1, rfl, h, hb⟩; have N1 := Lib.hid h; have B1 := Lib.hid hb; clear h hb)
        | (go_at_call 41; (with_reducible refine (H2.out _).mono ?_); rintro e w2 ⟨A2, c2, l2, rfl, h, hb⟩; have N2 := Lib.hid h; have B2 := Lib.hid (B1.out.trans (hb.mono B1.out.size)); have N1b := Lib.hid (N1.out.below hb); clear h hb)
        | (go_at_call 30; (with_reducible refine (sameT A1 A2 c1 c2 l1 l2 _ _ w2 N1b.out N2.out rfl).mono ?_); rintro e w3 ⟨rfl, hb⟩; have B3 := Lib.hid (B2.out.trans (hb.mono B2.out.size)); clear hb)
        | (go_at_call 22; (with_reducible refine (H3.out _).mono ?_); rintro e w4 ⟨A4, c4, l4, rfl, h, hb⟩; have N4 := Lib.hid h; have B4 := Lib.hid (B3.out.trans (hb.mono B3.out.size)); clear h hb)
        | (go_at_call 42; (with_reducible refine (H4.out _).mono ?_); rintro e w5 ⟨A5, c5, l5, rfl, h, hb⟩; have N5 := Lib.hid h; have B5 := Lib.hid (B4.out.trans (hb.mono B4.out.size)); have N4b := Lib.hid (N4.out.below hb); clear h hb)
        | (go_at_call 30; (with_reducible refine (sameT A4 A5 c4 c5 l4 l5 _ _ w5 N4b.out N5.out rfl).mono ?_); rintro e w6 ⟨rfl, hb⟩; have B6 := Lib.hid (B5.out.trans (hb.mono B5.out.size)); clear hb)
        | (go_at_call 28; (with_reducible refine (H5.out _).mono ?_); rintro e w7 ⟨A7, c7, l7, rfl, h, hb⟩; have N7 := Lib.hid h; have B7 := Lib.hid (B6.out.trans (hb.mono B6.out.size)); clear h hb)
        | (go_at_call 43; (with_reducible refine (H6.out _).mono ?_); rintro e w8 ⟨A8, c8, l8, rfl, h, hb⟩; have N8 := Lib.hid h; have B8 := Lib.hid (B7.out.trans (hb.mono B7.out.size)); have N7b := Lib.hid (N7.out.below hb); clear h hb)
        | (go_at_call 29; (with_reducible refine (H7.out _).mono ?_); rintro e w9 ⟨A9, c9, l9, rfl, h, hb⟩; have N9 := Lib.hid h; have B9 := Lib.hid (B8.out.trans (hb.mono B8.out.size)); have N7c := Lib.hid (N7b.out.below hb); have N8b := Lib.hid (N8.out.below hb); clear h hb)
        | (go_at_call 44; (with_reducible refine (H8.out _).mono ?_); rintro e w10 ⟨A10, c10, l10, rfl, h, hb⟩; have N10 := Lib.hid h; have B10 := Lib.hid (B9.out.trans (hb.mono B9.out.size)); have N7d := Lib.hid (N7c.out.below hb); have N8c := Lib.hid (N8b.out.below hb); have N9b := Lib.hid (N9.out.below hb); clear h hb)
        | (go_at_call 30; (with_reducible refine (sameT A7 A8 c7 c8 l7 l8 _ _ w10 N7d.out N8c.out rfl).mono ?_); rintro e w11 ⟨rfl, hb⟩; have B11 := Lib.hid (B10.out.trans (hb.mono B10.out.size)); have N9c := Lib.hid (N9b.out.below hb); have N10b := Lib.hid (N10.out.below hb); clear hb)
        | (go_at_call 30; (with_reducible refine (sameT A9 A10 c9 c10 l9 l10 _ _ w11 N9c.out N10b.out rfl).mono ?_); rintro e w12 ⟨rfl, hb⟩; have B12 := Lib.hid (B11.out.trans (hb.mono B11.out.size)); clear hb))
      go_ret
      exact ⟨rfl, B12.out⟩

theorem walk_statsTells (a0 : Int) (w0 : (Lit.int .i64 a0).wf = true) (a1 : Int) (w1 : (Lit.int .i64 a1).wf = true) (a2 : Int) (w2 : (Lit.int .i64 a2).wf = true) (w : World) :
    Calls Try.prog 3 #[.int .i64 a0, .int .i64 a1, .int .i64 a2] w fun e w' => e = .returned (.bool true) ∧ Below w.heap.size w w' := by
  have AW := Lib.hid (awake_any w)
  have QA := Lib.hid (fun V => tells_any a0 a1 a2 V)
  go_enter Try.func3, Try.ntmps3
  go_wp2_with (first
    | (go_at_call 14; (with_reducible refine (AW.out).mono ?_); rintro e x1 ⟨rfl, hb⟩; have B1 := Lib.hid hb; clear hb)
    | (go_at_call 15; (with_reducible refine (QA.out _).mono ?_); rintro e x2 ⟨rfl, hb⟩; have B2 := Lib.hid (B1.out.trans (hb.mono B1.out.size)); clear hb))
  go_ret
  exact ⟨rfl, B2.out⟩

end Go.Proofs.Ytgbifcfdbelfpaa
