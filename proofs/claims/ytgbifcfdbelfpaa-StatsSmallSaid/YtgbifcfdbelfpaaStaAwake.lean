/-
  The walk of the law's awake.
-/
import Derived.Test.YtgbifcfdbelfpaaStaAwake0
namespace Go.Proofs.Ytgbifcfdbelfpaa
open Go.RowKit Go.Maps
set_option linter.unusedVariables false

set_option maxRecDepth 100000 in
set_option maxHeartbeats 8000000 in
theorem awake_any (w : World) : Calls Try.prog 14 #[] w fun e w' => e = .returned (.bool true) ∧ Below w.heap.size w w' := by
  have C1 := Lib.hid (choose_52 w)
  have C2 := Lib.hid (fun W => chance_21 W)
  have C3 := Lib.hid (fun W => upper_21 W)
  have L1 := Lib.hid (fun W => least_1 W)
  have L2 := Lib.hid (fun W => least_2 W)
  have G1 := Lib.hid (fun W => great_1 W)
  have G2 := Lib.hid (fun W => great_2 W)
  have hmm := @run_makeMap Try.prog
  go_enter Try.func14, Try.ntmps14
  go_wp2_with (first
    | (go_at_call 32; (with_reducible refine (C1.out).mono ?_); rintro e w1 ⟨A1, c1, l1, rfl, h, hb⟩; have B1 := Lib.hid hb; have N1 := Lib.hid h; clear h hb)
    | (go_at_call 22; (with_reducible refine (C2.out w1).mono ?_); rintro e w2 ⟨A2, c2, l2, rfl, h, hb⟩; have B2 := Lib.hid (B1.out.trans (hb.mono B1.out.size)); have N2 := Lib.hid (And.intro (N1.out.below hb) h); clear h hb)
    | (go_at_call 28; (with_reducible refine (C3.out w2).mono ?_); rintro e w3 ⟨A3, c3, l3, rfl, h, hb⟩; have B3 := Lib.hid (B2.out.trans (hb.mono B2.out.size)); have N3 := Lib.hid (And.intro (N2.out.1.below hb) (And.intro (N2.out.2.below hb) h)); clear h hb)
    | (go_at_call 30; (with_reducible refine (same_lit A1 c1 l1 10 w3 N3.out.1 (by decide) (by decide)).mono ?_); rintro e w4 ⟨rfl, hb⟩; have hb2 := ((Below.refl w3.heap.size w3).alloc (Nat.le_refl _) (.cells #[.int .u32 10] 55)).trans (hb.mono (by omega)); have B4 := Lib.hid (B3.out.trans (hb2.mono B3.out.size)); have N4 := Lib.hid (And.intro (N3.out.2.1.below hb2) (N3.out.2.2.below hb2)); clear hb hb2)
    | (go_at_call 30; (with_reducible refine (same_lit A2 c2 l2 37500000 w4 N4.out.1 (by decide) (by decide)).mono ?_); rintro e w5 ⟨rfl, hb⟩; have hb2 := ((Below.refl w4.heap.size w4).alloc (Nat.le_refl _) (.cells #[.int .u32 37500000] 55)).trans (hb.mono (by omega)); have B5 := Lib.hid (B4.out.trans (hb2.mono B4.out.size)); have N5 := Lib.hid (N4.out.2.below hb2); clear hb hb2)
    | (go_at_call 30; (with_reducible refine (same_lit A3 c3 l3 43750000 w5 N5.out (by decide) (by decide)).mono ?_); rintro e w6 ⟨rfl, hb⟩; have hb2 := ((Below.refl w5.heap.size w5).alloc (Nat.le_refl _) (.cells #[.int .u32 43750000] 55)).trans (hb.mono (by omega)); have B6 := Lib.hid (B5.out.trans (hb2.mono B5.out.size)); clear hb hb2)
    | (go_at_call 23; (with_reducible refine (L1.out w6).mono ?_); rintro e w7 ⟨rfl, hb⟩; have B7 := Lib.hid (B6.out.trans (hb.mono B6.out.size)); clear hb)
    | (go_at_call 24; (with_reducible refine (G1.out w7).mono ?_); rintro e w8 ⟨rfl, hb⟩; have B8 := Lib.hid (B7.out.trans (hb.mono B7.out.size)); clear hb)
    | (go_at_call 23; (with_reducible refine (L2.out w8).mono ?_); rintro e w9 ⟨rfl, hb⟩; have B9 := Lib.hid (B8.out.trans (hb.mono B8.out.size)); clear hb)
    | (go_at_call 24; (with_reducible refine (G2.out w9).mono ?_); rintro e w10 ⟨rfl, hb⟩; have B10 := Lib.hid (B9.out.trans (hb.mono B9.out.size)); have M0 := Lib.hid (World.ownsMap_made (H := Unit) w10 Try.prog 3 (plainElem Try.prog 3)); have BM0 := Lib.hid (B10.out.alloc B10.out.size (.map #[] 0)); clear hb)
    | (with_reducible refine wpList_insert_own (H := Unit) _ rfl _ _ _ 56 rfl 3 3 (int_keyed Try.underlying3) Try.underlying56 (plainElem Try.prog 3) w10.heap.size 0 _ rfl M0.out (by unfold maxLen; omega) (.int .i64 0) (.int .i64 1) (.int .i64 0) rfl rfl (keyOf_int_mk Try.underlying3 (by decide)) (.lit (.int .i64 1)) [] (plainElem_int Try.underlying3 (by decide)) ?_; intro v1 h hg; have M1 := Lib.hid h; have BM1 := Lib.hid (BM0.out.grown hg BM0.out.size (fun k e => by cases e; exact B10.out.size)); clear h hg)
    | (with_reducible refine wpList_insert_own (H := Unit) _ rfl _ _ _ 56 rfl 3 3 (int_keyed Try.underlying3) Try.underlying56 (plainElem Try.prog 3) w10.heap.size 1 _ rfl M1.out (by unfold maxLen; omega) (.int .i64 5000) (.int .i64 2) (.int .i64 5000) rfl rfl (keyOf_int_mk Try.underlying3 (by decide)) (.lit (.int .i64 2)) [] (plainElem_int Try.underlying3 (by decide)) ?_; intro v2 h hg; have M2 := Lib.hid h; have BM2 := Lib.hid (BM1.out.grown hg BM1.out.size (fun k e => by cases e; exact B10.out.size)); clear h hg)
    | (with_reducible refine wpList_insert_own (H := Unit) _ rfl _ _ _ 56 rfl 3 3 (int_keyed Try.underlying3) Try.underlying56 (plainElem Try.prog 3) w10.heap.size 2 _ rfl M2.out (by unfold maxLen; omega) (.int .i64 9000) (.int .i64 5) (.int .i64 9000) rfl rfl (keyOf_int_mk Try.underlying3 (by decide)) (.lit (.int .i64 5)) [] (plainElem_int Try.underlying3 (by decide)) ?_; intro v3 h hg; have M3 := Lib.hid h; have BM3 := Lib.hid (BM2.out.grown hg BM2.out.size (fun k e => by cases e; exact B10.out.size)); clear h hg)
    | (with_reducible refine wpList_insert_own (H := Unit) _ rfl _ _ _ 56 rfl 3 3 (int_keyed Try.underlying3) Try.underlying56 (plainElem Try.prog 3) w10.heap.size 3 _ rfl M3.out (by unfold maxLen; omega) (.int .i64 10000) (.int .i64 5) (.int .i64 10000) rfl rfl (keyOf_int_mk Try.underlying3 (by decide)) (.lit (.int .i64 5)) [] (plainElem_int Try.underlying3 (by decide)) ?_; intro v4 h hg; have M4 := Lib.hid h; have BM4 := Lib.hid (BM3.out.grown hg BM3.out.size (fun k e => by cases e; exact B10.out.size)); clear h hg)
    | (at_range; refine wpList_range_own (H := Unit) _ rfl _ 56 rfl 3 3 (int_keyed Try.underlying3) Try.underlying56 (plainElem Try.prog 3) w10.heap.size 4 D4 rfl M4.out ?_; intro w0 hrg0 hg0 hs0))
  go_frame
  have BR := Lib.hid (BM4.out.grown hg0 BM4.out.size (fun k e => by cases e))
  have HR0 := Lib.hid hrg0
  obtain ⟨r, hr⟩ : ∃ r, r = v4.heap.size := ⟨_, rfl⟩
  have HRle := Lib.hid (show w.heap.size ≤ r by rw [hr]; exact BM4.out.size)
  rw [← hr] at HR0 ⊢
  clear hrg0 hg0 hs0 hr
  go_loopw [12] (fun _ wr => ∃ left cnt, wr.ranges Try.prog 3 (plainElem Try.prog 3) w10.heap.size r 4 D4 left cnt ∧ Hid (∀ kl, left kl = true → Maps.has D4 kl = true) ∧ Hid (Below w.heap.size w wr)) (fun _ wr => wr.rangeLeft w10.heap.size r)
  case atStart => exact ⟨_, _, HR0.out, Lib.hid (fun _ h => h), BR⟩
  case round =>
    obtain ⟨left, cnt, hrg, HL, HB⟩ := hrel
    go_wp2_with (at_next; refine wpList_next_ranges_ii (H := Unit) _ rfl _ rfl 3 3 .i64 .i64 (int_keyed Try.underlying3) Try.underlying3 Try.underlying3 w10.heap.size r 4 _ _ _ rfl hrg ?_ ?_)
    · intro _ _
      go_wp2
      go_ret
      exact ⟨rfl, HB.out⟩
    · intro x c w1 cnt1 hwx hwc hlx hat hrg1 hlt hg1 hs1 hen
      have h4 := D4_has (HL.out _ hlx) hat
      have Q := Lib.hid (quantile_4 x c h4 w1)
      have f1 : (c != c) = false := by rw [bne_eq_false_iff_eq]
      have HR := Lib.hid hrg; have HR1 := Lib.hid hrg1; have HLT := Lib.hid hlt
      have HB1 := Lib.hid (HB.out.grown hg1 HB.out.size (fun k e => by cases e; exact HRle.out))
      have HL1 := Lib.hid (fun kl (h : (left kl && !kl.sameKey (.int .i64 x)) = true) => HL.out kl (by simp at h; exact h.1))
      clear hrg hrg1 hlt hlx hat h4 hwx hwc hg1 hs1
      go_wp2_with (go_at_call 37; (with_reducible refine Q.out.mono ?_); rintro e w2 ⟨rfl, hb⟩; have HB2 := Lib.hid hb; clear hb)
      go_roundw
      case rel => exact ⟨_, _, HR1.out.kept (row := none) ⟨HB2.out.os, HB2.out.tape, HB2.out.output, HB2.out.size, fun k hk _ => HB2.out.block k hk⟩ (by simp) (by simp), HL1, Lib.hid (HB1.out.trans (HB2.out.mono HB1.out.size))⟩
      case measure =>
        have hk := HR1.out.kept (row := none) (w' := w2) ⟨HB2.out.os, HB2.out.tape, HB2.out.output, HB2.out.size, fun k hk _ => HB2.out.block k hk⟩ (by simp) (by simp)
        have := HLT.out
        rw [hk.left_eq, HR.out.left_eq]; omega
end Go.Proofs.Ytgbifcfdbelfpaa
