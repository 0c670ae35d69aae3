/-
  The walks of the reference's chances and sum.
-/
import Derived.Test.YtgbifcfdbelfpaaStaRef4
namespace Go.Proofs.Ytgbifcfdbelfpaa
open Go.RowKit
set_option linter.unusedVariables false

theorem Tab.cells {w : World} {base : Nat} {v : Value} {n : Nat} {f : Nat → Int} {L : Nat} (h : Tab w base v n f L) (hn : 0 < n) :
    ∃ g cap, v = .slice (some ⟨g, 0, none⟩) n cap ∧ g < w.heap.size ∧ ∀ k, k < n → ∃ A c l, w.cell? ⟨g, k, none⟩ = some (.slice A l c) ∧ NumD w (.slice A l c) L (f k) := by
  obtain ⟨g, cap, A, c, l, rfl, h2, -, -⟩ := h.cell 0 hn
  refine ⟨g, cap, rfl, h2, fun k hk => ?_⟩
  obtain ⟨g', cap', A', c', l', e, -, h3, h4⟩ := h.cell k hk
  simp only [Value.slice.injEq, Option.some.injEq, Addr.mk.injEq, and_true, true_and] at e
  obtain ⟨rfl, rfl⟩ := e
  exact ⟨A', c', l', h3, h4⟩
theorem Tab.low {w : World} {b b' : Nat} {v : Value} {n : Nat} {f : Nat → Int} {L : Nat} (h : Tab w b' v n f L) (hb : b ≤ b') : Tab w b v n f L := by
  obtain ⟨vs, h1, h2, h3⟩ := h
  refine ⟨vs, h1, ⟨h2.1, ?_⟩, h3⟩
  rcases h2.2 with h4 | ⟨g, cap, cur, h4, h5, h6⟩
  · exact .inl h4
  · exact .inr ⟨g, cap, cur, h4, by omega, h6⟩
def PostT (n : Nat) (f : Nat → Int) (L : Nat) (W : World) (e : Ending) (w' : World) : Prop := ∃ v, e = .returned v ∧ Tab w' W.heap.size v n f L ∧ Below W.heap.size W w'

theorem cn_end (n : Nat) (p q : Int) : 0 + p * Sb.cn n n p q = Sb.cn (n + 1) (n + 1) p q := by rw [Sb.cn_succ, Sb.cn_gt (show n < n + 1 by omega)]; omega
theorem cn_mid (n k : Nat) (p q : Int) : q * Sb.cn n (k + 1) p q + p * Sb.cn n k p q = Sb.cn (n + 1) (k + 1) p q := by rw [Sb.cn_succ, Int.add_comm]

set_option maxRecDepth 100000 in
set_option maxHeartbeats 8000000 in
theorem rchances_any (n : Nat) (p : Int) (w : World) (hn : n ≤ 1000) (hp : 0 ≤ p) (hp1 : p ≤ 10000) :
    Calls Try.prog 91 #[.int .i64 n, .int .i64 p] w (PostT (n + 1) (fun k => Sb.cn n k p (10000 - p)) (2 * n + 1) w) := by
  obtain ⟨q, hq⟩ : ∃ q, (10000 : Int) - p = q := ⟨_, rfl⟩
  have hq0 : 0 ≤ q := by omega
  have hq1 : q ≤ 10000 := by omega
  have hwr : IntKind.i64.wrap (10000 - p) = q := by rw [hq]; exact IntWalk.i64_in _ (by omega)
  have HQ := Lib.hid hq
  rw [hq]
  have T1 := Lib.hid (Tab.one w (fun k => Sb.cn 0 k p q) (by simp [Sb.cn, Sb.bin]))
  have B1 := Lib.hid (((Below.refl w.heap.size w).alloc (Nat.le_refl _) (.cells #[.int .i64 1] 3)).alloc (by simp) (.cells #[.slice (some ⟨w.heap.size, 0, none⟩) 1 1] 24))
  clear hq
  go_enter Try.func91, Try.ntmps91
  go_wp2_with fail
  go_loopw [5, 6] (fun lv iv wr => ∃ i : Nat, i ≤ n ∧ iv = .int .i64 i ∧ Hid (Tab wr w.heap.size lv (i + 1) (fun k => Sb.cn i k p q) (2 * i + 1)) ∧ Hid (Below w.heap.size w wr)) (fun _ iv _ => n - (intOf iv).toNat)
  case atStart => exact ⟨0, by omega, rfl, T1, B1⟩
  case round =>
    obtain ⟨i, hi, rfl, HT, HB⟩ := hrel
    have i0 : (0 : Int) ≤ (i : Int) := by omega
    by_cases hin : i = n
    · subst hin
      go_wp2_with fail
      go_ret
      exact ⟨_, rfl, HT.out, HB.out⟩
    · have i1 : (i : Int) < (n : Int) := by omega
      obtain ⟨wo, rfl⟩ : ∃ W, W = wr := ⟨_, rfl⟩
      go_wp2_with fail
      go_loopw [7, 8] (fun nv kv wr => ∃ k : Nat, k ≤ i + 2 ∧ kv = .int .i64 k ∧ Hid (Tab wr wo.heap.size nv k (fun k => Sb.cn (i + 1) k p q) (2 * i + 3)) ∧ Hid (Below wo.heap.size wo wr)) (fun _ kv _ => i + 2 - (intOf kv).toNat)
      case atStart => exact ⟨0, by omega, rfl, Lib.hid (Tab.nil _ _ _ _), Lib.hid (Below.refl _ _)⟩
      case round =>
        obtain ⟨k, hk, rfl, HN, HX⟩ := hrel
        have k0 : (0 : Int) ≤ (k : Int) := by omega
        by_cases hk2 : k = i + 2
        · subst hk2
          have HN2 := Lib.hid (HN.out.low HB.out.size)
          have HB2 := Lib.hid (HB.out.trans (HX.out.mono HB.out.size))
          clear HN HX
          go_wp2_with fail
          exact ⟨⟨i + 1, by omega, by go_num, HN2, HB2⟩, by simp [intOf]; omega⟩
        · have hTx := HT.out.below HX.out
          obtain ⟨g, cap, rfl, hg, hc⟩ := hTx.cells (by omega)
          have HSZ := Lib.hid HX.out.size
          have hgx := hg
          by_cases hk0 : k = 0
          · subst hk0
            obtain ⟨A, c, len, hc0, hN0⟩ := hc 0 (by omega)
            have C1 := Lib.hid (rtimes_any _ q (2 * i + 1) (2 * i + 2) _ wr hN0 hq0 hq1 (by omega) (by omega))
            have E := Lib.hid (Sb.cn_zero i p q).symm
            clear hc hN0 hTx
            go_wp2_with (first
            | (go_at_call 96; (with_reducible refine C1.out.mono ?_); rintro e w1 ⟨v1, rfl, h1, b1⟩; have TR := Lib.hid (trim_num v1 (2 * i + 2) _ w1 h1.num); have BB := Lib.hid b1; clear h1 b1)
            | (go_at_call 90; (with_reducible refine TR.out.mono ?_); rintro e w4 ⟨v4, rfl, h4, rfl⟩; have N4 := Lib.hid (E.out ▸ h4.num.mono (show 2 * i + 2 ≤ 2 * i + 3 by omega)); obtain ⟨A4, c4, l4, rfl, -⟩ := h4)
            | (at_builtin; refine wpList_appT _ rfl _ _ rfl wo.heap.size _ 0 _ (2 * i + 3) rfl (HN.out.below BB.out) _ N4.out rfl (by omega) (Nat.le_trans HSZ.out BB.out.size) ?_; intro v' w' ht hb'; have HT' := Lib.hid ht; have HB' := Lib.hid ((HX.out.trans (BB.out.mono HSZ.out)).trans hb'); clear ht hb'))
            exact ⟨⟨0 + 1, by omega, by go_num, HT', HB'⟩, by simp [intOf]⟩
          · obtain ⟨j, rfl⟩ : ∃ j, k = j + 1 := ⟨k - 1, by omega⟩
            obtain ⟨A2, c2, len2, hc2, hN2⟩ := hc j (by omega)
            have C2 := Lib.hid (fun W (hb : Below wr.heap.size wr W) => rtimes_any _ p (2 * i + 1) (2 * i + 2) _ W (hN2.below hb) hp hp1 (by omega) (by omega))
            have j0 : (0 : Int) ≤ (j : Int) := by omega
            have j1 : (j : Int) < ((i + 1 : Nat) : Int) := by omega
            by_cases hki : j = i
            · subst hki
              have E := Lib.hid (cn_end j p q)
              have NIL := Lib.hid (fun W => NumD.nil W 0)
              clear hc hN2 hTx
              go_wp2_with (first
            | (go_at_call 96; (with_reducible refine (C2.out _ (Below.refl _ _)).mono ?_); rintro e w2 ⟨v2, rfl, h2, b2⟩; have AD := Lib.hid (radd_any _ v2 0 (2 * j + 2) (2 * j + 3) 0 _ w2 (NIL.out w2) h2.num (by omega) (by omega) (by omega)); have BB2 := Lib.hid b2; clear h2 b2)
            | (go_at_call 72; (with_reducible refine AD.out.mono ?_); rintro e w3 ⟨v3, rfl, h3, b3⟩; have TR := Lib.hid (trim_num v3 (2 * j + 3) _ w3 h3); have BB := Lib.hid (BB2.out.trans (b3.mono BB2.out.size)); clear h3 b3)
            | (go_at_call 90; (with_reducible refine TR.out.mono ?_); rintro e w4 ⟨v4, rfl, h4, rfl⟩; have N4 := Lib.hid (E.out ▸ h4.num.mono (show 2 * j + 3 ≤ 2 * j + 3 by omega)); obtain ⟨A4, c4, l4, rfl, -⟩ := h4)
            | (at_builtin; refine wpList_appT _ rfl _ _ rfl wo.heap.size _ (j + 1) _ (2 * j + 3) rfl (HN.out.below BB.out) _ N4.out rfl (by omega) (Nat.le_trans HSZ.out BB.out.size) ?_; intro v' w' ht hb'; have HT' := Lib.hid ht; have HB' := Lib.hid ((HX.out.trans (BB.out.mono HSZ.out)).trans hb'); clear ht hb'))
              exact ⟨⟨(j + 1) + 1, by omega, by go_num, HT', HB'⟩, by simp [intOf]; omega⟩
            · obtain ⟨A1, c1, len1, hc1, hN1⟩ := hc (j + 1) (by omega)
              have C1 := Lib.hid (rtimes_any _ q (2 * i + 1) (2 * i + 2) _ wr hN1 hq0 hq1 (by omega) (by omega))
              have E := Lib.hid (cn_mid i j p q)
              have j2 : ((j : Int) + 1) ≤ (i : Int) := by omega
              have CL := Lib.hid (fun W (hb : Below wr.heap.size wr W) => (bcell hb g j hg).trans hc2)
              clear hc hN1 hN2 hTx
              go_wp2_with (first
            | (go_at_call 96; (with_reducible refine C1.out.mono ?_); rintro e w1 ⟨v1, rfl, h1, b1⟩; have N1 := Lib.hid h1.num; have hcl := CL.out w1 b1; have BB1 := Lib.hid b1; clear h1 b1)
            | (go_at_call 96; (with_reducible refine (C2.out _ BB1.out).mono ?_); rintro e w2 ⟨v2, rfl, h2, b2⟩; have AD := Lib.hid (radd_any v1 v2 (2 * i + 2) (2 * i + 2) (2 * i + 3) _ _ w2 (N1.out.below b2) h2.num (by omega) (by omega) (by omega)); have BB2 := Lib.hid (BB1.out.trans (b2.mono BB1.out.size)); clear h2 b2)
            | (go_at_call 72; (with_reducible refine AD.out.mono ?_); rintro e w3 ⟨v3, rfl, h3, b3⟩; have TR := Lib.hid (trim_num v3 (2 * i + 3) _ w3 h3); have BB := Lib.hid (BB2.out.trans (b3.mono BB2.out.size)); clear h3 b3)
            | (go_at_call 90; (with_reducible refine TR.out.mono ?_); rintro e w4 ⟨v4, rfl, h4, rfl⟩; have N4 := Lib.hid (E.out ▸ h4.num.mono (show 2 * i + 3 ≤ 2 * i + 3 by omega)); obtain ⟨A4, c4, l4, rfl, -⟩ := h4)
            | (at_builtin; refine wpList_appT _ rfl _ _ rfl wo.heap.size _ (j + 1) _ (2 * i + 3) rfl (HN.out.below BB.out) _ N4.out rfl (by omega) (Nat.le_trans HSZ.out BB.out.size) ?_; intro v' w' ht hb'; have HT' := Lib.hid ht; have HB' := Lib.hid ((HX.out.trans (BB.out.mono HSZ.out)).trans hb'); clear ht hb'))
              exact ⟨⟨(j + 1) + 1, by omega, by go_num, HT', HB'⟩, by simp [intOf]; omega⟩

end Go.Proofs.Ytgbifcfdbelfpaa
