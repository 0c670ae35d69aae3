/-
  The walk of the law StatsCovers.
-/
import Derived.Test.YtgbifcfdbelfpaaStaMath
namespace Go.Proofs.Ytgbifcfdbelfpaa
open Go.RowKit
set_option linter.unusedVariables false

/-- the chances of those of the first k whose lower bound is above the share -/
def abv (n : Nat) (p r : Int) : Nat → Int
  | 0 => 0
  | k + 1 => abv n p r k + if p < lowB n k r then Sb.cn n k p (10000 - p) else 0
/-- .. whose upper bound is below the share -/
def blw (n : Nat) (p r : Int) : Nat → Int
  | 0 => 0
  | k + 1 => blw n p r k + if 10000 - (lowB n (n - k) r : Int) < p then Sb.cn n k p (10000 - p) else 0
theorem abv_is (n : Nat) (p r : Int) (hr : r ≤ 2000) : ∀ k, k ≤ n + 1 → abv n p r k = 0 ∨ ∃ k0, k0 < k ∧ p < lowB n k0 r ∧ abv n p r k = Sb.ls n p (10000 - p) k - Sb.ls n p (10000 - p) k0
  | 0, _ => .inl rfl
  | k + 1, h => by
    have mono : ∀ a b, a ≤ b → b ≤ n → lowB n a r ≤ lowB n b r := fun a b hab hb => by
      obtain ⟨d, rfl⟩ := Nat.exists_eq_add_of_le hab
      induction d with
      | zero => exact Nat.le_refl _
      | succ d ih => exact Nat.le_trans (ih (by omega) (by omega)) (low_more n (a + d) (by omega) hr)
    rw [abv, Sb.ls]
    rcases abv_is n p r hr k (by omega) with h0 | ⟨k0, h1, h2, h3⟩
    · by_cases hp : p < lowB n k r
      · refine .inr ⟨k, by omega, hp, ?_⟩
        rw [h0, if_pos hp]; omega
      · rw [h0, if_neg hp]; exact .inl rfl
    · have := mono k0 k (by omega) (by omega)
      refine .inr ⟨k0, by omega, h2, ?_⟩
      rw [h3, if_pos (by omega)]; omega
theorem blw_is (n : Nat) (p r : Int) (hr : r ≤ 2000) : ∀ k, k ≤ n + 1 → ∃ k0, k0 ≤ k ∧ blw n p r k = Sb.ls n p (10000 - p) k0 ∧ (k0 = 0 ∨ 10000 - (lowB n (n - (k0 - 1)) r : Int) < p) ∧ (k0 = k ∨ p ≤ 10000 - (lowB n (n - k0) r : Int))
  | 0, _ => ⟨0, Nat.le_refl _, rfl, .inl rfl, .inl rfl⟩
  | k + 1, h => by
    have mono : ∀ a b, a ≤ b → b ≤ n → lowB n a r ≤ lowB n b r := fun a b hab hb => by
      obtain ⟨d, rfl⟩ := Nat.exists_eq_add_of_le hab
      induction d with
      | zero => exact Nat.le_refl _
      | succ d ih => exact Nat.le_trans (ih (by omega) (by omega)) (low_more n (a + d) (by omega) hr)
    obtain ⟨k0, h1, h2, h3, h4⟩ := blw_is n p r hr k (by omega)
    rw [blw]
    by_cases he : k0 = k
    · subst he
      by_cases hp : 10000 - (lowB n (n - k0) r : Int) < p
      · refine ⟨k0 + 1, Nat.le_refl _, ?_, .inr (by rw [Nat.add_sub_cancel]; exact hp), .inl rfl⟩
        rw [h2, if_pos hp, Sb.ls]
      · refine ⟨k0, by omega, ?_, h3, .inr (by omega)⟩
        rw [h2, if_neg hp, Int.add_zero]
    · have h5 := h4.resolve_left he
      have := mono (n - k) (n - k0) (by omega) (by omega)
      refine ⟨k0, by omega, ?_, h3, .inr h5⟩
      rw [h2, if_neg (by omega), Int.add_zero]
theorem exB_zero (n : Nat) {r : Int} (hr : 0 ≤ r) : exB n r 0 = false := by
  unfold exB
  rw [decide_eq_false_iff_not]
  have := Int.mul_nonneg (Sb.pow_nn (show (0 : Int) ≤ 10000 by omega) n) hr
  omega
theorem abv_no (n : Nat) {p r : Int} (p0 : 0 ≤ p) (r0 : 0 ≤ r) (hr : r ≤ 2000) : exB n r (abv n p r (n + 1)) = false := by
  rcases abv_is n p r hr (n + 1) (Nat.le_refl _) with h | ⟨k0, h1, h2, h3⟩
  · rw [h]; exact exB_zero n r0
  · have h4 := (lowB_spec n k0 hr).2.2 p p0 h2
    have h5 := Sb.ls_both n p (10000 - p) (k := k0) (by omega)
    have h6 := Sb.ls_all n p (10000 - p) (show n < n + 1 by omega)
    have h7 : abv n p r (n + 1) = upc n k0 p := by
      unfold upc
      rw [h3, h6, show n - k0 + 1 = n + 1 - k0 by omega]
      omega
    rw [h7]; exact h4
theorem blw_no (n : Nat) {p r : Int} (p0 : 0 ≤ p) (p1 : p ≤ 10000) (r0 : 0 ≤ r) (hr : r ≤ 2000) : exB n r (blw n p r (n + 1)) = false := by
  obtain ⟨k0, h1, h2, h3, -⟩ := blw_is n p r hr (n + 1) (Nat.le_refl _)
  rcases h3 with rfl | h3
  · rw [h2]; exact exB_zero n r0
  · rcases Nat.eq_zero_or_pos k0 with h0 | h0
    · rw [h2, h0]; exact exB_zero n r0
    · obtain ⟨j, rfl⟩ : ∃ j, k0 = j + 1 := ⟨k0 - 1, by omega⟩
      rw [Nat.add_sub_cancel] at h3
      have h4 := (lowB_spec n (n - j) hr).2.2 (10000 - p) (by omega) (by omega)
      rw [← lwc_up n j p (by omega)] at h4
      rw [h2]; exact h4
theorem abv_nn (n : Nat) {p r : Int} (p0 : 0 ≤ p) (p1 : p ≤ 10000) (k : Nat) : 0 ≤ abv n p r k ∧ abv n p r k ≤ Sb.ls n p (10000 - p) k := by
  induction k with
  | zero => exact ⟨Int.le_refl _, Int.le_refl _⟩
  | succ k ih =>
    have := Sb.cn_nn p0 (show 0 ≤ 10000 - p by omega) n k
    rw [abv, Sb.ls]; split <;> omega
theorem blw_nn (n : Nat) {p r : Int} (p0 : 0 ≤ p) (p1 : p ≤ 10000) (k : Nat) : 0 ≤ blw n p r k ∧ blw n p r k ≤ Sb.ls n p (10000 - p) k := by
  induction k with
  | zero => exact ⟨Int.le_refl _, Int.le_refl _⟩
  | succ k ih =>
    have := Sb.cn_nn p0 (show 0 ≤ 10000 - p by omega) n k
    rw [blw, Sb.ls]; split <;> omega
theorem ls_whole (n : Nat) {p : Int} (p0 : 0 ≤ p) (p1 : p ≤ 10000) (k : Nat) : Sb.ls n p (10000 - p) k ≤ 10000 ^ n := by
  have h := Sb.ls_le (p := p) (q := 10000 - p) p0 (by omega) n k
  rwa [show p + (10000 - p) = 10000 by omega] at h

set_option maxRecDepth 100000 in
set_option maxHeartbeats 8000000 in
theorem walk_statsCovers (a0 : Int) (w0 : (Lit.int .i64 a0).wf = true) (a1 : Int) (w1 : (Lit.int .i64 a1).wf = true) (a2 : Int) (w2 : (Lit.int .i64 a2).wf = true) (w : World) :
    Calls Try.prog 7 #[.int .i64 a0, .int .i64 a1, .int .i64 a2] w fun e w' => e = .returned (.bool true) ∧ Below w.heap.size w w' := by
  have AW := Lib.hid (awake_any w)
  have pk := fun W => pick_any a0 31 W (by omega) (by omega)
  obtain ⟨n, hn⟩ : ∃ n : Nat, a0 % 31 = n := ⟨(a0 % 31).toNat, by omega⟩
  have hn1 : n ≤ 30 := by omega
  rw [hn] at pk
  have sh := fun W => share_any a1 W
  have p0 : 0 ≤ a1 % 10001 := by omega
  have p1 : a1 % 10001 ≤ 10000 := by omega
  generalize a1 % 10001 = p at *
  have rk := fun W => risk_any a2 W
  have r0 : 1 ≤ 1 + a2 % 2000 := by omega
  have r1 : 1 + a2 % 2000 ≤ 2000 := by omega
  generalize 1 + a2 % 2000 = r at *
  have PK := Lib.hid pk; have SH := Lib.hid sh; have RK := Lib.hid rk
  have X1 := Lib.hid (abv_no n p0 (show 0 ≤ r by omega) r1)
  have X2 := Lib.hid (blw_no n p0 p1 (show 0 ≤ r by omega) r1)
  have G1 := Lib.hid (abv_nn n (r := r) p0 p1)
  have G2 := Lib.hid (blw_nn n (r := r) p0 p1)
  have G3 := Lib.hid (ls_whole n p0 p1)
  clear pk sh rk hn
  have n0 : (0 : Int) ≤ (n : Int) := by omega
  have n1 : (n : Int) ≤ 30 := by omega
  go_enter Try.func7, Try.ntmps7
  go_wp2_with (first
    | (go_at_call 14; (with_reducible refine (AW.out).mono ?_); rintro e x1 ⟨rfl, hb⟩; have Bx1 := Lib.hid hb; clear hb)
    | (go_at_call 19; (with_reducible refine (PK.out _).mono ?_); rintro e _y1 ⟨rfl, rfl⟩)
    | (go_at_call 20; (with_reducible refine (SH.out _).mono ?_); rintro e _y2 ⟨rfl, rfl⟩)
    | (go_at_call 21; (with_reducible refine (RK.out _).mono ?_); rintro e _y3 ⟨rfl, rfl⟩))
  go_loopw [10, 11, 12] (fun s10 s11 s12 wr => ∃ (k : Nat) (A : Option Addr) (c : Nat) (l : List Int) (B : Option Addr) (d : Nat) (m : List Int), k ≤ n + 1 ∧ s12 = .int .i64 k ∧ s10 = .slice A l.length c ∧ s11 = .slice B m.length d ∧ Hid (Num wr A l (abv n p r k)) ∧ Hid (Num wr B m (blw n p r k)) ∧ Hid (Below w.heap.size w wr)) (fun _ _ s12 _ => n + 1 - (intOf s12).toNat)
  case atStart => exact ⟨0, none, 0, [], none, 0, [], by omega, rfl, rfl, rfl, Lib.hid (num_empty _ _), Lib.hid (num_empty _ _), Bx1⟩
  case round =>
    obtain ⟨k, A, c, l, B, d, m, hk, rfl, rfl, rfl, HA, HE, HB⟩ := hrel
    by_cases hlt : k ≤ n
    · have CH := Lib.hid (fun W => chance_ok n k p W p0 p1 (by omega) hlt)
      have ls := fun W => least_ok n k r W r0 r1 (by omega) hlt
      have gr := fun W => greatest_ok n k r W r0 r1 (by omega) hlt
      have zz := low_low n k (show n ≤ 500 by omega) hlt r1
      have ea : Hid (abv n p r (k + 1) = abv n p r k + if p < (lowB n k r : Int) then Sb.cn n k p (10000 - p) else 0) := Lib.hid rfl
      have eb : Hid (blw n p r (k + 1) = blw n p r k + if 10000 - (lowB n (n - k) r : Int) < p then Sb.cn n k p (10000 - p) else 0) := Lib.hid rfl
      have ta := Lib.hid (Int.le_trans (G1.out (k + 1)).2 (G3.out (k + 1)))
      have tb := Lib.hid (Int.le_trans (G2.out (k + 1)).2 (G3.out (k + 1)))
      have z1 : (lowB n k r : Int) + (lowB n (n - k) r : Int) ≤ 10000 := by omega
      have z2 : (0 : Int) ≤ (lowB n (n - k) r : Int) := Int.natCast_nonneg _
      have z3 : (0 : Int) ≤ (lowB n k r : Int) := Int.natCast_nonneg _
      generalize (lowB n k r : Int) = z at *
      obtain ⟨v, hv⟩ : ∃ v, v = 10000 - (lowB n (n - k) r : Int) := ⟨_, rfl⟩
      rw [← hv] at gr eb
      have v1 : z ≤ v := by omega
      have v2 : v ≤ 10000 := by omega
      have LS := Lib.hid ls; have GR := Lib.hid gr
      clear ls gr zz z1 z2 hv
      have c0 : decide (v < z) = false := decide_eq_false (by omega)
      have k1 : (k : Int) ≤ (n : Int) := by omega
      by_cases hp : p < z
      · have c1 : decide (p < z) = true := decide_eq_true hp
        have c2 : decide (v < p) = false := decide_eq_false (by omega)
        have ea2 := Lib.hid (show abv n p r (k + 1) = abv n p r k + Sb.cn n k p (10000 - p) by rw [ea.out, if_pos hp])
        have eb2 := Lib.hid (show blw n p r (k + 1) = blw n p r k by rw [eb.out, if_neg (by omega), Int.add_zero])
        go_wp2_with (first
          | (go_at_call 22; (with_reducible refine (CH.out wr).mono ?_); rintro e x1 ⟨Ax, cx, lx, rfl, h, hb⟩; have Bx1 := Lib.hid (HB.out.trans (hb.mono HB.out.size)); have Nab_x1 := Lib.hid (HA.out.below hb); have Nbe_x1 := Lib.hid (HE.out.below hb); have Nx_x1 := Lib.hid h; clear HB HA HE h hb)
          | (go_at_call 23; (with_reducible refine (LS.out x1).mono ?_); rintro e x2 ⟨rfl, hb⟩; have Bx2 := Lib.hid (Bx1.out.trans (hb.mono Bx1.out.size)); have Nab_x2 := Lib.hid (Nab_x1.out.below hb); have Nbe_x2 := Lib.hid (Nbe_x1.out.below hb); have Nx_x2 := Lib.hid (Nx_x1.out.below hb); clear Bx1 Nab_x1 Nbe_x1 Nx_x1 hb)
          | (go_at_call 24; (with_reducible refine (GR.out x2).mono ?_); rintro e x3 ⟨rfl, hb⟩; have Bx3 := Lib.hid (Bx2.out.trans (hb.mono Bx2.out.size)); have Nab_x3 := Lib.hid (Nab_x2.out.below hb); have Nbe_x3 := Lib.hid (Nbe_x2.out.below hb); have Nx_x3 := Lib.hid (Nx_x2.out.below hb); clear Bx2 Nab_x2 Nbe_x2 Nx_x2 hb)
          | (go_at_call 25; (with_reducible refine (add_to A Ax c cx l lx _ _ _ n x3 Nab_x3.out Nx_x3.out ea2.out.symm ta.out (by omega)).mono ?_); rintro e x4 ⟨Ana, cna, lna, rfl, h, hb⟩; have Bx4 := Lib.hid (Bx3.out.trans (hb.mono Bx3.out.size)); have Nbe_x4 := Lib.hid (Nbe_x3.out.below hb); have Nna_x4 := Lib.hid h; clear Bx3 Nab_x3 Nbe_x3 Nx_x3 h hb))
        go_roundw
        case rel => exact ⟨k + 1, Ana, cna, lna, B, d, m, by omega, by go_num, rfl, rfl, Nna_x4, Lib.hid (eb2.out ▸ Nbe_x4.out), Bx4⟩
        case measure => simp [intOf]; omega
      · have c1 : decide (p < z) = false := decide_eq_false hp
        have ea2 := Lib.hid (show abv n p r (k + 1) = abv n p r k by rw [ea.out, if_neg hp, Int.add_zero])
        by_cases hq : v < p
        · have c2 : decide (v < p) = true := decide_eq_true hq
          have eb2 := Lib.hid (show blw n p r (k + 1) = blw n p r k + Sb.cn n k p (10000 - p) by rw [eb.out, if_pos hq])
          go_wp2_with (first
            | (go_at_call 22; (with_reducible refine (CH.out wr).mono ?_); rintro e x1 ⟨Ax, cx, lx, rfl, h, hb⟩; have Bx1 := Lib.hid (HB.out.trans (hb.mono HB.out.size)); have Nab_x1 := Lib.hid (HA.out.below hb); have Nbe_x1 := Lib.hid (HE.out.below hb); have Nx_x1 := Lib.hid h; clear HB HA HE h hb)
            | (go_at_call 23; (with_reducible refine (LS.out x1).mono ?_); rintro e x2 ⟨rfl, hb⟩; have Bx2 := Lib.hid (Bx1.out.trans (hb.mono Bx1.out.size)); have Nab_x2 := Lib.hid (Nab_x1.out.below hb); have Nbe_x2 := Lib.hid (Nbe_x1.out.below hb); have Nx_x2 := Lib.hid (Nx_x1.out.below hb); clear Bx1 Nab_x1 Nbe_x1 Nx_x1 hb)
            | (go_at_call 24; (with_reducible refine (GR.out x2).mono ?_); rintro e x3 ⟨rfl, hb⟩; have Bx3 := Lib.hid (Bx2.out.trans (hb.mono Bx2.out.size)); have Nab_x3 := Lib.hid (Nab_x2.out.below hb); have Nbe_x3 := Lib.hid (Nbe_x2.out.below hb); have Nx_x3 := Lib.hid (Nx_x2.out.below hb); clear Bx2 Nab_x2 Nbe_x2 Nx_x2 hb)
            | (go_at_call 25; (with_reducible refine (add_to B Ax d cx m lx _ _ _ n x3 Nbe_x3.out Nx_x3.out eb2.out.symm tb.out (by omega)).mono ?_); rintro e x4 ⟨Anb, cnb, lnb, rfl, h, hb⟩; have Bx4 := Lib.hid (Bx3.out.trans (hb.mono Bx3.out.size)); have Nab_x4 := Lib.hid (Nab_x3.out.below hb); have Nnb_x4 := Lib.hid h; clear Bx3 Nab_x3 Nbe_x3 Nx_x3 h hb))
          go_roundw
          case rel => exact ⟨k + 1, A, c, l, Anb, cnb, lnb, by omega, by go_num, rfl, rfl, Lib.hid (ea2.out ▸ Nab_x4.out), Nnb_x4, Bx4⟩
          case measure => simp [intOf]; omega
        · have c2 : decide (v < p) = false := decide_eq_false hq
          have eb2 := Lib.hid (show blw n p r (k + 1) = blw n p r k by rw [eb.out, if_neg hq, Int.add_zero])
          go_wp2_with (first
            | (go_at_call 22; (with_reducible refine (CH.out wr).mono ?_); rintro e x1 ⟨Ax, cx, lx, rfl, h, hb⟩; have Bx1 := Lib.hid (HB.out.trans (hb.mono HB.out.size)); have Nab_x1 := Lib.hid (HA.out.below hb); have Nbe_x1 := Lib.hid (HE.out.below hb); clear HB HA HE h hb)
            | (go_at_call 23; (with_reducible refine (LS.out x1).mono ?_); rintro e x2 ⟨rfl, hb⟩; have Bx2 := Lib.hid (Bx1.out.trans (hb.mono Bx1.out.size)); have Nab_x2 := Lib.hid (Nab_x1.out.below hb); have Nbe_x2 := Lib.hid (Nbe_x1.out.below hb); clear Bx1 Nab_x1 Nbe_x1 hb)
            | (go_at_call 24; (with_reducible refine (GR.out x2).mono ?_); rintro e x3 ⟨rfl, hb⟩; have Bx3 := Lib.hid (Bx2.out.trans (hb.mono Bx2.out.size)); have Nab_x3 := Lib.hid (Nab_x2.out.below hb); have Nbe_x3 := Lib.hid (Nbe_x2.out.below hb); clear Bx2 Nab_x2 Nbe_x2 hb))
          go_roundw
          case rel => exact ⟨k + 1, A, c, l, B, d, m, by omega, by go_num, rfl, rfl, Lib.hid (ea2.out ▸ Nab_x3.out), Lib.hid (eb2.out ▸ Nbe_x3.out), Bx3⟩
          case measure => simp [intOf]; omega
    · obtain rfl : k = n + 1 := by omega
      have ta := Lib.hid (Int.le_trans (G1.out (n + 1)).2 (G3.out (n + 1)))
      have tb := Lib.hid (Int.le_trans (G2.out (n + 1)).2 (G3.out (n + 1)))
      go_wp2_with (first
        | (go_at_call 26; (with_reducible refine (exceedsT A c l _ r n false wr HA.out ta.out (by omega) (by omega) r1 X1.out).mono ?_); rintro e x1 ⟨rfl, hb⟩; have Bx1 := Lib.hid (HB.out.trans (hb.mono HB.out.size)); have Nbe_x1 := Lib.hid (HE.out.below hb); clear HB HA HE hb)
        | (go_at_call 26; (with_reducible refine (exceedsT B d m _ r n false x1 Nbe_x1.out tb.out (by omega) (by omega) r1 X2.out).mono ?_); rintro e x2 ⟨rfl, hb⟩; have Bx2 := Lib.hid (Bx1.out.trans (hb.mono Bx1.out.size)); clear Bx1 Nbe_x1 hb))
      go_ret
      exact ⟨rfl, Bx2.out⟩
end Go.Proofs.Ytgbifcfdbelfpaa
