/-
  The walks of the reference's wrong, Chance, Upper, Lower, Least, Greatest.
-/
import Derived.Test.YtgbifcfdbelfpaaStaRef6
namespace Go.Proofs.Ytgbifcfdbelfpaa
open Go.RowKit
set_option linter.unusedVariables false

theorem rwrong_any (n k x lo hi : Int) (r : Bool) (w : World) (hr : r = true ↔ lo ≤ x ∧ x ≤ hi) :
    Calls Try.prog 71 #[.int .i64 n, .int .i64 k, .int .i64 x, .int .i64 lo, .int .i64 hi] w fun e w' => e = .returned (.int .i64 (trErr n k r)) ∧ w = w' := by
  by_cases h1 : k < 0
  · have E := Lib.hid (trErr_arg (n := n) (r := r) (.inl h1))
    clear hr
    go_enter Try.func71, Try.ntmps71
    go_wp2
    go_ret
    exact ⟨ret_int E.out.symm, rfl⟩
  · by_cases h2 : n < k
    · have E := Lib.hid (trErr_arg (n := n) (r := r) (.inr (.inl h2)))
      clear hr
      go_enter Try.func71, Try.ntmps71
      go_wp2
      go_ret
      exact ⟨ret_int E.out.symm, rfl⟩
    · by_cases h3 : x < lo
      · obtain rfl : r = false := by cases r with
          | false => rfl
          | true => have := hr.1 rfl; omega
        have E := Lib.hid (trErr_arg (n := n) (k := k) (.inr (.inr rfl)))
        clear hr
        go_enter Try.func71, Try.ntmps71
        go_wp2
        go_ret
        exact ⟨ret_int E.out.symm, rfl⟩
      · by_cases h4 : hi < x
        · obtain rfl : r = false := by cases r with
            | false => rfl
            | true => have := hr.1 rfl; omega
          have E := Lib.hid (trErr_arg (n := n) (k := k) (.inr (.inr rfl)))
          clear hr
          go_enter Try.func71, Try.ntmps71
          go_wp2
          go_ret
          exact ⟨ret_int E.out.symm, rfl⟩
        · obtain rfl : r = true := hr.2 ⟨by omega, by omega⟩
          by_cases h5 : 500 < n
          · have E := Lib.hid (trErr_long (n := n) (k := k) (by omega) (by omega) h5)
            clear hr
            go_enter Try.func71, Try.ntmps71
            go_wp2
            go_ret
            exact ⟨ret_int E.out.symm, rfl⟩
          · have E := Lib.hid (trErr_ok (n := n) (k := k) (by omega) (by omega) (by omega))
            clear hr
            go_enter Try.func71, Try.ntmps71
            go_wp2
            go_ret
            exact ⟨ret_int E.out.symm, rfl⟩
theorem rwrong_is {n k x lo hi E : Int} {r : Bool} (h : trErr n k r = E) (hr : r = true ↔ lo ≤ x ∧ x ≤ hi) (w : World) :
    Calls Try.prog 71 #[.int .i64 n, .int .i64 k, .int .i64 x, .int .i64 lo, .int .i64 hi] w fun e w' => e = .returned (.int .i64 E) ∧ w = w' := h ▸ rwrong_any n k x lo hi r w hr

theorem ls_upper (n k : Nat) (p : Int) (hk : k ≤ n) : Sb.ls n p (10000 - p) (n + 1) - Sb.ls n p (10000 - p) k = upc n k p := by
  have h1 := Sb.ls_both n p (10000 - p) (k := k) (by omega)
  have h2 := Sb.ls_all n p (10000 - p) (m := n + 1) (by omega)
  unfold upc
  rw [h2, ← h1, show n + 1 - k = n - k + 1 by omega]
  omega
theorem ls_lower (n k : Nat) (p : Int) : Sb.ls n p (10000 - p) (k + 1) - Sb.ls n p (10000 - p) 0 = lwc n k p := by
  unfold lwc
  rw [show Sb.ls n p (10000 - p) 0 = 0 from rfl]
  omega
theorem ls_chance (n k : Nat) (p : Int) : Sb.ls n p (10000 - p) (k + 1) - Sb.ls n p (10000 - p) k = Sb.cn n k p (10000 - p) := by
  rw [Sb.ls]
  omega

theorem rchance_ok (n k : Nat) (p : Int) (w : World) (hp : 0 ≤ p) (hp1 : p ≤ 10000) (hn : n ≤ 300) (hk : k ≤ n) : Calls Try.prog 42 #[.int .i64 n, .int .i64 k, .int .i64 p] w (PostNumE (Sb.cn n k p (10000 - p)) w) := by
  have C := Lib.hid (rwrong_is (r := true) (trErr_ok (n := n) (k := k) (by omega) (by omega) (by omega)) (x := p) (lo := 0) (hi := 10000) (by simp; omega) w)
  have s0 := rsum_any n k k p w (by omega) (by omega) (by omega) hp hp1
  rw [ls_chance n k p] at s0
  have S := Lib.hid s0
  have LI := Lib.hid (fun V v h => rlimbs_any v (3 * n + 10) (Sb.cn n k p (10000 - p)) V h (by omega))
  clear s0
  go_enter Try.func42, Try.ntmps42
  go_wp2_with (first
    | (go_at_call 71; (with_reducible refine C.out.mono ?_); rintro e w1 ⟨rfl, rfl⟩)
    | (go_at_call 74; (with_reducible refine S.out.mono ?_); rintro e w1 ⟨v1, rfl, h1, b1⟩; have L1 := Lib.hid (LI.out w1 v1 h1.num); have B1 := Lib.hid b1; clear h1 b1)
    | (go_at_call 73; (with_reducible refine L1.out.mono ?_); rintro e w2 ⟨A2, c2, l2, rfl, h2, b2⟩; have N2 := Lib.hid h2; have B2 := Lib.hid (B1.out.trans (b2.mono B1.out.size)); clear h2 b2))
  go_ret2
  exact ⟨_, _, l2, rfl, N2.out, B2.out⟩
theorem rchance_err (n k p E : Int) (w : World) (h : trErr n k (shareB p) = E) (h0 : (E != 0) = true) : Calls Try.prog 42 #[.int .i64 n, .int .i64 k, .int .i64 p] w (PostErr E w) := by
  have C := Lib.hid (rwrong_is (x := p) (lo := 0) (hi := 10000) h shareB_iff w)
  clear h
  go_enter Try.func42, Try.ntmps42
  go_wp2_with (go_at_call 71; (with_reducible refine C.out.mono ?_); rintro e w1 ⟨rfl, rfl⟩)
  go_ret2
  exact ⟨rfl, Below.refl _ _⟩
theorem rupper_ok (n k : Nat) (p : Int) (w : World) (hp : 0 ≤ p) (hp1 : p ≤ 10000) (hn : n ≤ 300) (hk : k ≤ n) : Calls Try.prog 43 #[.int .i64 n, .int .i64 k, .int .i64 p] w (PostNumE (upc n k p) w) := by
  have C := Lib.hid (rwrong_is (r := true) (trErr_ok (n := n) (k := k) (by omega) (by omega) (by omega)) (x := p) (lo := 0) (hi := 10000) (by simp; omega) w)
  have s0 := rsum_any n k n p w (by omega) (by omega) (by omega) hp hp1
  rw [ls_upper n k p hk] at s0
  have S := Lib.hid s0
  have LI := Lib.hid (fun V v h => rlimbs_any v (3 * n + 10) (upc n k p) V h (by omega))
  clear s0
  go_enter Try.func43, Try.ntmps43
  go_wp2_with (first
    | (go_at_call 71; (with_reducible refine C.out.mono ?_); rintro e w1 ⟨rfl, rfl⟩)
    | (go_at_call 74; (with_reducible refine S.out.mono ?_); rintro e w1 ⟨v1, rfl, h1, b1⟩; have L1 := Lib.hid (LI.out w1 v1 h1.num); have B1 := Lib.hid b1; clear h1 b1)
    | (go_at_call 73; (with_reducible refine L1.out.mono ?_); rintro e w2 ⟨A2, c2, l2, rfl, h2, b2⟩; have N2 := Lib.hid h2; have B2 := Lib.hid (B1.out.trans (b2.mono B1.out.size)); clear h2 b2))
  go_ret2
  exact ⟨_, _, l2, rfl, N2.out, B2.out⟩
theorem rupper_err (n k p E : Int) (w : World) (h : trErr n k (shareB p) = E) (h0 : (E != 0) = true) : Calls Try.prog 43 #[.int .i64 n, .int .i64 k, .int .i64 p] w (PostErr E w) := by
  have C := Lib.hid (rwrong_is (x := p) (lo := 0) (hi := 10000) h shareB_iff w)
  clear h
  go_enter Try.func43, Try.ntmps43
  go_wp2_with (go_at_call 71; (with_reducible refine C.out.mono ?_); rintro e w1 ⟨rfl, rfl⟩)
  go_ret2
  exact ⟨rfl, Below.refl _ _⟩
theorem rlower_ok (n k : Nat) (p : Int) (w : World) (hp : 0 ≤ p) (hp1 : p ≤ 10000) (hn : n ≤ 300) (hk : k ≤ n) : Calls Try.prog 44 #[.int .i64 n, .int .i64 k, .int .i64 p] w (PostNumE (lwc n k p) w) := by
  have C := Lib.hid (rwrong_is (r := true) (trErr_ok (n := n) (k := k) (by omega) (by omega) (by omega)) (x := p) (lo := 0) (hi := 10000) (by simp; omega) w)
  have s0 := rsum_any n 0 k p w (by omega) (by omega) (by omega) hp hp1
  rw [ls_lower n k p, show ((0 : Nat) : Int) = 0 from rfl] at s0
  have S := Lib.hid s0
  have LI := Lib.hid (fun V v h => rlimbs_any v (3 * n + 10) (lwc n k p) V h (by omega))
  clear s0
  go_enter Try.func44, Try.ntmps44
  go_wp2_with (first
    | (go_at_call 71; (with_reducible refine C.out.mono ?_); rintro e w1 ⟨rfl, rfl⟩)
    | (go_at_call 74; (with_reducible refine S.out.mono ?_); rintro e w1 ⟨v1, rfl, h1, b1⟩; have L1 := Lib.hid (LI.out w1 v1 h1.num); have B1 := Lib.hid b1; clear h1 b1)
    | (go_at_call 73; (with_reducible refine L1.out.mono ?_); rintro e w2 ⟨A2, c2, l2, rfl, h2, b2⟩; have N2 := Lib.hid h2; have B2 := Lib.hid (B1.out.trans (b2.mono B1.out.size)); clear h2 b2))
  go_ret2
  exact ⟨_, _, l2, rfl, N2.out, B2.out⟩
theorem rlower_err (n k p E : Int) (w : World) (h : trErr n k (shareB p) = E) (h0 : (E != 0) = true) : Calls Try.prog 44 #[.int .i64 n, .int .i64 k, .int .i64 p] w (PostErr E w) := by
  have C := Lib.hid (rwrong_is (x := p) (lo := 0) (hi := 10000) h shareB_iff w)
  clear h
  go_enter Try.func44, Try.ntmps44
  go_wp2_with (go_at_call 71; (with_reducible refine C.out.mono ?_); rintro e w1 ⟨rfl, rfl⟩)
  go_ret2
  exact ⟨rfl, Below.refl _ _⟩
/-! ### Least, Greatest -/
set_option maxRecDepth 100000 in
set_option maxHeartbeats 4000000 in
theorem rleast_ok (n k : Nat) (r : Int) (w : World) (hr : 1 ≤ r) (hr1 : r ≤ 2000) (hn : n ≤ 300) (hk : k ≤ n) : Calls Try.prog 45 #[.int .i64 n, .int .i64 k, .int .i64 r] w (PostIntE (lowB n k r) w) := by
  have C := Lib.hid (rwrong_is (r := true) (trErr_ok (n := n) (k := k) (by omega) (by omega) (by omega)) (x := r) (lo := 1) (hi := 2000) (by simp; omega) w)
  have HS := Lib.hid (fun (m : Nat) (V : World) (hm : m < 10000) => ls_upper n k m hk ▸ rsum_any n k n m V (by omega) hk (Nat.le_refl _) (by omega) (by omega))
  go_enter Try.func45, Try.ntmps45
  go_wp2_with (go_at_call 71; (with_reducible refine C.out.mono ?_); rintro e w1 ⟨rfl, rfl⟩)
  go_loopw [9, 10] (fun lv hv wr => ∃ a b : Nat, a ≤ b ∧ b ≤ 10000 ∧ lv = .int .i64 a ∧ hv = .int .i64 b ∧ Hid (a = 0 ∨ exB n r (upc n k ((a - 1 : Nat) : Int)) = false) ∧ Hid (b = 10000 ∨ exB n r (upc n k b) = true) ∧ Hid (Below w.heap.size w wr)) (fun lv hv _ => (intOf hv - intOf lv).toNat)
  case atStart => exact ⟨0, 10000, by omega, by omega, rfl, rfl, Lib.hid (.inl rfl), Lib.hid (.inl rfl), Lib.hid (Below.refl _ _)⟩
  case round =>
    obtain ⟨a, b, hab, hb, rfl, rfl, HL, HH, HB⟩ := hrel
    by_cases he : a = b
    · subst he
      have E := Lib.hid (lowB_is hb HL.out HH.out)
      go_wp2_with fail
      go_ret2
      exact ⟨by rw [← E.out]; rfl, HB.out⟩
    · obtain ⟨m, hm⟩ : ∃ m : Nat, (m : Int) = ((a : Int) + (b : Int)) / 2 := ⟨(a + b) / 2, by omega⟩
      have S := Lib.hid (HS.out m wr (by omega))
      have i1 : (a : Int) < (b : Int) := by omega
      have i2 : (a : Int) ≤ (m : Int) := by omega
      have i3 : (m : Int) < (b : Int) := by omega
      have i4 : (0 : Int) ≤ (a : Int) := by omega
      have hm2 := hm.symm
      clear hm
      have EX := Lib.hid (fun v V (h : NumC V v (3 * n + 10) (upc n k m)) => rexceeds_any v (3 * n + 10) n r (upc n k m) V h hr hr1 (by omega))
      cases hx : exB n r (upc n k m) with
      | true =>
        have HX := Lib.hid hx
        rw [hx] at EX
        clear hx
        go_wp2_with (first
          | (go_at_call 74; (with_reducible refine S.out.mono ?_); rintro e w2 ⟨v2, rfl, h2, b2⟩; have X := Lib.hid (EX.out v2 w2 h2); have BB := Lib.hid (HB.out.trans (b2.mono HB.out.size)); clear h2 b2)
          | (go_at_call 75; (with_reducible refine X.out.mono ?_); rintro e w3 ⟨rfl, rfl⟩))
        exact ⟨⟨a, m, by omega, by omega, rfl, by go_num, HL, Lib.hid (.inr HX.out), BB⟩, by simp [intOf]; omega⟩
      | false =>
        have HX := Lib.hid hx
        rw [hx] at EX
        clear hx
        go_wp2_with (first
          | (go_at_call 74; (with_reducible refine S.out.mono ?_); rintro e w2 ⟨v2, rfl, h2, b2⟩; have X := Lib.hid (EX.out v2 w2 h2); have BB := Lib.hid (HB.out.trans (b2.mono HB.out.size)); clear h2 b2)
          | (go_at_call 75; (with_reducible refine X.out.mono ?_); rintro e w3 ⟨rfl, rfl⟩))
        exact ⟨⟨m + 1, b, by omega, by omega, by go_num, rfl, Lib.hid (.inr (by rw [Nat.add_sub_cancel]; exact HX.out)), HH, BB⟩, by simp [intOf]; omega⟩
theorem rleast_err (n k r E : Int) (w : World) (h : trErr n k (riskB r) = E) (h0 : (E != 0) = true) : Calls Try.prog 45 #[.int .i64 n, .int .i64 k, .int .i64 r] w (PostIntErr E w) := by
  have C := Lib.hid (rwrong_is (x := r) (lo := 1) (hi := 2000) h riskB_iff w)
  clear h
  go_enter Try.func45, Try.ntmps45
  go_wp2_with (go_at_call 71; (with_reducible refine C.out.mono ?_); rintro e w1 ⟨rfl, rfl⟩)
  go_ret2
  exact ⟨rfl, Below.refl _ _⟩
theorem rgreatest_ok (n k : Nat) (r : Int) (w : World) (hr : 1 ≤ r) (hr1 : r ≤ 2000) (hn : n ≤ 300) (hk : k ≤ n) : Calls Try.prog 46 #[.int .i64 n, .int .i64 k, .int .i64 r] w (PostIntE (10000 - (lowB n (n - k) r : Int)) w) := by
  have C := Lib.hid (rwrong_is (r := true) (trErr_ok (n := n) (k := k) (by omega) (by omega) (by omega)) (x := r) (lo := 1) (hi := 2000) (by simp; omega) w)
  have l := rleast_ok n (n - k) r w hr hr1 hn (by omega)
  rw [show ((n - k : Nat) : Int) = (n : Int) - (k : Int) by omega] at l
  have L := Lib.hid l
  have hl := (lowB_spec n (n - k) hr1).1
  obtain ⟨z, hz⟩ : ∃ z, lowB n (n - k) r = z := ⟨_, rfl⟩
  rw [hz] at L hl ⊢
  have i0 : (0 : Int) ≤ (n : Int) := by omega
  have i1 : (n : Int) ≤ 300 := by omega
  have i2 : (0 : Int) ≤ (k : Int) := by omega
  have i3 : (k : Int) ≤ (n : Int) := by omega
  clear l hz
  go_enter Try.func46, Try.ntmps46
  go_wp2_with (first
    | (go_at_call 71; (with_reducible refine C.out.mono ?_); rintro e w1 ⟨rfl, rfl⟩)
    | (go_at_call 45; (with_reducible refine L.out.mono ?_); rintro e w1 ⟨rfl, b1⟩; have B1 := Lib.hid b1; clear b1))
  go_ret2
  exact ⟨rfl, B1.out⟩
theorem rgreatest_err (n k r E : Int) (w : World) (h : trErr n k (riskB r) = E) (h0 : (E != 0) = true) : Calls Try.prog 46 #[.int .i64 n, .int .i64 k, .int .i64 r] w (PostIntErr E w) := by
  have C := Lib.hid (rwrong_is (x := r) (lo := 1) (hi := 2000) h riskB_iff w)
  clear h
  go_enter Try.func46, Try.ntmps46
  go_wp2_with (go_at_call 71; (with_reducible refine C.out.mono ?_); rintro e w1 ⟨rfl, rfl⟩)
  go_ret2
  exact ⟨rfl, Below.refl _ _⟩

end Go.Proofs.Ytgbifcfdbelfpaa
