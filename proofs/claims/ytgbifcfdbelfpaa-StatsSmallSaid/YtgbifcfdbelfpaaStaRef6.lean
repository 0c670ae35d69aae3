/-
  The walks of the reference's sum and exceeds.
-/
import Derived.Test.YtgbifcfdbelfpaaStaRef5
namespace Go.Proofs.Ytgbifcfdbelfpaa
open Go.RowKit
set_option linter.unusedVariables false

set_option maxRecDepth 100000 in
set_option maxHeartbeats 4000000 in
theorem rsum_any (n a b : Nat) (p : Int) (w : World) (hn : n ≤ 1000) (ha : a ≤ b) (hb : b ≤ n) (hp : 0 ≤ p) (hp1 : p ≤ 10000) :
    Calls Try.prog 74 #[.int .i64 n, .int .i64 p, .int .i64 a, .int .i64 b] w (PostC (3 * n + 10) (Sb.ls n p (10000 - p) (b + 1) - Sb.ls n p (10000 - p) a) w) := by
  obtain ⟨q, hq⟩ : ∃ q, (10000 : Int) - p = q := ⟨_, rfl⟩
  have c := rchances_any n p w hn hp hp1
  rw [hq] at c ⊢
  have C := Lib.hid c
  clear hq c
  go_enter Try.func74, Try.ntmps74
  go_wp2_with (go_at_call 91; (with_reducible refine C.out.mono ?_); rintro e w1 ⟨v1, rfl, h1, b1⟩; have H1 := Lib.hid h1; have B1 := Lib.hid b1; clear h1 b1)
  obtain ⟨g, cap, rfl, hg, hc⟩ := H1.out.cells (by omega)
  have HC := Lib.hid hc; clear hc
  go_loopw [10, 11] (fun ov iv wr => ∃ k : Nat, a ≤ k ∧ k ≤ b + 1 ∧ iv = .int .i64 k ∧ Hid (NumD wr ov (2 * n + 1 + k) (Sb.ls n p q k - Sb.ls n p q a)) ∧ Hid (Below w1.heap.size w1 wr)) (fun _ iv _ => b + 1 - (intOf iv).toNat)
  case atStart => exact ⟨a, by omega, by omega, rfl, Lib.hid (by rw [Int.sub_self]; exact NumD.nil _ _), Lib.hid (Below.refl _ _)⟩
  case round =>
    obtain ⟨k, hk, hk1, rfl, HN, HB⟩ := hrel
    have i0 : (0 : Int) ≤ (k : Int) := by omega
    by_cases he : k = b + 1
    · subst he
      have TR := Lib.hid (trim_num _ _ _ _ (HN.out.mono (show 2 * n + 1 + (b + 1) ≤ 3 * n + 10 by omega)))
      have BB := Lib.hid (B1.out.trans (HB.out.mono B1.out.size))
      have i1 : (b : Int) < ((b + 1 : Nat) : Int) := by omega
      go_wp2_with (go_at_call 90; (with_reducible refine TR.out.mono ?_); rintro e w4 ⟨v4, rfl, h4, rfl⟩; have N4 := Lib.hid h4; clear h4)
      go_ret
      exact ⟨_, rfl, N4.out, BB.out⟩
    · obtain ⟨A, c, l, hcl, hN⟩ := HC.out k (by omega)
      have hcw := (bcell HB.out g k hg).trans hcl
      have ad := radd_any _ _ (2 * n + 1 + k) (2 * n + 1) (2 * n + 1 + (k + 1)) _ _ wr HN.out (hN.below HB.out) (by omega) (by omega) (by omega)
      rw [show Sb.ls n p q k - Sb.ls n p q a + Sb.cn n k p q = Sb.ls n p q (k + 1) - Sb.ls n p q a by rw [Sb.ls]; omega] at ad
      have AD := Lib.hid ad
      clear ad
      have i1 : (k : Int) ≤ (b : Int) := by omega
      have i2 : (k : Int) < ((n + 1 : Nat) : Int) := by omega
      clear hN hcl
      go_wp2_with (go_at_call 72; (with_reducible refine AD.out.mono ?_); rintro e w3 ⟨v3, rfl, h3, b3⟩; have N3 := Lib.hid h3; have B3 := Lib.hid (HB.out.trans (b3.mono HB.out.size)); clear h3 b3)
      exact ⟨⟨k + 1, by omega, by omega, by go_num, N3, B3⟩, by simp [intOf]; omega⟩

/-! ### exceeds -/
theorem dp_pow (n : Nat) : Nd.Bp n = 10000 ^ n := by
  induction n with
  | zero => rfl
  | succ n ih => rw [show Nd.Bp (n + 1) = 10000 * Nd.Bp n from rfl, ih, Int.pow_succ]; omega
theorem take_grow {l : List Int} (h : Nd.Dg l) (k : Nat) : ∀ m, k ≤ m → Nd.V (l.take k) ≤ Nd.V (l.take m)
  | 0, hk => by obtain rfl : k = 0 := by omega
                exact Int.le_refl _
  | m + 1, hk => by
    by_cases e : k = m + 1
    · rw [e]; exact Int.le_refl _
    · have := take_grow h k m (by omega)
      have h2 := Int.mul_nonneg (Int.le_of_lt (Nd.Bp_pos m)) (h.at m).1
      rw [Nd.V_take]
      omega
theorem take_pos {l : List Int} (h : Nd.Dg l) {k m : Nat} (hk : k < m) (hz : 0 < l.getD k 0) : 0 < Nd.V (l.take m) := by
  have h1 := take_grow h (k + 1) m (by omega)
  have h2 := Int.mul_pos (Nd.Bp_pos k) hz
  have h3 := Nd.V_nonneg (h.take k)
  rw [Nd.V_take] at h1
  omega
theorem ex_none {l : List Int} {r x : Int} (h : Nd.Can l) (hx : Nd.V l = x) (hr : 1 ≤ r) (hr1 : r ≤ 2000) : decide (0 < l.length) = exB 0 r x := by
  unfold exB
  rw [Int.pow_zero, decide_eq_decide]
  have h1 := h.nil_iff
  have h2 := Nd.V_nonneg h.dg
  rw [hx] at h1 h2
  rw [List.length_pos_iff]
  constructor
  · intro h3
    have : x ≠ 0 := fun e => h3 (h1.2 e)
    omega
  · intro h3 h4
    have := h1.1 h4
    omega
theorem ex_long {l : List Int} {r x : Int} {n : Nat} (h : Nd.Can l) (hx : Nd.V l = x) (hr1 : r ≤ 2000) (hl : n < l.length) : exB n r x = true := by
  unfold exB
  rw [decide_eq_true_eq, ← dp_pow]
  have h1 := h.len_iff n
  rw [hx] at h1
  have h2 : Nd.Bp n ≤ x := by
    rcases Int.lt_or_le x (Nd.Bp n) with c | c
    · have := h1.2 c; omega
    · exact c
  have h3 := Nd.Bp_pos n
  have h4 : Nd.Bp n * r ≤ Nd.Bp n * 2000 := Int.mul_le_mul_of_nonneg_left hr1 (by omega)
  omega
theorem ex_short {l : List Int} {r x : Int} {n : Nat} (h : Nd.Can l) (hx : Nd.V l = x) (hr : 1 ≤ r) (hl : l.length < n) : exB n r x = false := by
  unfold exB
  rw [decide_eq_false_iff_not, ← dp_pow]
  obtain ⟨m, rfl⟩ : ∃ m, n = m + 1 := ⟨n - 1, by omega⟩
  have h1 := (h.len_iff m).1 (by omega)
  have h3 := Nd.Bp_pos m
  rw [hx] at h1
  rw [show Nd.Bp (m + 1) = 10000 * Nd.Bp m from rfl]
  have h4 : 10000 * Nd.Bp m * 1 ≤ 10000 * Nd.Bp m * r := Int.mul_le_mul_of_nonneg_left hr (by omega)
  omega
/-- of n + 1 digits, d the last -/
theorem ex_same {l : List Int} {r x d : Int} {n : Nat} (h : Nd.Can l) (hx : Nd.V l = x) (hl : l.length = n + 1) (hd : l.getD n 0 = d) :
    (r < d → exB (n + 1) r x = true) ∧ (d < r → exB (n + 1) r x = false) ∧ (d = r → (0 < Nd.V (l.take n) → exB (n + 1) r x = true) ∧ (Nd.V (l.take n) = 0 → exB (n + 1) r x = false)) := by
  have e := Nd.V_take l n
  rw [← hl, List.take_length, hx, hd] at e
  have h1 := Nd.V_nonneg (h.dg.take n)
  have h2 := Nd.V_lt (h.dg.take n)
  rw [List.length_take, show min n l.length = n by omega] at h2
  have h3 := Nd.Bp_pos n
  unfold exB
  rw [← dp_pow, show Nd.Bp (n + 1) = 10000 * Nd.Bp n from rfl, e]
  generalize Nd.V (l.take n) = y at *
  generalize Nd.Bp n = B at *
  have hE : (y + B * d) * 10000 = 10000 * y + 10000 * B * d := by grind
  rw [hE]
  refine ⟨fun c => ?_, fun c => ?_, fun c => ⟨fun g => ?_, fun g => ?_⟩⟩
  · rw [decide_eq_true_eq]
    have h4 : 10000 * B * (r + 1) ≤ 10000 * B * d := Int.mul_le_mul_of_nonneg_left (by omega) (by omega)
    rw [Int.mul_add] at h4
    omega
  · rw [decide_eq_false_iff_not]
    have h4 : 10000 * B * (d + 1) ≤ 10000 * B * r := Int.mul_le_mul_of_nonneg_left (by omega) (by omega)
    rw [Int.mul_add] at h4
    omega
  · rw [decide_eq_true_eq, c]; omega
  · rw [decide_eq_false_iff_not, c]; omega

set_option maxRecDepth 100000 in
set_option maxHeartbeats 4000000 in
theorem rexceeds_any (v : Value) (L n : Nat) (r x : Int) (w : World) (h : NumC w v L x) (hr : 1 ≤ r) (hr1 : r ≤ 2000) (hn : n ≤ 1000) :
    Calls Try.prog 75 #[v, .int .i64 n, .int .i64 r] w fun e w' => e = .returned (.bool (exB n r x)) ∧ w = w' := by
  obtain ⟨A, c, l, rfl, hA, hC, hl, hx, hc1, hc2⟩ := h
  have HA := Lib.hid hA; have HC := Lib.hid hC; have HX := Lib.hid hx
  clear hA hC hx
  by_cases h0 : n = 0
  · subst h0
    have E := Lib.hid (ex_none HC.out HX.out hr hr1)
    go_enter Try.func75, Try.ntmps75
    go_wp2_with fail
    go_ret
    exact ⟨ret_bool E.out, rfl⟩
  · obtain ⟨m, rfl⟩ : ∃ m, n = m + 1 := ⟨n - 1, by omega⟩
    have i3 : ((m : Int) + 1) ≤ 1000 := by omega
    have i0 : (0 : Int) < ((m : Int) + 1) := by omega
    have hz : (((m : Int) + 1) == 0) = false := by rw [beq_eq_false_iff_ne]; omega
    by_cases h1 : m + 1 < l.length
    · have E := Lib.hid (ex_long HC.out HX.out hr1 h1)
      have i1 : ((m : Int) + 1) < (l.length : Int) := by omega
      have i2 : (0 : Int) < (l.length : Int) := by omega
      go_enter Try.func75, Try.ntmps75
      go_wp2_with fail
      go_ret
      exact ⟨ret_bool (by rw [E.out, decide_eq_true_eq]; omega), rfl⟩
    · by_cases h2 : l.length < m + 1
      · have E := Lib.hid (ex_short HC.out HX.out hr h2)
        have i1 : (l.length : Int) < ((m : Int) + 1) := by omega
        have i2 : (l.length : Int) ≤ ((m : Int) + 1) := by omega
        have hz2 : ((l.length : Int) == ((m : Int) + 1)) = false := by rw [beq_eq_false_iff_ne]; omega
        go_enter Try.func75, Try.ntmps75
        go_wp2_with fail
        all_goals go_ret
        all_goals exact ⟨ret_bool (by rw [E.out]), rfl⟩
      · have hlm : l.length = m + 1 := by omega
        obtain ⟨g, rfl, hg, hcl⟩ := HA.out.cell m (by omega)
        obtain ⟨d, hd⟩ : ∃ d, l.getD m 0 = d := ⟨_, rfl⟩
        rw [hd] at hcl
        have S := Lib.hid (ex_same (r := r) HC.out HX.out hlm hd)
        have HL := Lib.hid hlm
        have DA := Lib.hid (fun k (hk : k < m) => HA.out.cell k (by omega))
        rw [hlm] at hc1 hl ⊢
        have j0 : (0 : Int) ≤ (m : Int) := by omega
        have j1 : (m : Int) < ((m : Int) + 1) := by omega
        clear hlm h1 h2 h0 hd
        by_cases hdr : d = r
        · subst hdr
          have S3 := Lib.hid (S.out.2.2 rfl)
          clear S
          go_enter Try.func75, Try.ntmps75
          go_wp2_with fail
          go_loopw [7] (fun iv wr => ∃ k : Nat, k ≤ m ∧ iv = .int .i64 k ∧ w = wr ∧ Hid (Nd.V (l.take k) = 0)) (fun iv _ => m - (intOf iv).toNat)
          case atStart => exact ⟨0, by omega, rfl, rfl, Lib.hid (by simp [Nd.V])⟩
          case round =>
            obtain ⟨k, hk, rfl, rfl, HZ⟩ := hrel
            by_cases hkm : k = m
            · subst hkm
              have E := Lib.hid (S3.out.2 HZ.out)
              go_wp2_with fail
              go_ret
              exact ⟨ret_bool E.out.symm, rfl⟩
            · obtain ⟨g', e, hg', hck⟩ := DA.out k (by omega)
              obtain rfl : g = g' := by simpa using e
              have hdk := HC.out.dg.at k
              have hvk := Nd.V_take l k
              obtain ⟨z, hzk⟩ : ∃ z, l.getD k 0 = z := ⟨_, rfl⟩
              rw [hzk] at hck hdk hvk
              have i1 : (k : Int) < (m : Int) := by omega
              have i2 : (k : Int) < ((m : Int) + 1) := by omega
              by_cases hz0 : 0 < z
              · have E := Lib.hid (S3.out.1 (take_pos HC.out.dg (show k < m by omega) (by rw [hzk]; exact hz0)))
                clear hvk hzk e
                go_wp2_with fail
                go_ret
                exact ⟨ret_bool E.out.symm, rfl⟩
              · obtain rfl : z = 0 := by omega
                have HZ2 := Lib.hid (show Nd.V (l.take (k + 1)) = 0 by rw [hvk, HZ.out]; omega)
                clear hvk hzk e hdk
                go_wp2_with fail
                exact ⟨⟨k + 1, by omega, by go_num, trivial, HZ2⟩, by simp [intOf]; omega⟩
        · rcases Int.lt_or_gt_of_ne hdr with h5 | h5
          · have E := Lib.hid (S.out.2.1 h5)
            have hz2 : (d == r) = false := by rw [beq_eq_false_iff_ne]; omega
            have i1 : d ≤ r := by omega
            clear hdr
            go_enter Try.func75, Try.ntmps75
            go_wp2_with fail
            go_ret
            exact ⟨ret_bool (by rw [E.out, decide_eq_false_iff_not]; omega), rfl⟩
          · have E := Lib.hid (S.out.1 h5)
            have hz2 : (d == r) = false := by rw [beq_eq_false_iff_ne]; omega
            clear hdr
            go_enter Try.func75, Try.ntmps75
            go_wp2_with fail
            go_ret
            exact ⟨ret_bool E.out.symm, rfl⟩

end Go.Proofs.Ytgbifcfdbelfpaa
