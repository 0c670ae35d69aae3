/-
  The walk of nat.Pow.
-/
import Derived.Test.YtgbifcfdbelfpaaNatDiv
namespace Go.Proofs.Ytgbifcfdbelfpaa
open Go.RowKit
set_option linter.unusedVariables false

theorem mul_fit (A B : Option Addr) (ca cb : Nat) (l m : List Int) (x y : Int) (w : World) (hr : Num w A l x) (hs : Num w B m y) (h : x * y < Na.Bp 1024) :
    Calls Try.prog 35 #[.slice A l.length ca, .slice B m.length cb] w (PostNumE (x * y) w) := by
  refine (mul_any A B ca cb l m x y w hr hs).mono ?_
  rintro e w' (⟨-, k⟩ | ⟨k, -⟩)
  · exact k
  · exact absurd h k
theorem mul_long (A B : Option Addr) (ca cb : Nat) (l m : List Int) (x y : Int) (w : World) (hr : Num w A l x) (hs : Num w B m y) (h : ¬ x * y < Na.Bp 1024) :
    Calls Try.prog 35 #[.slice A l.length ca, .slice B m.length cb] w (PostErr 3 w) := by
  refine (mul_any A B ca cb l m x y w hr hs).mono ?_
  rintro e w' (⟨k, -⟩ | ⟨-, k⟩)
  · exact absurd k h
  · exact k
theorem add_fit (A B : Option Addr) (ca cb : Nat) (l m : List Int) (x y : Int) (w : World) (hr : Num w A l x) (hs : Num w B m y) (h : x + y < Na.Bp 1024) :
    Calls Try.prog 25 #[.slice A l.length ca, .slice B m.length cb] w (PostNumE (x + y) w) := by
  refine (add_any A B ca cb l m x y w hr hs).mono ?_
  rintro e w' (⟨-, k⟩ | ⟨k, -⟩)
  · exact k
  · exact absurd h k

/-- powers -/
def pw (x : Int) : Nat → Int
  | 0 => 1
  | n + 1 => pw x n * x
theorem pw_add (x : Int) (m n : Nat) : pw x (m + n) = pw x m * pw x n := by
  induction n with
  | zero => simp [pw]
  | succ n ih => rw [← Nat.add_assoc, pw, pw, ih, Int.mul_assoc]
theorem pw_mul (x y : Int) (n : Nat) : pw (x * y) n = pw x n * pw y n := by
  induction n with
  | zero => rfl
  | succ n ih => rw [pw, pw, pw, ih]; grind
theorem pw_nn {x : Int} (h : 0 ≤ x) (n : Nat) : 0 ≤ pw x n := by
  induction n with
  | zero => rw [pw]; omega
  | succ n ih => rw [pw]; exact Int.mul_nonneg ih h
theorem pw_mono {x : Int} (h : 1 ≤ x) {m n : Nat} (hmn : m ≤ n) : pw x m ≤ pw x n := by
  obtain ⟨k, rfl⟩ := Nat.exists_eq_add_of_le hmn
  induction k with
  | zero => exact Int.le_refl _
  | succ k ih =>
    have h1 := ih (by omega)
    have h2 := pw_nn (show 0 ≤ x by omega) (m + k)
    rw [← Nat.add_assoc, pw]
    have : pw x (m + k) * 1 ≤ pw x (m + k) * x := Int.mul_le_mul_of_nonneg_left h h2
    omega
theorem pw_zero (n : Nat) : pw 0 n ≤ 1 := by cases n with
  | zero => decide
  | succ n => rw [pw, Int.mul_zero]; decide
/-- a power that is too long on the way is too long at the end -/
theorem pw_long {x : Int} (h0 : 0 ≤ x) {m n : Nat} (hmn : m ≤ n) (h : ¬ pw x m < Na.Bp 1024) : ¬ pw x n < Na.Bp 1024 := by
  by_cases hx : x = 0
  · subst hx
    have := pw_zero m
    have h2 : Na.Bp 1 ≤ Na.Bp 1024 := Na.Bp_le (by omega)
    have h3 : Na.Bp 1 = 4294967296 := by decide
    omega
  · have := pw_mono (show 1 ≤ x by omega) hmn
    omega
theorem pw_lt {x : Int} {k : Nat} (h0 : 0 ≤ x) (h : x < Na.Bp k) (n : Nat) (hn : 0 < n) : pw x n < Na.Bp (k * n) := by
  induction n with
  | zero => omega
  | succ n ih =>
    rcases Nat.eq_zero_or_pos n with rfl | hp
    · simp [pw]; exact h
    · have h1 := ih hp
      have h2 := pw_nn h0 n
      rw [pw, Nat.mul_succ, Na.Bp_add]
      have h3 : pw x n * x ≤ pw x n * Na.Bp k := Int.mul_le_mul_of_nonneg_left (by omega) h2
      have h4 : pw x n * Na.Bp k < Na.Bp (k * n) * Na.Bp k := Int.mul_lt_mul_of_pos_right h1 (Na.Bp_pos k)
      omega
theorem and_one_i64 (E : Int) (h0 : 0 ≤ E) (h1 : E ≤ 9223372036854775807) : bits .and .i64 E 1 = E % 2 := by
  have e1 : (BitVec.ofInt 64 E).toNat = E.toNat := by
    rw [← Int.toNat_of_nonneg h0, BitVec.ofInt_natCast, BitVec.toNat_ofNat, Int.toNat_natCast]; exact Nat.mod_eq_of_lt (by omega)
  have e2 : (BitVec.ofInt 64 (1 : Int)).toNat = 1 := by decide
  show IntKind.i64.wrap ((BitVec.ofInt 64 E &&& BitVec.ofInt 64 (1 : Int)).toNat : Int) = _
  rw [BitVec.toNat_and, e1, e2, Nat.and_one_is_mod, IntWalk.i64_in _ (by omega)]
  omega

theorem of_any' (n : Int) (w : World) (h0 : 0 ≤ n) (h1 : n ≤ 18446744073709551615) : Calls Try.prog 34 #[.int .u64 n] w (PostNum n w) := of_any n w h0 h1
/-- the state of a power: k bits are to come -/
def Pst (w wr : World) (x : Int) (n : Nat) (p e : Value) (k : Nat) : Prop :=
  ((∃ A c l, p = .slice A l.length c ∧ e = .int .i64 0 ∧ Num wr A l (pw x (n / 2 ^ k))) ∨ (p = .slice none 0 0 ∧ e = .int .i64 3 ∧ ¬ pw x n < Na.Bp 1024)) ∧ Below w.heap.size w wr

set_option maxRecDepth 100000 in
set_option maxHeartbeats 4000000 in
theorem pow_any (A : Option Addr) (ca n : Nat) (l : List Int) (x : Int) (w : World) (hr : Num w A l x) (hn : n ≤ 9223372036854775807) :
    Calls Try.prog 33 #[.slice A l.length ca, .int .i64 n] w (PostSum (pw x n) w) := by
  have hl1 := hr.len
  have hx0 := hr.nn
  have hq := right_any A ca l w hr.rd (by omega)
  rw [hr.rgt] at hq
  have ho := of_any 1 w (by omega) (by omega)
  have f1 : IntKind.u64.wrap (n : Int) = n := u64_in _ (by omega) (by omega)
  obtain ⟨K, hK⟩ : ∃ K, K = Lib.bitLen n := ⟨_, rfl⟩
  have hlen := fun wx => (Try.bits_Len n wx (by omega) (by omega)).mono (fun e w' h => (show e = .returned (.int .i64 K) ∧ wx = w' from ⟨by rw [h.1, hK]; rfl, h.2.symm⟩))
  have hK2 : n / 2 ^ K = 0 := Nat.div_eq_of_lt (by rw [hK]; exact Na.bitLen_bd (by omega))
  have hK3 : K ≤ 64 := by
    rcases Nat.eq_zero_or_pos n with h | h
    · rw [hK, h]; decide
    · rw [hK]; exact Na.bitLen_le (k := 64) (by omega) (by omega) h
  have n0 : (0 : Int) ≤ (n : Int) := by omega
  have HQ := Lib.hid hq; have HO := Lib.hid ho; have HLN := Lib.hid hlen; have Hr := Lib.hid hr; have HK := Lib.hid hK2
  clear hq ho hlen hr hK hK2
  go_enter Try.func33, Try.ntmps33
  go_wp2_with (first
    | (go_at_call 59; (with_reducible refine HQ.out.mono ?_); rintro e w' ⟨rfl, rfl⟩)
    | (go_at_call 34; (with_reducible refine HO.out.mono ?_); rintro e w1 ⟨A1, c1, l1, rfl, hn1, hb1⟩; have HN1 := Lib.hid hn1; have HB1 := Lib.hid hb1; clear hn1 hb1)
    | (go_at_call 64; (with_reducible refine (HLN.out _).mono ?_); rintro e w' ⟨rfl, rfl⟩))
  go_loopw [6, 7, 8] (fun p e i wr => ∃ k : Nat, k ≤ K ∧ i = .int .i64 ((k : Int) - 1) ∧ Pst w wr x n p e k) (fun _ _ i _ => (intOf i + 1).toNat)
  case atStart => exact ⟨K, Nat.le_refl _, by first | rfl | go_num, .inl ⟨A1, c1, l1, rfl, rfl, by rw [HK.out]; exact HN1.out⟩, HB1.out⟩
  case round =>
    obtain ⟨k, hk, rfl, hp, hbel⟩ := hrel
    rcases hp with ⟨A2, c2, l2, rfl, rfl, hn2⟩ | ⟨rfl, rfl, hlong⟩
    · by_cases h0 : k = 0
      · subst h0
        have hn3 := hn2
        rw [Nat.pow_zero, Nat.div_one] at hn3
        have hfit : pw x n < Na.Bp 1024 := by
          have := Na.V_lt hn3.can.dg
          rw [hn3.val] at this
          have := Na.Bp_le hn3.len
          omega
        have HB := Lib.hid hbel; have HN := Lib.hid hn3; have HF := Lib.hid hfit
        clear hbel hn2 hn3 hfit
        go_wp2_with fail
        go_ret2
        exact .inl ⟨HF.out, _, _, l2, rfl, HN.out, HB.out⟩
      · obtain ⟨j, rfl⟩ : ∃ j, k = j + 1 := ⟨k - 1, by omega⟩
        have e1 : ((j + 1 : Nat) : Int) - 1 = (j : Int) := by omega
        rw [e1]
        have j0 : (0 : Int) ≤ (j : Int) := by omega
        have j1 : (j : Int) ≤ 63 := by omega
        have hdiv : n / 2 ^ j = n / 2 ^ (j + 1) + n / 2 ^ (j + 1) + n / 2 ^ j % 2 := by
          have : n / 2 ^ (j + 1) = n / 2 ^ j / 2 := by rw [Nat.pow_succ, Nat.div_div_eq_div_mul]
          omega
        have hle : n / 2 ^ j ≤ n := Nat.div_le_self _ _
        have hshr : ((n : Int) / 2 ^ j) = ((n / 2 ^ j : Nat) : Int) := by simp
        have hsq : pw x (n / 2 ^ (j + 1)) * pw x (n / 2 ^ (j + 1)) = pw x (n / 2 ^ (j + 1) + n / 2 ^ (j + 1)) := (pw_add _ _ _).symm
        have hbits : n / 2 ^ j % 2 = 0 ∨ n / 2 ^ j % 2 = 1 := by omega
        obtain ⟨v, hv⟩ : ∃ v, n / 2 ^ j = v := ⟨_, rfl⟩
        rw [hv] at hdiv hle hshr hbits
        have HVJ := Lib.hid hv
        clear hv
        have hand := and_one_i64 (v : Int) (by omega) (by omega)
        generalize n / 2 ^ (j + 1) = u at *
        have HB := Lib.hid hbel; have HN := Lib.hid hn2
        clear hbel hn2 e1 h0
        by_cases hf : pw x (u + u) < Na.Bp 1024
        · have hm := mul_fit A2 A2 c2 c2 l2 l2 _ _ wr HN.out HN.out (by rw [hsq]; exact hf)
          rw [hsq] at hm
          have HM := Lib.hid hm
          clear hm hsq hf
          rcases hbits with hb | hb
          · have hvv : v = u + u := by omega
            have g1 : (bits .and .i64 ((n : Int) / 2 ^ j) 1 == 1) = false := by rw [hshr, hand, beq_eq_false_iff_ne]; omega
            have HVV := Lib.hid hvv
            clear hvv hb hdiv hshr hand
            go_wp2_with (go_at_call 35; (with_reducible refine HM.out.mono ?_); rintro e w1 ⟨A3, c3, l3, rfl, hn3, hb3⟩; have HN3 := Lib.hid hn3; have HB3 := Lib.hid hb3; clear hn3 hb3)
            exact ⟨⟨j, by omega, by go_num, .inl ⟨A3, c3, l3, rfl, rfl, by rw [HVJ.out, HVV.out]; exact HN3.out⟩, HB.out.trans (HB3.out.mono HB.out.size)⟩, by simp [intOf]⟩
          · have hvv : pw x v = pw x (u + u) * x := by rw [show v = u + u + 1 by omega, pw]
            have g1 : (bits .and .i64 ((n : Int) / 2 ^ j) 1 == 1) = true := by rw [hshr, hand, beq_iff_eq]; omega
            have HVV := Lib.hid hvv
            have hvn : v ≤ n := hle
            clear hb hdiv hshr hand
            by_cases hf2 : pw x v < Na.Bp 1024
            · have HF2 := Lib.hid hf2
              rw [hvv] at hf2
              have hm2 := fun w1 A3 c3 l3 (hn3 : Num w1 A3 l3 (pw x (u + u))) (hb3 : Below wr.heap.size wr w1) => mul_fit A3 A c3 ca l3 l _ _ w1 hn3 (Hr.out.below (HB.out.trans (hb3.mono HB.out.size))) hf2
              have HM2 := Lib.hid hm2
              clear hm2 hf2 hvv
              go_wp2_with (first
                | (go_at_call 35; (with_reducible refine HM.out.mono ?_); rintro e w1 ⟨A3, c3, l3, rfl, hn3, hb3⟩; have HN3 := Lib.hid hn3; have HB3 := Lib.hid hb3; clear hn3 hb3)
                | (go_at_call 35; (with_reducible refine (HM2.out _ _ c3 _ HN3.out HB3.out).mono ?_); rintro e w2 ⟨A4, c4, l4, rfl, hn4, hb4⟩; have HN4 := Lib.hid hn4; have HB4 := Lib.hid hb4; clear hn4 hb4))
              have hbb := HB.out.trans (HB3.out.mono HB.out.size)
              exact ⟨⟨j, by omega, by go_num, .inl ⟨A4, c4, l4, rfl, rfl, by rw [HVJ.out, HVV.out]; exact HN4.out⟩, hbb.trans (HB4.out.mono hbb.size)⟩, by simp [intOf]⟩
            · have hlong := pw_long hx0 hvn hf2
              rw [hvv] at hf2
              have hm2 := fun w1 A3 c3 l3 (hn3 : Num w1 A3 l3 (pw x (u + u))) (hb3 : Below wr.heap.size wr w1) => mul_long A3 A c3 ca l3 l _ _ w1 hn3 (Hr.out.below (HB.out.trans (hb3.mono HB.out.size))) hf2
              have HM2 := Lib.hid hm2; have HL := Lib.hid hlong
              clear hm2 hf2 hvv hlong
              go_wp2_with (first
                | (go_at_call 35; (with_reducible refine HM.out.mono ?_); rintro e w1 ⟨A3, c3, l3, rfl, hn3, hb3⟩; have HN3 := Lib.hid hn3; have HB3 := Lib.hid hb3; clear hn3 hb3)
                | (go_at_call 35; (with_reducible refine (HM2.out _ _ c3 _ HN3.out HB3.out).mono ?_); rintro e w2 ⟨rfl, hb4⟩; have HB4 := Lib.hid hb4; clear hb4))
              have hbb := HB.out.trans (HB3.out.mono HB.out.size)
              exact ⟨⟨j, by omega, by go_num, .inr ⟨rfl, rfl, by have := HL.out; omega⟩, hbb.trans (HB4.out.mono hbb.size)⟩, by simp [intOf]⟩
        · have hlong := pw_long hx0 (show u + u ≤ n by omega) hf
          have hm := mul_long A2 A2 c2 c2 l2 l2 _ _ wr HN.out HN.out (by rw [hsq]; exact hf)
          have HM := Lib.hid hm; have HL := Lib.hid hlong
          clear hm hsq hf hlong hshr hand hdiv hbits
          go_wp2_with (go_at_call 35; (with_reducible refine HM.out.mono ?_); rintro e w1 ⟨rfl, hb3⟩; have HB3 := Lib.hid hb3; clear hb3)
          exact ⟨⟨j, by omega, by go_num, .inr ⟨rfl, rfl, by have := HL.out; omega⟩, HB.out.trans (HB3.out.mono HB.out.size)⟩, by simp [intOf]⟩
    · have HB := Lib.hid hbel; have HL := Lib.hid hlong
      clear hbel hlong
      by_cases h0 : k = 0
      · subst h0
        go_wp2_with fail
        go_ret2
        exact .inr ⟨by have := HL.out; omega, rfl, HB.out⟩
      · obtain ⟨j, rfl⟩ : ∃ j, k = j + 1 := ⟨k - 1, by omega⟩
        have e1 : ((j + 1 : Nat) : Int) - 1 = (j : Int) := by omega
        rw [e1]
        have j0 : (0 : Int) ≤ (j : Int) := by omega
        clear e1 h0
        go_wp2_with fail
        go_ret2
        exact .inr ⟨by have := HL.out; omega, rfl, HB.out⟩

end Go.Proofs.Ytgbifcfdbelfpaa
