/-
  Plain mathematics of the long division; lengths in bits; no program in sight.
-/
import Derived.Test.YtgbifcfdbelfpaaNatPlain2
import Derived.Lib.BitFns
namespace Go.Proofs.Ytgbifcfdbelfpaa.Na
set_option linter.unusedVariables false

/-! ### lengths in bits -/
theorem bitLenAux_lt : ∀ (f x : Nat), x < 2 ^ f → x < 2 ^ Lib.bitLenAux f x
  | 0, x, h => by simpa [Lib.bitLenAux] using h
  | f + 1, x, h => by
    rw [Lib.bitLenAux]
    by_cases hx : x = 0
    · rw [if_pos hx]; simp [hx]
    · rw [if_neg hx, Nat.pow_add]
      have := bitLenAux_lt f (x / 2) (by rw [Nat.pow_succ] at h; omega)
      omega
theorem bitLenAux_ge : ∀ (f x : Nat), x < 2 ^ f → 0 < x → 2 ^ (Lib.bitLenAux f x - 1) ≤ x ∧ 1 ≤ Lib.bitLenAux f x
  | 0, x, h, h0 => by simp at h; omega
  | f + 1, x, h, h0 => by
    rw [Lib.bitLenAux, if_neg (by omega)]
    by_cases hx : x / 2 = 0
    · have e : Lib.bitLenAux f (x / 2) = 0 := by rw [hx]; cases f <;> simp [Lib.bitLenAux]
      rw [e]; simp; omega
    · obtain ⟨h1, h2⟩ := bitLenAux_ge f (x / 2) (by rw [Nat.pow_succ] at h; omega) (by omega)
      refine ⟨?_, by omega⟩
      rw [show 1 + Lib.bitLenAux f (x / 2) - 1 = (Lib.bitLenAux f (x / 2) - 1) + 1 by omega, Nat.pow_succ]
      omega
theorem bitLen_bd {x : Nat} (h : x < 18446744073709551616) : x < 2 ^ Lib.bitLen x := bitLenAux_lt 64 x h
theorem bitLen_ge {x : Nat} (h : x < 18446744073709551616) (h0 : 0 < x) : 2 ^ (Lib.bitLen x - 1) ≤ x ∧ 1 ≤ Lib.bitLen x := bitLenAux_ge 64 x h h0
theorem bitLen_le {x k : Nat} (h : x < 2 ^ k) (hk : k ≤ 64) (h0 : 0 < x) : Lib.bitLen x ≤ k := by
  have hx : x < 18446744073709551616 := Nat.lt_of_lt_of_le h (Nat.pow_le_pow_right (by omega) hk)
  obtain ⟨h1, h2⟩ := bitLen_ge hx h0
  have : 2 ^ (Lib.bitLen x - 1) < 2 ^ k := by omega
  have := (Nat.pow_lt_pow_iff_right (by omega)).1 this
  omega
/-- how far the highest limb can be shifted -/
theorem shift_of {x : Int} (h0 : 0 < x) (h1 : x < 4294967296) : ∃ s : Nat, s ≤ 31 ∧ 32 - (Lib.bitLen x.toNat : Int) = s ∧ (x + 1) * 2 ^ s ≤ 4294967296 := by
  have hx : x.toNat < 18446744073709551616 := by omega
  have hb := bitLen_bd hx
  obtain ⟨-, hg⟩ := bitLen_ge hx (by omega)
  have hl := bitLen_le (x := x.toNat) (k := 32) (by omega) (by omega) (by omega)
  refine ⟨32 - Lib.bitLen x.toNat, by omega, by omega, ?_⟩
  generalize Lib.bitLen x.toNat = k at *
  have e : (2 : Int) ^ k * 2 ^ (32 - k) = 4294967296 := by
    rw [← Int.pow_add, show k + (32 - k) = 32 by omega]; rfl
  have hp : 0 < (2 : Int) ^ (32 - k) := Int.pow_pos (by omega)
  have hc : ((2 ^ k : Nat) : Int) = (2 : Int) ^ k := by simp
  have : (x + 1) * 2 ^ (32 - k) ≤ 2 ^ k * 2 ^ (32 - k) := Int.mul_le_mul_of_nonneg_right (by omega) (by omega)
  omega

/-! ### the long division -/
/-- the shifted divisor: its highest limb is 0, the next one is not -/
theorem divisor_top {m L : List Int} {n : Nat} {P : Int} (hm : Can m) (hn : m.length = n + 1) (hP : 1 ≤ P) (ht : (m.getD n 0 + 1) * P ≤ 4294967296) (hL : Dg L) (hl : L.length = n + 2) (hv : V L = V m * P) :
    L.getD (n + 1) 0 = 0 ∧ 1 ≤ L.getD n 0 ∧ V L < Bp (n + 1) := by
  have a1 := V_take m n
  rw [show m.take (n + 1) = m by rw [← hn, List.take_length]] at a1
  have a2 := V_lt (hm.dg.take n)
  rw [List.length_take, show min n m.length = n by omega] at a2
  have a3 := hm.len (by intro e; rw [e] at hn; simp at hn)
  rw [hn, Nat.add_sub_cancel] at a3
  have hBn := Bp_pos n
  have e1 : Bp (n + 1) = 4294967296 * Bp n := rfl
  have hlt : V L < Bp (n + 1) := by
    have b1 : V m < (m.getD n 0 + 1) * Bp n := by rw [Int.add_mul, Int.mul_comm]; omega
    have b2 : V m * P < (m.getD n 0 + 1) * Bp n * P := Int.mul_lt_mul_of_pos_right b1 (by omega)
    have b3 : (m.getD n 0 + 1) * P * Bp n ≤ 4294967296 * Bp n := Int.mul_le_mul_of_nonneg_right ht (by omega)
    rw [hv, e1]; grind
  have c1 := V_take L (n + 1)
  rw [show L.take (n + 1 + 1) = L by rw [show n + 1 + 1 = L.length by omega, List.take_length]] at c1
  have c2 := V_nonneg (hL.take (n + 1))
  obtain ⟨d0, d1⟩ := hL.at (n + 1)
  have z : L.getD (n + 1) 0 = 0 := by
    by_cases k : 1 ≤ L.getD (n + 1) 0
    · have : Bp (n + 1) * 1 ≤ Bp (n + 1) * L.getD (n + 1) 0 := Int.mul_le_mul_of_nonneg_left k (by have := Bp_pos (n + 1); omega)
      omega
    · omega
  refine ⟨z, ?_, hlt⟩
  rw [z] at c1
  have c3 := V_take L n
  have c4 := V_lt (hL.take n)
  rw [List.length_take, show min n L.length = n by omega] at c4
  obtain ⟨f0, f1⟩ := hL.at n
  have hge : V m ≤ V L := by
    rw [hv]
    have : V m * 1 ≤ V m * P := Int.mul_le_mul_of_nonneg_left hP (V_nonneg hm.dg)
    omega
  by_cases k : L.getD n 0 = 0
  · rw [k] at c3; omega
  · omega
/-- what is ahead of the first quotient is less than the divisor -/
theorem rest_start {R : List Int} {x y P : Int} {la n N : Nat} (hR : Dg R) (hl : R.length = la + 1) (hN : N = la + 1 - (n + 1)) (hx0 : 0 ≤ x) (hx : x < Bp la) (hy : Bp n ≤ y) (hP : 1 ≤ P) (hv : V R = x * P) : V (R.drop N) < y * P := by
  have hs := V_split R N (by omega)
  have h0 := V_nonneg (hR.take N)
  have hy0 := Bp_pos n
  rcases Nat.lt_or_ge la (n + 1) with c | c
  · have e : N = 0 := by omega
    rw [e, List.drop_zero, hv]
    have : x < y := by
      have := Bp_le (show la ≤ n by omega)
      omega
    exact Int.mul_lt_mul_of_pos_right this (by omega)
  · by_cases k : V (R.drop N) < y * P
    · exact k
    · have e : Bp la = Bp N * Bp n := by rw [← Bp_add, show N + n = la by omega]
      have b1 : Bp N * (y * P) ≤ Bp N * V (R.drop N) := Int.mul_le_mul_of_nonneg_left (by omega) (by have := Bp_pos N; omega)
      have b2 : Bp N * Bp n ≤ Bp N * y := Int.mul_le_mul_of_nonneg_left hy (by have := Bp_pos N; omega)
      have b3 : (x + 1) * P ≤ Bp N * y * P := Int.mul_le_mul_of_nonneg_right (by omega) (by omega)
      rw [Int.add_mul] at b3
      have b4 : Bp N * (y * P) = Bp N * y * P := by grind
      omega
/-- the limbs from which a quotient is taken -/
theorem window {R : List Int} {D : Int} {j n : Nat} (hR : Dg R) (hj : j + (n + 2) ≤ R.length) (hlt : V (R.drop (j + 1)) < D) (hD : D < Bp (n + 1)) :
    V ((R.drop j).take (n + 2)) = V (R.drop j) ∧ V ((R.drop j).take (n + 2)) < D * 4294967296 ∧ V (R.drop (j + (n + 2))) = 0 := by
  have h1 := V_drop R j (by omega)
  obtain ⟨r0, r1⟩ := hR.at j
  have h2 := V_split (R.drop (j + 1)) (n + 1) (by simp; omega)
  rw [List.drop_drop, show j + 1 + (n + 1) = j + (n + 2) by omega] at h2
  have h3 := V_nonneg ((hR.drop (j + 1)).take (n + 1))
  have h4 := V_nonneg (hR.drop (j + (n + 2)))
  have hz : V (R.drop (j + (n + 2))) = 0 := by
    by_cases k : 1 ≤ V (R.drop (j + (n + 2)))
    · have : Bp (n + 1) * 1 ≤ Bp (n + 1) * V (R.drop (j + (n + 2))) := Int.mul_le_mul_of_nonneg_left k (by have := Bp_pos (n + 1); omega)
      omega
    · omega
  have h5 := V_split (R.drop j) (n + 2) (by simp; omega)
  rw [List.drop_drop, hz] at h5
  refine ⟨by omega, by omega, hz⟩
/-- a step of the long division -/
theorem div_step {R W t : List Int} {D XP : Int} {j n : Nat} (hR : Dg R) (hW : Dg W) (hj : j + (n + 2) ≤ R.length) (hWl : W.length = n + 2) (hz : V (R.drop (j + (n + 2))) = 0) (hwin : V ((R.drop j).take (n + 2)) = V (R.drop j)) (hD : 0 < D)
    (hv : V R + D * (Bp (j + 1) * V t) = XP) (hW2 : V W = V ((R.drop j).take (n + 2)) % D) :
    V (R.take j ++ (W ++ R.drop (j + (n + 2)))) + D * (Bp j * V (V ((R.drop j).take (n + 2)) / D :: t)) = XP ∧ V ((R.take j ++ (W ++ R.drop (j + (n + 2)))).drop j) < D ∧ Dg (R.take j ++ (W ++ R.drop (j + (n + 2)))) ∧ (R.take j ++ (W ++ R.drop (j + (n + 2)))).length = R.length := by
  have e := Int.mul_ediv_add_emod (V ((R.drop j).take (n + 2))) D
  have r := Int.emod_lt_of_pos (V ((R.drop j).take (n + 2))) hD
  have hs := V_split R j (by omega)
  have hlj : (R.take j).length = j := by rw [List.length_take]; omega
  refine ⟨?_, ?_, ?_, ?_⟩
  · rw [V_append, V_append, hz, hlj, hW2, V]
    rw [hwin] at e ⊢
    rw [Bp] at hv
    generalize V (R.drop j) / D = u at *
    generalize V (R.drop j) % D = v at *
    grind
  · rw [List.drop_append, List.drop_of_length_le (by omega), hlj, Nat.sub_self, List.drop_zero, List.nil_append, V_append, hz, hW2]
    omega
  · exact Dg.append.2 ⟨hR.take j, Dg.append.2 ⟨hW, hR.drop _⟩⟩
  · simp [hWl]; omega
/-- the end of the long division -/
theorem div_end {VR VQ x y P : Int} (hP : 1 ≤ P) (h0 : 0 ≤ VR) (h1 : VR < y * P) (hv : VR + y * P * VQ = x * P) (hy : 0 < y) : VQ = x / y ∧ VR / P = x % y := by
  have e : VR = (x - y * VQ) * P := by grind
  have d : VR / P = x - y * VQ := by rw [e, Int.mul_ediv_cancel _ (by omega)]
  have r0 : 0 ≤ x - y * VQ := by rw [← d]; exact Int.ediv_nonneg h0 (by omega)
  have r1 : x - y * VQ < y := by
    have : (x - y * VQ) * P < y * P := by omega
    exact Int.lt_of_mul_lt_mul_right this (by omega)
  have e2 : x = VQ * y + (x - y * VQ) := by grind
  have q := div_of (U := x) (D := y) (g := VQ) hy (by grind) (by grind)
  exact ⟨q.1.symm, by rw [d, ← q.2]; grind⟩

end Go.Proofs.Ytgbifcfdbelfpaa.Na
