/-
  Plain mathematics of limbs: what a round of each loop does to the value; quotients; no program in sight.
-/
import Derived.Test.YtgbifcfdbelfpaaNatPlain
namespace Go.Proofs.Ytgbifcfdbelfpaa.Na
set_option linter.unusedVariables false

/-- a round that carries -/
theorem acc {d : List Int} {k : Nat} {c x lo hi X : Int} (hd : d.length = k) (h : V d + c * Bp k = X) (e : x + c = lo + 4294967296 * hi) : V (d ++ [lo]) + hi * Bp (k + 1) = X + Bp k * x := by
  rw [V_snoc, hd, Bp]; grind
/-- a round that borrows -/
theorem bor {d : List Int} {k : Nat} {T N M b x m lo hi v c : Int} (hd : d.length = k) (h : V d + T * N = M + b * Bp k) (e : x * T + b = lo + 4294967296 * hi) (hv : v = m - lo + 4294967296 * c) :
    V (d ++ [v]) + T * (N + Bp k * x) = (M + Bp k * m) + (hi + c) * Bp (k + 1) := by
  rw [V_snoc, hd, Bp]; grind
theorem lohi (x : Int) : x = x % 4294967296 + 4294967296 * (x / 4294967296) := by omega

/-- what is put in place of a limb of a block -/
theorem set_mid {d t : List Int} {k : Nat} {x v : Int} (hd : d.length = k) : (d ++ x :: t).set k v = (d ++ [v]) ++ t := by
  rw [List.set_append_right _ _ (by omega), hd, Nat.sub_self, List.set_cons_zero]; simp
theorem set_win {d m : List Int} {k : Nat} {v : Int} (hd : d.length = k) (hk : k < m.length) : (d ++ m.drop k).set k v = (d ++ [v]) ++ m.drop (k + 1) := by
  rw [drop_at m k hk, set_mid hd]
theorem get_win {d m : List Int} {k : Nat} (j : Nat) (hd : d.length = k) : (d ++ m.drop k).getD (k + j) 0 = m.getD (k + j) 0 := by
  rw [List.getD_eq_getElem?_getD, List.getD_eq_getElem?_getD, List.getElem?_append_right (by omega), List.getElem?_drop, hd]
  rw [show k + (k + j - k) = k + j by omega]
theorem get_win0 {d m : List Int} {k : Nat} (hd : d.length = k) : (d ++ m.drop k).getD k 0 = m.getD k 0 := get_win 0 hd
theorem len_win {d m : List Int} {k : Nat} (hd : d.length = k) (hk : k ≤ m.length) : (d ++ m.drop k).length = m.length := by simp; omega
/-- from the top down -/
theorem set_top {d m : List Int} {k : Nat} {v : Int} (hk : k < m.length) : (m.take (k + 1) ++ d).set k v = m.take k ++ ([v] ++ d) := by
  rw [take_snoc m k hk, List.append_assoc, List.set_append_right _ _ (by rw [List.length_take]; omega), List.length_take, show k - min k m.length = 0 by omega]
  simp
theorem get_top {d m : List Int} {k : Nat} (hk : k < m.length) : (m.take (k + 1) ++ d).getD k 0 = m.getD k 0 := by
  rw [List.getD_eq_getElem?_getD, List.getD_eq_getElem?_getD, List.getElem?_append_left (by rw [List.length_take]; omega), List.getElem?_take, if_pos (by omega)]
theorem get_mid {d m s : List Int} {k : Nat} (hk : k < m.length) (hd : d.length = k) : (d ++ m.drop k ++ s).getD k 0 = m.getD k 0 := by
  rw [List.getD_eq_getElem?_getD, List.getElem?_append_left (by simp; omega), ← List.getD_eq_getElem?_getD, get_win0 hd]
/-- a round that divides by 10^9, from the top down -/
theorem div9 {d : List Int} {R x X : Int} (h : V d * 1000000000 + R = X) : V ((R * 4294967296 + x) / 1000000000 :: d) * 1000000000 + (R * 4294967296 + x) % 1000000000 = x + 4294967296 * X := by
  rw [V]
  have := Int.mul_ediv_add_emod (R * 4294967296 + x) 1000000000
  omega

/-! ### shifts -/
theorem shr_val (p h : Int) (hp : 0 < p) (hh : p * h = 4294967296) (l : List Int) (hl : Dg l) (r : List Int) (hr : r.length = l.length) (hat : ∀ k, k < l.length → r.getD k 0 = l.getD k 0 / p + l.getD (k + 1) 0 % p * h) : V r = V l / p := by
  induction l generalizing r with
  | nil =>
    have : r = [] := List.eq_nil_of_length_eq_zero hr
    subst this; simp [V]
  | cons x t ih =>
    cases r with
    | nil => simp at hr
    | cons y s =>
      have h0 := hat 0 (by simp)
      simp only [List.getD_cons_zero, List.getD_cons_succ] at h0
      have h1 := ih (Dg.cons.1 hl).2 s (by simpa using hr) (fun k hk => by
        have := hat (k + 1) (by simpa using hk)
        simpa only [List.getD_cons_succ] using this)
      rw [V, V, h0, h1]
      have e1 : t.getD 0 0 % p = V t % p := by
        cases t with
        | nil => rfl
        | cons z u =>
          rw [V, List.getD_cons_zero]
          rw [← hh, Int.mul_assoc, Int.add_mul_emod_self_left]
      rw [e1]
      have e2 := Int.mul_ediv_add_emod (V t) p
      have e3 : x + 4294967296 * V t = x + p * (h * V t) := by rw [← hh]; grind
      rw [e3, Int.add_mul_ediv_left _ _ (by omega)]
      have e4 : h * V t = 4294967296 * (V t / p) + V t % p * h := by
        rw [← hh]
        conv => lhs; rw [← e2]
        grind
      rw [e4]; omega
theorem shr_dg (p h : Int) (hp : 0 < p) (hh : p * h = 4294967296) (hpos : 0 < h) {x y : Int} (hx : 0 ≤ x ∧ x < 4294967296) (hy : 0 ≤ y ∧ y < 4294967296) : 0 ≤ x / p ∧ x / p < h ∧ 0 ≤ y % p * h ∧ x / p + y % p * h < 4294967296 := by
  have a0 := Int.ediv_nonneg hx.1 (show 0 ≤ p by omega)
  have a1 : x / p < h := by
    rw [Int.ediv_lt_iff_lt_mul hp, Int.mul_comm, hh]; exact hx.2
  have b0 := Int.emod_nonneg y (show p ≠ 0 by omega)
  have b1 := Int.emod_lt_of_pos y hp
  have c0 : 0 ≤ y % p * h := Int.mul_nonneg b0 (by omega)
  have c1 : (y % p + 1) * h ≤ p * h := Int.mul_le_mul_of_nonneg_right (by omega) (by omega)
  rw [hh, Int.add_mul] at c1
  exact ⟨a0, a1, c0, by omega⟩

/-! ### quotients -/
/-- the guess out of the highest limbs is not too low -/
theorem guess_ge {U D top v P : Int} (hP : 0 < P) (hv : 0 < v) (hU : U < (top + 1) * P) (hD : v * P ≤ D) (hU0 : 0 ≤ U) (hB : U < D * 4294967296) : U / D ≤ min (top / v) 4294967295 := by
  have hD0 : 0 < D := by
    have := Int.mul_pos hv hP
    omega
  have q0 : 0 ≤ U / D := Int.ediv_nonneg hU0 (by omega)
  have e := Int.mul_ediv_add_emod U D
  have r0 := Int.emod_nonneg U (show D ≠ 0 by omega)
  have h1 : U / D < 4294967296 := by rw [Int.ediv_lt_iff_lt_mul hD0, Int.mul_comm]; exact hB
  have h2 : U / D ≤ top / v := by
    rw [Int.le_ediv_iff_mul_le hv]
    have a1 : U / D * (v * P) ≤ U / D * D := Int.mul_le_mul_of_nonneg_left hD q0
    have a2 : U / D * v * P < (top + 1) * P := by
      rw [Int.mul_assoc]
      have : D * (U / D) = U / D * D := Int.mul_comm _ _
      omega
    have := Int.lt_of_mul_lt_mul_right a2 (by omega)
    omega
  omega
/-- the quotient: it fits, and one more would not -/
theorem div_of {U D g : Int} (hD : 0 < D) (h0 : g * D ≤ U) (h1 : U < (g + 1) * D) : U / D = g ∧ U - g * D = U % D := by
  have e : U / D = g := by
    have a : g ≤ U / D := by rw [Int.le_ediv_iff_mul_le hD]; exact h0
    have b : U / D < g + 1 := by rw [Int.ediv_lt_iff_lt_mul hD]; exact h1
    omega
  have := Int.mul_ediv_add_emod U D
  rw [e] at this
  exact ⟨e, by grind⟩

end Go.Proofs.Ytgbifcfdbelfpaa.Na
