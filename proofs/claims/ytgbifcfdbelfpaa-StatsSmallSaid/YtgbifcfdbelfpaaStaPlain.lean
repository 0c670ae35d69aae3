/-
  Plain arithmetic of binomial chances: no word of the program.
-/
namespace Go.Proofs.Ytgbifcfdbelfpaa.Sb

/-- the number of k-element subsets -/
def bin : Nat → Nat → Nat
  | _, 0 => 1
  | 0, _ + 1 => 0
  | n + 1, k + 1 => bin n k + bin n (k + 1)
theorem bin_zero (n : Nat) : bin n 0 = 1 := by cases n <;> rfl
theorem bin_gt : ∀ (n k : Nat), n < k → bin n k = 0
  | 0, k + 1, _ => rfl
  | n + 1, k + 1, h => by rw [bin, bin_gt n k (by omega), bin_gt n (k + 1) (by omega)]
theorem bin_self : ∀ n, bin n n = 1
  | 0 => rfl
  | n + 1 => by rw [bin, bin_self n, bin_gt n (n + 1) (by omega)]
/-- from one to the next -/
theorem bin_step : ∀ (n k : Nat), k ≤ n → bin n (k + 1) * (k + 1) = bin n k * (n - k)
  | 0, k, h => by obtain rfl : k = 0 := by omega
                  rfl
  | n + 1, 0, _ => by
    have h := bin_step n 0 (by omega)
    rw [bin_zero] at h
    rw [show bin (n + 1) (0 + 1) = bin n 0 + bin n (0 + 1) from rfl, bin_zero, bin_zero]
    omega
  | n + 1, k + 1, h => by
    have h1 := bin_step n k (by omega)
    rcases Nat.lt_or_ge n (k + 1) with h3 | h3
    · obtain rfl : k = n := by omega
      rw [show k + 1 - (k + 1) = 0 by omega, Nat.mul_zero, bin_gt (k + 1) (k + 1 + 1) (by omega), Nat.zero_mul]
    · have h2 := bin_step n (k + 1) h3
      obtain ⟨d, rfl⟩ : ∃ d, n = k + 1 + d := ⟨n - (k + 1), by omega⟩
      rw [bin, bin]
      rw [show k + 1 + d - k = d + 1 by omega] at h1
      rw [show k + 1 + d - (k + 1) = d by omega] at h2
      rw [show k + 1 + d + 1 - (k + 1) = d + 1 by omega]
      generalize bin (k + 1 + d) (k + 1) = b at h1 h2 ⊢
      generalize bin (k + 1 + d) (k + 1 + 1) = c at h2 ⊢
      generalize bin (k + 1 + d) k = a at h1 ⊢
      grind
theorem bin_symm : ∀ (n k : Nat), k ≤ n → bin n k = bin n (n - k)
  | n, 0, _ => by rw [bin_zero, Nat.sub_zero, bin_self]
  | 0, k + 1, h => by omega
  | n + 1, k + 1, h => by
    rcases Nat.lt_or_ge n (k + 1) with h3 | h3
    · obtain rfl : k = n := by omega
      rw [bin_self, Nat.sub_self, bin_zero]
    · rw [bin, bin_symm n k (by omega), bin_symm n (k + 1) h3, show n + 1 - (k + 1) = (n - (k + 1)) + 1 by omega, bin, show n - (k + 1) + 1 = n - k by omega, Nat.add_comm]
theorem bin_pos : ∀ (n k : Nat), k ≤ n → 0 < bin n k
  | n, 0, _ => by rw [bin_zero]; decide
  | 0, k + 1, h => by omega
  | n + 1, k + 1, h => by have := bin_pos n k (by omega); rw [bin]; omega

/-- the chance of k of n -/
def cn (n k : Nat) (p q : Int) : Int := (bin n k : Int) * p ^ k * q ^ (n - k)
/-- the chances of 0 to m - 1 -/
def ls (n : Nat) (p q : Int) : Nat → Int
  | 0 => 0
  | m + 1 => ls n p q m + cn n m p q

theorem pow_nn {x : Int} (h : 0 ≤ x) (n : Nat) : 0 ≤ x ^ n := by
  induction n with
  | zero => rw [Int.pow_zero]; omega
  | succ n ih => rw [Int.pow_succ]; exact Int.mul_nonneg ih h
theorem pow_pos {x : Int} (h : 0 < x) (n : Nat) : 0 < x ^ n := by
  induction n with
  | zero => rw [Int.pow_zero]; omega
  | succ n ih => rw [Int.pow_succ]; exact Int.mul_pos ih h
theorem pow_mono {x y : Int} (h : 0 ≤ x) (hxy : x ≤ y) (n : Nat) : x ^ n ≤ y ^ n := by
  induction n with
  | zero => rw [Int.pow_zero, Int.pow_zero]; omega
  | succ n ih =>
    rw [Int.pow_succ, Int.pow_succ]
    exact Int.mul_le_mul ih hxy h (pow_nn (by omega) n)
theorem cn_nn {p q : Int} (hp : 0 ≤ p) (hq : 0 ≤ q) (n k : Nat) : 0 ≤ cn n k p q :=
  Int.mul_nonneg (Int.mul_nonneg (Int.natCast_nonneg _) (pow_nn hp _)) (pow_nn hq _)
theorem cn_first (n : Nat) (p q : Int) : cn n 0 p q = q ^ n := by rw [cn, bin_zero, Int.pow_zero, Nat.sub_zero]; simp
theorem cn_last (n : Nat) (p q : Int) : cn n n p q = p ^ n := by rw [cn, bin_self, Nat.sub_self, Int.pow_zero]; simp
theorem cn_gt {n k : Nat} (h : n < k) (p q : Int) : cn n k p q = 0 := by rw [cn, bin_gt n k h]; simp
theorem cn_symm {n k : Nat} (h : k ≤ n) (p q : Int) : cn n k p q = cn n (n - k) q p := by
  rw [cn, cn, ← bin_symm n k h, show n - (n - k) = k by omega, Int.mul_assoc, Int.mul_assoc, Int.mul_comm (p ^ k)]
/-- one trial more -/
theorem cn_zero (n : Nat) (p q : Int) : cn (n + 1) 0 p q = q * cn n 0 p q := by rw [cn_first, cn_first, Int.pow_succ, Int.mul_comm]
theorem cn_succ (n k : Nat) (p q : Int) : cn (n + 1) (k + 1) p q = p * cn n k p q + q * cn n (k + 1) p q := by
  rcases Nat.lt_or_ge n (k + 1) with h | h
  · rw [cn_gt h, Int.mul_zero, Int.add_zero]
    rcases Nat.lt_or_ge n k with h2 | h2
    · rw [cn_gt h2, cn_gt (by omega), Int.mul_zero]
    · obtain rfl : k = n := by omega
      rw [cn_last, cn_last, Int.pow_succ, Int.mul_comm]
  · obtain ⟨d, rfl⟩ : ∃ d, n = k + 1 + d := ⟨n - (k + 1), by omega⟩
    rw [cn, cn, cn, bin, show k + 1 + d + 1 - (k + 1) = d + 1 by omega, show k + 1 + d - k = d + 1 by omega, show k + 1 + d - (k + 1) = d by omega, Int.pow_succ, Int.pow_succ, Int.natCast_add]
    generalize (bin (k + 1 + d) k : Int) = a
    generalize (bin (k + 1 + d) (k + 1) : Int) = b
    generalize p ^ k = x
    generalize q ^ d = y
    grind
/-- the way that the program goes -/
theorem cn_next {n k : Nat} (h : k < n) (p q : Int) : cn n (k + 1) p q * (((k + 1 : Nat) : Int) * q) = cn n k p q * (((n - k : Nat) : Int) * p) := by
  have h1 := bin_step n k (by omega)
  have h2 : ((bin n (k + 1) : Nat) : Int) * ((k + 1 : Nat) : Int) = (bin n k : Int) * ((n - k : Nat) : Int) := by
    rw [← Int.natCast_mul, h1, Int.natCast_mul]
  obtain ⟨d, hd⟩ : ∃ d, n - k = d + 1 := ⟨n - k - 1, by omega⟩
  rw [cn, cn, hd, show n - (k + 1) = d by omega, Int.pow_succ, Int.pow_succ]
  rw [hd] at h2
  generalize ((bin n (k + 1) : Nat) : Int) = b at h2 ⊢
  generalize ((bin n k : Nat) : Int) = a at h2 ⊢
  generalize ((k + 1 : Nat) : Int) = u at h2 ⊢
  generalize ((d + 1 : Nat) : Int) = v at h2 ⊢
  generalize p ^ k = x
  generalize q ^ d = y
  calc b * (x * p) * y * (u * q) = b * u * (x * p * y * q) := by grind
    _ = a * v * (x * p * y * q) := by rw [h2]
    _ = a * x * (y * q) * (v * p) := by grind
theorem cn_div {n k : Nat} (h : k < n) {p q : Int} (hq : 0 < q) : cn n k p q * (((n - k : Nat) : Int) * p) / (((k + 1 : Nat) : Int) * q) = cn n (k + 1) p q := by
  rw [← cn_next h]
  exact Int.mul_ediv_cancel _ (by have : 0 < ((k + 1 : Nat) : Int) * q := Int.mul_pos (by omega) hq
                                  omega)
theorem cn_q0 {n k : Nat} (h : k < n) (p : Int) : cn n k p 0 = 0 := by
  obtain ⟨d, hd⟩ : ∃ d, n - k = d + 1 := ⟨n - k - 1, by omega⟩
  rw [cn, hd, Int.pow_succ]; simp

/-- sums -/
theorem ls_nn {p q : Int} (hp : 0 ≤ p) (hq : 0 ≤ q) (n m : Nat) : 0 ≤ ls n p q m := by
  induction m with
  | zero => exact Int.le_refl _
  | succ m ih => have := cn_nn hp hq n m; rw [ls]; omega
theorem ls_mono {p q : Int} (hp : 0 ≤ p) (hq : 0 ≤ q) (n : Nat) {a b : Nat} (h : a ≤ b) : ls n p q a ≤ ls n p q b := by
  obtain ⟨d, rfl⟩ := Nat.exists_eq_add_of_le h
  induction d with
  | zero => exact Int.le_refl _
  | succ d ih => have := cn_nn hp hq n (a + d); have := ih (by omega); rw [← Nat.add_assoc, ls]; omega
theorem ls_succ (n : Nat) (p q : Int) (m : Nat) : ls (n + 1) p q (m + 1) = p * ls n p q m + q * ls n p q (m + 1) := by
  induction m with
  | zero => simp only [ls, cn_zero, Int.zero_add, Int.mul_zero]
  | succ m ih =>
    rw [ls, ih, cn_succ, show ls n p q (m + 1 + 1) = ls n p q (m + 1) + cn n (m + 1) p q from rfl, show ls n p q (m + 1) = ls n p q m + cn n m p q from rfl]
    grind
theorem ls_all (n : Nat) (p q : Int) : ∀ {m : Nat}, n < m → ls n p q m = (p + q) ^ n := by
  induction n with
  | zero =>
    intro m h
    obtain ⟨d, rfl⟩ : ∃ d, m = d + 1 := ⟨m - 1, by omega⟩
    induction d with
    | zero => simp [ls, cn, bin]
    | succ d ih => rw [ls, ih (by omega), cn_gt (by omega), Int.add_zero]
  | succ n ih =>
    intro m h
    obtain ⟨d, rfl⟩ : ∃ d, m = d + 1 := ⟨m - 1, by omega⟩
    rw [ls_succ, ih (show n < d by omega), ih (show n < d + 1 by omega), Int.pow_succ]
    generalize (p + q) ^ n = x
    grind
theorem ls_both (n : Nat) (p q : Int) : ∀ {k : Nat}, k ≤ n + 1 → ls n p q k + ls n q p (n + 1 - k) = (p + q) ^ n := by
  intro k
  induction k with
  | zero => intro _; rw [Nat.sub_zero, ls_all n q p (by omega), ls, Int.zero_add, Int.add_comm]
  | succ k ih =>
    intro h
    have h1 := ih (by omega)
    rw [show n + 1 - k = (n - k) + 1 by omega, ls] at h1
    rw [ls, cn_symm (show k ≤ n by omega), show n + 1 - (k + 1) = n - k by omega]
    omega
theorem ls_le {p q : Int} (hp : 0 ≤ p) (hq : 0 ≤ q) (n m : Nat) : ls n p q m ≤ (p + q) ^ n := by
  rcases Nat.lt_or_ge n m with h | h
  · rw [ls_all n p q h]; exact Int.le_refl _
  · rw [← ls_all n p q (show n < n + 1 by omega)]; exact ls_mono hp hq n (by omega)
theorem cn_le {p q : Int} (hp : 0 ≤ p) (hq : 0 ≤ q) (n k : Nat) : cn n k p q ≤ (p + q) ^ n := by
  have h1 := ls_le hp hq n (k + 1)
  have h2 := ls_nn hp hq n k
  rw [ls] at h1; omega
theorem one_pow (n : Nat) : (1 : Int) ^ n = 1 := by
  induction n with
  | zero => rfl
  | succ n ih => rw [Int.pow_succ, ih, Int.one_mul]
theorem cn_11 (n k : Nat) : cn n k 1 1 = bin n k := by rw [cn, one_pow, one_pow, Int.mul_one, Int.mul_one]

/-- if the share grows, the lower chance does not -/
theorem ls_share {p q : Int} (hp : 0 ≤ p) (hq : 0 < q) (n : Nat) : ∀ m, ls n (p + 1) (q - 1) m ≤ ls n p q m := by
  induction n with
  | zero => intro m; cases m with
    | zero => exact Int.le_refl _
    | succ m => rw [ls_all 0 _ _ (by omega), ls_all 0 _ _ (by omega)]; simp
  | succ n ih =>
    intro m
    cases m with
    | zero => exact Int.le_refl _
    | succ m =>
      rw [ls_succ, ls_succ]
      have h1 : (p + 1) * ls n (p + 1) (q - 1) m ≤ (p + 1) * ls n p q m := Int.mul_le_mul_of_nonneg_left (ih m) (by omega)
      have h2 : (q - 1) * ls n (p + 1) (q - 1) (m + 1) ≤ (q - 1) * ls n p q (m + 1) := Int.mul_le_mul_of_nonneg_left (ih (m + 1)) (by omega)
      have h3 := ls_mono hp (show 0 ≤ q by omega) n (show m ≤ m + 1 by omega)
      have h4 : (p + 1) * ls n p q m + (q - 1) * ls n p q (m + 1) = p * ls n p q m + q * ls n p q (m + 1) + ls n p q m - ls n p q (m + 1) := by grind
      omega
/-- and it falls by little -/
theorem ls_little {p q : Int} (hp : 0 ≤ p) (hq : 0 < q) (n : Nat) : ∀ m, (p + q) * (ls n p q m - ls n (p + 1) (q - 1) m) ≤ n * (p + q) ^ n := by
  induction n with
  | zero => intro m; cases m with
    | zero => simp [ls]
    | succ m => rw [ls_all 0 _ _ (by omega), ls_all 0 _ _ (by omega)]; simp
  | succ n ih =>
    intro m
    have h0 := pow_nn (show 0 ≤ p + q by omega) n
    cases m with
    | zero =>
      rw [ls, ls, Int.sub_self, Int.mul_zero]
      exact Int.mul_nonneg (by omega) (pow_nn (by omega) _)
    | succ m =>
      rw [ls_succ, ls_succ]
      have h1 : (p + 1) * ((p + q) * (ls n p q m - ls n (p + 1) (q - 1) m)) ≤ (p + 1) * (n * (p + q) ^ n) := Int.mul_le_mul_of_nonneg_left (ih m) (by omega)
      have h2 : (q - 1) * ((p + q) * (ls n p q (m + 1) - ls n (p + 1) (q - 1) (m + 1))) ≤ (q - 1) * (n * (p + q) ^ n) := Int.mul_le_mul_of_nonneg_left (ih (m + 1)) (by omega)
      have h3 : (p + q) * (ls n p q (m + 1) - ls n p q m) ≤ (p + q) * (p + q) ^ n := Int.mul_le_mul_of_nonneg_left (by have := cn_le hp (show 0 ≤ q by omega) n m; rw [ls]; omega) (by omega)
      rw [Int.pow_succ]
      generalize (p + q) ^ n = x at h0 h1 h2 h3 ⊢
      generalize ls n p q m = a at h1 h3 ⊢
      generalize ls n (p + 1) (q - 1) m = a' at h1 ⊢
      generalize ls n p q (m + 1) = b at h2 h3 ⊢
      generalize ls n (p + 1) (q - 1) (m + 1) = b' at h2 ⊢
      have e : (p + q) * (p * a + q * b - ((p + 1) * a' + (q - 1) * b')) = (p + 1) * ((p + q) * (a - a')) + (q - 1) * ((p + q) * (b - b')) + (p + q) * (b - a) := by grind
      have e2 : ((n + 1 : Nat) : Int) * (x * (p + q)) = (p + 1) * (n * x) + (q - 1) * (n * x) + (p + q) * x := by rw [Int.natCast_add]; grind
      rw [e, e2]
      omega
end Go.Proofs.Ytgbifcfdbelfpaa.Sb
