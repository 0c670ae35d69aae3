/-
  Plain mathematics of amounts, shares and splits: no program in sight.
-/
import GoSem.Core.Value
namespace Go.Proofs.YtbbmpjndalkgbaaDoor.Mo
set_option linter.unusedVariables false

/-- is it an amount? -/
def rt (a : Int) : Bool := decide (-1000000000000000 ≤ a ∧ a ≤ 1000000000000000)
theorem rt_iff (a : Int) : rt a = true ↔ -1000000000000000 ≤ a ∧ a ≤ 1000000000000000 := by simp [rt]
theorem rt_not (a : Int) : rt a = false ↔ (a < -1000000000000000 ∨ 1000000000000000 < a) := by rw [rt, decide_eq_false_iff_not]; omega
/-- sums -/
def sumZ : List Int → Int
  | [] => 0
  | a :: t => a + sumZ t
def allRt (zs : List Int) : Bool := zs.all rt
theorem sumZ_append (a b : List Int) : sumZ (a ++ b) = sumZ a + sumZ b := by
  induction a with
  | nil => simp [sumZ]
  | cons x t ih => simp only [List.cons_append, sumZ, ih]; omega
theorem take_snoc (zs : List Int) (k : Nat) (h : k < zs.length) : zs.take (k + 1) = zs.take k ++ [zs.getD k 0] := by
  rw [List.take_succ_eq_append_getElem h, List.getD_eq_getElem?_getD, List.getElem?_eq_getElem h]; rfl
theorem sumZ_take (zs : List Int) (k : Nat) (h : k < zs.length) : sumZ (zs.take (k + 1)) = sumZ (zs.take k) + zs.getD k 0 := by
  rw [take_snoc zs k h, sumZ_append]; simp [sumZ]
theorem allRt_take (zs : List Int) (k : Nat) (h : k < zs.length) : allRt (zs.take (k + 1)) = (allRt (zs.take k) && rt (zs.getD k 0)) := by
  rw [take_snoc zs k h]; simp [allRt]
theorem sumZ_bd (zs : List Int) (h : allRt zs = true) : -1000000000000000 * zs.length ≤ sumZ zs ∧ sumZ zs ≤ 1000000000000000 * zs.length := by
  induction zs with
  | nil => simp [sumZ]
  | cons a t ih =>
    simp only [allRt, List.all_cons, Bool.and_eq_true] at h
    have h1 := (rt_iff a).1 h.1
    have h2 := ih h.2
    simp only [sumZ, List.length_cons]
    omega
theorem allRt_of_take (zs : List Int) (k : Nat) (h : allRt (zs.take k) = false) : allRt zs = false := by
  cases hc : allRt zs
  · rfl
  · rw [allRt, List.all_eq_true] at hc
    have : allRt (zs.take k) = true := by
      rw [allRt, List.all_eq_true]
      exact fun x hx => hc x (List.mem_of_mem_take hx)
    rw [this] at h; cases h
def smE (zs : List Int) : Int := if 4096 < zs.length then 5 else if allRt zs = true then (if rt (sumZ zs) = true then 0 else 3) else 2
def smV (zs : List Int) : Int := if smE zs = 0 then sumZ zs else 0
theorem smE_many {zs : List Int} (h : 4096 < zs.length) : smE zs = 5 ∧ smV zs = 0 := by
  have : smE zs = 5 := by rw [smE, if_pos h]
  exact ⟨this, by rw [smV, if_neg (by omega)]⟩
theorem smE_arg {zs : List Int} (h : zs.length ≤ 4096) (h2 : allRt zs = false) : smE zs = 2 ∧ smV zs = 0 := by
  have : smE zs = 2 := by rw [smE, if_neg (by omega), if_neg (by simp [h2])]
  exact ⟨this, by rw [smV, if_neg (by omega)]⟩
theorem smE_long {zs : List Int} (h : zs.length ≤ 4096) (h2 : allRt zs = true) (h3 : rt (sumZ zs) = false) : smE zs = 3 ∧ smV zs = 0 := by
  have : smE zs = 3 := by rw [smE, if_neg (by omega), if_pos h2, if_neg (by simp [h3])]
  exact ⟨this, by rw [smV, if_neg (by omega)]⟩
theorem smE_ok {zs : List Int} (h : zs.length ≤ 4096) (h2 : allRt zs = true) (h3 : rt (sumZ zs) = true) : smE zs = 0 ∧ smV zs = sumZ zs := by
  have : smE zs = 0 := by rw [smE, if_neg (by omega), if_pos h2, if_pos h3]
  exact ⟨this, by rw [smV, if_pos this]⟩

/-! ### parts of an amount -/
/-- a / q, downwards, out of Go's own / and % -/
theorem tdown (a q : Int) (h : 0 < q) : (a.tmod q < 0 → a.tdiv q - 1 = a / q ∧ a.tmod q + q = a % q) ∧ (0 ≤ a.tmod q → a.tdiv q = a / q ∧ a.tmod q = a % q) := by
  have e1 := Int.mul_tdiv_add_tmod a q
  have t1 : a.tmod q < q := Int.tmod_lt_of_pos _ h
  have t2 : -q < a.tmod q := by
    have := Int.tmod_lt_of_pos (-a) h
    rw [Int.neg_tmod] at this
    omega
  have key : ∀ d r : Int, q * d + r = a → 0 ≤ r → r < q → d = a / q ∧ r = a % q := by
    intro d r e h0 h1
    have e2 : a / q = d := by
      rw [← e, Int.add_comm, Int.add_mul_ediv_left _ _ (by omega), Int.ediv_eq_zero_of_lt h0 h1]; omega
    have e3 : a % q = r := by
      rw [← e, Int.add_comm, Int.add_mul_emod_self_left, Int.emod_eq_of_lt h0 h1]
    exact ⟨e2.symm, e3.symm⟩
  refine ⟨fun hn => key _ _ ?_ (by omega) (by omega), fun hp => key _ _ e1 hp t1⟩
  rw [Int.mul_sub]; omega
theorem divmod_of {a q d r : Int} (h : 0 < q) (e : q * d + r = a) (h0 : 0 ≤ r) (h1 : r < q) : a / q = d ∧ a % q = r := by
  constructor
  · rw [← e, Int.add_comm, Int.add_mul_ediv_left _ _ (by omega), Int.ediv_eq_zero_of_lt h0 h1]; omega
  · rw [← e, Int.add_comm, Int.add_mul_emod_self_left, Int.emod_eq_of_lt h0 h1]
/-- the product is divided after the amount -/
theorem part_eq (a p q : Int) (h : 0 < q) : a / q * p + a % q * p / q = a * p / q ∧ a % q * p % q = a * p % q := by
  have e := Int.mul_ediv_add_emod a q
  have e2 := Int.mul_ediv_add_emod (a % q * p) q
  have := divmod_of (a := a * p) (d := a / q * p + a % q * p / q) (r := a % q * p % q) h (by
    rw [Int.mul_add, Int.add_assoc, e2]
    conv => rhs; rw [← e]
    rw [Int.add_mul, Int.mul_assoc]) (Int.emod_nonneg _ (by omega)) (Int.emod_lt_of_pos _ h)
  exact ⟨this.1.symm, this.2.symm⟩
/-- bounds of a part -/
theorem part_bd (a p q : Int) (h : 0 < q) (p0 : 0 ≤ p) (p1 : p ≤ q) (a0 : -1000000000000000 ≤ a) (a1 : a ≤ 1000000000000000) :
    -1000000000000000 ≤ a * p / q ∧ a * p / q ≤ 1000000000000000 := by
  constructor
  · rw [Int.le_ediv_iff_mul_le h]
    have h1 : -1000000000000000 * p ≤ a * p := Int.mul_le_mul_of_nonneg_right a0 p0
    have h2 : 1000000000000000 * p ≤ 1000000000000000 * q := by omega
    omega
  · rw [← Int.lt_add_one_iff, Int.ediv_lt_iff_lt_mul h]
    have h1 : a * p ≤ 1000000000000000 * p := Int.mul_le_mul_of_nonneg_right a1 p0
    have h2 : 1000000000000000 * p ≤ 1000000000000000 * q := by omega
    omega
/-- the parts that the code reckons with are in their bounds -/
theorem part_in (a p q : Int) (h : 0 < q) (hq : q ≤ 4096000000) (p0 : 0 ≤ p) (p1 : p ≤ q) (p2 : p ≤ 1000000) (a0 : -1000000000000000 ≤ a) (a1 : a ≤ 1000000000000000) :
    -1000000000000001 ≤ a / q ∧ a / q ≤ 1000000000000000 ∧ 0 ≤ a % q ∧ a % q < q ∧ 0 ≤ a % q * p ∧ a % q * p ≤ 4096000000000000 ∧ -1000000000000000 - 4096000000000000 ≤ a / q * p ∧ a / q * p ≤ 1000000000000000 ∧ 0 ≤ a % q * p / q ∧ a % q * p / q ≤ 4096000000000000 := by
  have m0 := Int.emod_nonneg a (show q ≠ 0 by omega)
  have m1 := Int.emod_lt_of_pos a h
  have e := (part_eq a p q h).1
  have b := part_bd a p q h p0 p1 a0 a1
  have q0 : 0 ≤ a % q * p := Int.mul_nonneg m0 p0
  have q1 : a % q * p ≤ 4096000000 * 1000000 := Int.mul_le_mul (by omega) p2 p0 (by omega)
  have r0 : 0 ≤ a % q * p / q := Int.ediv_nonneg q0 (by omega)
  have r1 : a % q * p / q ≤ a % q * p := Int.ediv_le_self _ q0
  have d0 : -1000000000000001 ≤ a / q := by
    rw [Int.le_ediv_iff_mul_le h]; have : 1000000000000001 * 1 ≤ 1000000000000001 * q := by omega
    omega
  have d1 : a / q ≤ 1000000000000000 := by
    rw [← Int.lt_add_one_iff, Int.ediv_lt_iff_lt_mul h]; omega
  refine ⟨d0, d1, m0, m1, q0, by omega, by omega, by omega, r0, by omega⟩

/-! ### shares -/
/-- what a way of rounding adds -/
def addB (a s way : Int) : Bool :=
  if way = 2 then decide (0 < a * s % 10000)
  else if way = 3 then decide (5000 < a * s % 10000 ∨ a * s % 10000 = 5000 ∧ 0 ≤ a * s / 10000)
  else if way = 4 then decide (5000 < a * s % 10000 ∨ a * s % 10000 = 5000 ∧ a * s / 10000 % 2 ≠ 0)
  else false
def shOk (a s way : Int) : Bool := rt a && decide (0 ≤ s ∧ s ≤ 10000) && decide (1 ≤ way ∧ way ≤ 4)
def shS (a s way : Int) : Int := a * s / 10000 + if addB a s way = true then 1 else 0
def shV (a s way : Int) : Int := if shOk a s way = true then shS a s way else 0
def shE (a s way : Int) : Int := if shOk a s way = true then 0 else 2
theorem shOk_iff (a s way : Int) : shOk a s way = true ↔ (-1000000000000000 ≤ a ∧ a ≤ 1000000000000000) ∧ (0 ≤ s ∧ s ≤ 10000) ∧ 1 ≤ way ∧ way ≤ 4 := by
  unfold shOk; rw [Bool.and_eq_true, Bool.and_eq_true, rt_iff]; simp [and_assoc]

/-! ### splits -/
/-- the parts, rounded down -/
def bs (c T : Int) (ws : List Int) : List Int := ws.map fun w => c * w / T
/-- what is left over by rounding down -/
def lft (c T : Int) (ws : List Int) : Int := c - sumZ (bs c T ws)
/-- what each weight gets -/
def spl (c T l : Int) : List Int → List Int
  | [] => []
  | w :: t => if 0 < l ∧ 0 < w then (c * w / T + 1) :: spl c T (l - 1) t else c * w / T :: spl c T l t
/-- what is left behind some weights -/
def lf (l : Int) : List Int → Int
  | [] => l
  | w :: t => if 0 < l ∧ 0 < w then lf (l - 1) t else lf l t
/-- how many weights are not 0 -/
def pos : List Int → Int
  | [] => 0
  | w :: t => (if 0 < w then 1 else 0) + pos t
def wts (ws : List Int) : Bool := ws.all fun w => decide (0 ≤ w ∧ w ≤ 1000000)
def spOk (c : Int) (ws : List Int) : Bool := rt c && wts ws && decide (0 < sumZ ws)
def spE (c : Int) (ws : List Int) : Int := if 4096 < ws.length then 5 else if spOk c ws = true then 0 else 2
def spV (c : Int) (ws : List Int) : List Int := if spE c ws = 0 then spl c (sumZ ws) (lft c (sumZ ws) ws) ws else []

theorem pos_nn (ws : List Int) : 0 ≤ pos ws := by
  induction ws with
  | nil => simp [pos]
  | cons w t ih => simp only [pos]; split <;> omega
theorem spl_len (c T l : Int) (ws : List Int) : (spl c T l ws).length = ws.length := by
  induction ws generalizing l with
  | nil => rfl
  | cons w t ih => simp only [spl]; split <;> simp [ih]
theorem bs_len (c T : Int) (ws : List Int) : (bs c T ws).length = ws.length := by simp [bs]
theorem spl_zero (c T l : Int) (h : l ≤ 0) (ws : List Int) : spl c T l ws = bs c T ws := by
  induction ws with
  | nil => rfl
  | cons w t ih => simp only [spl]; rw [if_neg (by omega), ih]; rfl
theorem spl_append (c T l : Int) (a b : List Int) : spl c T l (a ++ b) = spl c T l a ++ spl c T (lf l a) b := by
  induction a generalizing l with
  | nil => rfl
  | cons w t ih => simp only [List.cons_append, spl, lf]; split <;> simp [ih]
theorem lf_append (l : Int) (a b : List Int) : lf l (a ++ b) = lf (lf l a) b := by
  induction a generalizing l with
  | nil => rfl
  | cons w t ih => simp only [List.cons_append, lf]; split <;> exact ih _
theorem lf_eq (l : Int) (h : 0 ≤ l) (ws : List Int) : lf l ws = l - min l (pos ws) := by
  induction ws generalizing l with
  | nil => simp [lf, pos]; omega
  | cons w t ih =>
    have := pos_nn t
    simp only [lf, pos]
    split
    · rename_i c; rw [ih _ (by omega), if_pos c.2]; omega
    · rename_i c
      rw [ih _ h]
      by_cases hw : 0 < w
      · rw [if_pos hw]; omega
      · rw [if_neg hw]; omega
theorem spl_sum (c T l : Int) (h : 0 ≤ l) (ws : List Int) : sumZ (spl c T l ws) = sumZ (bs c T ws) + min l (pos ws) := by
  induction ws generalizing l with
  | nil => simp [spl, bs, pos, sumZ]; omega
  | cons w t ih =>
    have := pos_nn t
    simp only [spl, pos, bs, List.map_cons]
    split
    · rename_i cc
      have := ih (l - 1) (by omega)
      simp only [sumZ, bs] at this ⊢; rw [if_pos cc.2]; omega
    · rename_i cc
      have := ih l h
      simp only [sumZ, bs] at this ⊢
      by_cases hw : 0 < w
      · rw [if_pos hw]; omega
      · rw [if_neg hw]; omega
/-- what is left over, times the whole, are the rests -/
theorem lft_rests (c T : Int) (hT : 0 < T) (ws : List Int) (h0 : ∀ w ∈ ws, 0 ≤ w) : 0 ≤ c * sumZ ws - T * sumZ (bs c T ws) ∧ c * sumZ ws - T * sumZ (bs c T ws) ≤ (T - 1) * pos ws := by
  induction ws with
  | nil => simp [sumZ, bs, pos]
  | cons w t ih =>
    have i := ih (fun x hx => h0 x (by simp [hx]))
    have e := Int.mul_ediv_add_emod (c * w) T
    have m0 := Int.emod_nonneg (c * w) (show T ≠ 0 by omega)
    have m1 := Int.emod_lt_of_pos (c * w) hT
    have hw := h0 w (by simp)
    have e2 : bs c T (w :: t) = c * w / T :: bs c T t := rfl
    simp only [sumZ, pos, e2]
    rw [Int.mul_add, Int.mul_add]
    by_cases hp : 0 < w
    · rw [if_pos hp, Int.mul_add]; omega
    · have : w = 0 := by omega
      subst this
      rw [if_neg (by omega)]
      simp only [Int.mul_zero, Int.zero_ediv, Int.zero_add] at *
      omega
theorem lft_bd (c : Int) (ws : List Int) (hT : 0 < sumZ ws) (h0 : ∀ w ∈ ws, 0 ≤ w) : 0 ≤ lft c (sumZ ws) ws ∧ lft c (sumZ ws) ws ≤ pos ws := by
  obtain ⟨h1, h2⟩ := lft_rests c (sumZ ws) hT ws h0
  unfold lft
  generalize sumZ ws = T at *
  generalize sumZ (bs c T ws) = S at *
  have hp := pos_nn ws
  generalize pos ws = p at *
  have e : c * T - T * S = (c - S) * T := by rw [Int.sub_mul, Int.mul_comm S T]
  rw [e] at h1 h2
  constructor
  · rcases Int.lt_or_le (c - S) 0 with h | h
    · have : (c - S) * T < 0 := Int.mul_neg_of_neg_of_pos h hT
      omega
    · exact h
  · rcases Int.lt_or_le p (c - S) with h | h
    · have h3 : (p + 1) * T ≤ (c - S) * T := Int.mul_le_mul_of_nonneg_right (by omega) (by omega)
      rw [Int.add_mul] at h3
      have h4 : (T - 1) * p = p * T - p := by rw [Int.sub_mul, Int.mul_comm T p]; omega
      omega
    · exact h
theorem wts_mem {ws : List Int} (h : wts ws = true) : ∀ w ∈ ws, 0 ≤ w ∧ w ≤ 1000000 := by
  intro w hw
  rw [wts, List.all_eq_true] at h
  simpa using h w hw
theorem wts_take (zs : List Int) (k : Nat) (h : k < zs.length) : wts (zs.take (k + 1)) = (wts (zs.take k) && decide (0 ≤ zs.getD k 0 ∧ zs.getD k 0 ≤ 1000000)) := by
  rw [take_snoc zs k h]; simp [wts]
theorem wts_of_take (zs : List Int) (k : Nat) (h : wts (zs.take k) = false) : wts zs = false := by
  cases hc : wts zs
  · rfl
  · rw [wts, List.all_eq_true] at hc
    have : wts (zs.take k) = true := by
      rw [wts, List.all_eq_true]
      exact fun x hx => hc x (List.mem_of_mem_take hx)
    rw [this] at h; cases h
theorem wts_sum {ws : List Int} (h : wts ws = true) : 0 ≤ sumZ ws ∧ sumZ ws ≤ 1000000 * ws.length := by
  have hm := wts_mem h
  clear h
  induction ws with
  | nil => simp [sumZ]
  | cons w t ih =>
    have h1 := hm w (by simp)
    have h2 := ih (fun x hx => hm x (by simp [hx]))
    simp only [sumZ, List.length_cons]; omega
theorem sumZ_mem {ws : List Int} (h : ∀ w ∈ ws, 0 ≤ w) : ∀ w ∈ ws, w ≤ sumZ ws := by
  induction ws with
  | nil => simp
  | cons a t ih =>
    have hs : ∀ l : List Int, (∀ w ∈ l, 0 ≤ w) → 0 ≤ sumZ l := by
      intro l hl
      induction l with
      | nil => simp [sumZ]
      | cons b r ih2 => have := hl b (by simp); have := ih2 (fun x hx => hl x (by simp [hx])); simp only [sumZ]; omega
    have h1 := h a (by simp)
    have h2 := hs t (fun x hx => h x (by simp [hx]))
    intro w hw
    simp only [sumZ]
    rcases List.mem_cons.1 hw with rfl | hw
    · omega
    · have := ih (fun x hx => h x (by simp [hx])) w hw; omega
theorem spOk_iff (c : Int) (ws : List Int) : spOk c ws = true ↔ rt c = true ∧ wts ws = true ∧ 0 < sumZ ws := by
  unfold spOk; rw [Bool.and_eq_true, Bool.and_eq_true]; simp [and_assoc]
theorem spE_many {c : Int} {ws : List Int} (h : 4096 < ws.length) : spE c ws = 5 ∧ spV c ws = [] := by
  have : spE c ws = 5 := by rw [spE, if_pos h]
  exact ⟨this, by rw [spV, if_neg (by omega)]⟩
theorem spE_bad {c : Int} {ws : List Int} (h : ws.length ≤ 4096) (h2 : spOk c ws = false) : spE c ws = 2 ∧ spV c ws = [] := by
  have : spE c ws = 2 := by rw [spE, if_neg (by omega), if_neg (by simp [h2])]
  exact ⟨this, by rw [spV, if_neg (by omega)]⟩
theorem spE_ok {c : Int} {ws : List Int} (h : ws.length ≤ 4096) (h2 : spOk c ws = true) : spE c ws = 0 ∧ spV c ws = spl c (sumZ ws) (lft c (sumZ ws) ws) ws := by
  have : spE c ws = 0 := by rw [spE, if_neg (by omega), if_pos h2]
  exact ⟨this, by rw [spV, if_pos this]⟩

/-! ### bit by bit -/
/-- what has been divided when the bit b is next -/
def up (w b : Int) : Int := if b = 0 then w else w / (2 * b)
/-- a bit: 1, 2, 4 .. or none -/
def isBit (b : Int) : Prop := b = 0 ∨ ∃ j : Nat, j ≤ 20 ∧ b = ((2 ^ j : Nat) : Int)
theorem isBit_half {b : Int} (h : isBit b) (h0 : 0 < b) : isBit (b / 2) ∧ ∀ w, up w (b / 2) = w / b := by
  rcases h with h | ⟨j, hj, rfl⟩
  · omega
  · rcases j with _ | j
    · refine ⟨.inl (by decide), fun w => ?_⟩
      have : ((2 ^ 0 : Nat) : Int) / 2 = 0 := by decide
      rw [this, up, if_pos rfl]; simp
    · have e : ((2 ^ (j + 1) : Nat) : Int) / 2 = ((2 ^ j : Nat) : Int) := by rw [Nat.pow_succ]; omega
      have hp : 0 < 2 ^ j := Nat.pow_pos (by omega)
      rw [e]
      refine ⟨.inr ⟨j, by omega, rfl⟩, fun w => ?_⟩
      rw [up, if_neg (by omega)]
      congr 1; rw [Nat.pow_succ]; omega
theorem up_step (w b : Int) (h0 : 0 < b) : w / b = 2 * up w b + w / b % 2 := by
  rw [up, if_neg (by omega)]
  have : w / (2 * b) = w / b / 2 := by rw [Int.mul_comm, ← Int.ediv_ediv_of_nonneg (by omega)]
  rw [this]; omega
theorem isBit_bd {b : Int} (h : isBit b) : 0 ≤ b ∧ b ≤ 1048576 := by
  rcases h with rfl | ⟨j, hj, rfl⟩
  · omega
  · have : 2 ^ j ≤ 2 ^ 20 := Nat.pow_le_pow_right (by omega) hj
    have e : (2:Nat) ^ 20 = 1048576 := by decide
    rw [e] at this
    generalize 2 ^ j = m at this
    omega
theorem quot_bd {q d r X M : Int} (h : 0 < d) (e : d * q + r = X) (r0 : 0 ≤ r) (r1 : r < 3 * d) (x0 : -(M * d) ≤ X) (x1 : X ≤ M * d) : -M - 3 ≤ q ∧ q ≤ M := by
  constructor
  · rcases Int.lt_or_le q (-M - 3) with h1 | h1
    · have h2 : d * q ≤ d * (-M - 4) := Int.mul_le_mul_of_nonneg_left (by omega) (by omega)
      rw [Int.mul_sub, Int.mul_neg, Int.mul_comm d M] at h2
      omega
    · exact h1
  · rcases Int.lt_or_le M q with h1 | h1
    · have h2 : d * (M + 1) ≤ d * q := Int.mul_le_mul_of_nonneg_left (by omega) (by omega)
      rw [Int.mul_add, Int.mul_comm d M] at h2
      omega
    · exact h1
theorem prod_bd {a u d M : Int} (h : 0 ≤ u) (h1 : u ≤ d) (m0 : 0 ≤ M) (a0 : -M ≤ a) (a1 : a ≤ M) : -(M * d) ≤ a * u ∧ a * u ≤ M * d := by
  have h2 : M * u ≤ M * d := Int.mul_le_mul_of_nonneg_left h1 m0
  have h3 : a * u ≤ M * u := Int.mul_le_mul_of_nonneg_right a1 h
  have h4 : -M * u ≤ a * u := Int.mul_le_mul_of_nonneg_right a0 h
  rw [Int.neg_mul] at h4
  omega
end Go.Proofs.YtbbmpjndalkgbaaDoor.Mo
