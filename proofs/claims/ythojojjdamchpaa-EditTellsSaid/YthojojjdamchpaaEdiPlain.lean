/-
  Distances of texts in plain arithmetic: the least cost over the steps that fit. No program here.
-/
import Derived.Test.YthojojjdamchpaaRows
namespace Ed
set_option linter.unusedVariables false
set_option linter.unusedSimpArgs false

/-- costs -/
structure Cst where
  ins : Int
  del : Int
  chg : Int
  swp : Int
def Cst.ok (c : Cst) : Prop := (1 ≤ c.ins ∧ c.ins ≤ 1000) ∧ (1 ≤ c.del ∧ c.del ≤ 1000) ∧ (1 ≤ c.chg ∧ c.chg ≤ 1000) ∧ (1 ≤ c.swp ∧ c.swp ≤ 1000)
instance (c : Cst) : Decidable c.ok := by unfold Cst.ok; infer_instance
def fit1 : List UInt8 → List UInt8 → Bool
  | x :: _, y :: _ => x == y
  | _, _ => false
def fit2 : List UInt8 → List UInt8 → Bool
  | x :: _, y :: _ => x != y
  | _, _ => false
def fit3 : List UInt8 → List UInt8 → Bool
  | x :: x2 :: _, y :: y2 :: _ => x != x2 && x == y2 && x2 == y
  | _, _ => false
def fit4 : List UInt8 → Bool
  | [] => false
  | _ :: _ => true
/-- a step of kind k fits -/
def fit (k : Nat) (a b : List UInt8) : Bool :=
  if k = 1 then fit1 a b else if k = 2 then fit2 a b else if k = 3 then fit3 a b else if k = 4 then fit4 a else if k = 5 then fit4 b else false
/-- how many bytes it takes, and writes, and what it costs -/
def tk (k : Nat) : Nat := if k = 3 then 2 else if k = 5 then 0 else 1
def wr (k : Nat) : Nat := if k = 3 then 2 else if k = 4 then 0 else 1
def cst (c : Cst) (k : Nat) : Int := if k = 1 then 0 else if k = 2 then c.chg else if k = 3 then c.swp else if k = 4 then c.del else c.ins
/-- the least over the first m kinds -/
def lst (f : Nat → Int) (a b : List UInt8) : Nat → Option Int
  | 0 => none
  | m + 1 => if fit (m + 1) a b then some ((lst f a b m).elim (f (m + 1)) (fun v => min v (f (m + 1)))) else lst f a b m
def ds (c : Cst) : Nat → List UInt8 → List UInt8 → Int
  | 0, _, _ => 0
  | n + 1, a, b => (lst (fun k => cst c k + ds c n (a.drop (tk k)) (b.drop (wr k))) a b 5).getD 0
/-- the distance -/
def D (c : Cst) (a b : List UInt8) : Int := ds c (a.length + b.length) a b

theorem fit_nil (k : Nat) : fit k [] [] = false := by
  unfold fit; repeat' split
  all_goals rfl
theorem fit_len {k : Nat} {a b : List UInt8} (h : fit k a b = true) : tk k ≤ a.length ∧ wr k ≤ b.length ∧ 0 < tk k + wr k := by
  unfold fit at h; unfold tk wr
  by_cases h1 : k = 1
  · subst h1; simp at h ⊢
    cases a <;> cases b <;> simp [fit1] at h ⊢
  by_cases h2 : k = 2
  · subst h2; simp at h ⊢
    cases a <;> cases b <;> simp [fit2] at h ⊢
  by_cases h3 : k = 3
  · subst h3; simp at h ⊢
    match a, b with
    | [], _ => simp [fit3] at h
    | [_], _ => simp [fit3] at h
    | _ :: _ :: _, [] => simp [fit3] at h
    | _ :: _ :: _, [_] => simp [fit3] at h
    | _ :: _ :: _, _ :: _ :: _ => simp
  by_cases h4 : k = 4
  · subst h4; simp at h ⊢
    cases a <;> simp [fit4] at h ⊢
  by_cases h5 : k = 5
  · subst h5; simp at h ⊢
    cases b <;> simp [fit4] at h ⊢
  simp [h1, h2, h3, h4, h5] at h
theorem lst_congr {f g : Nat → Int} {a b : List UInt8} (m : Nat) (h : ∀ k, 1 ≤ k → k ≤ m → fit k a b = true → f k = g k) : lst f a b m = lst g a b m := by
  induction m with
  | zero => rfl
  | succ m ih =>
    unfold lst
    rw [ih fun k h1 h2 => h k h1 (by omega)]
    by_cases hf : fit (m + 1) a b = true
    · rw [if_pos hf, if_pos hf, h (m + 1) (by omega) (by omega) hf]
    · rw [if_neg hf, if_neg hf]
theorem ds_fuel (c : Cst) : ∀ n (a b : List UInt8), a.length + b.length ≤ n → ds c n a b = D c a b := by
  intro n
  induction n using Nat.strongRecOn with
  | ind n ih =>
    intro a b h
    match n, h with
    | 0, h =>
      unfold D
      rw [show a.length + b.length = 0 by omega]
    | n + 1, h =>
      unfold D
      cases hm : a.length + b.length with
      | zero =>
        have ha : a = [] := List.eq_nil_of_length_eq_zero (by omega)
        have hb : b = [] := List.eq_nil_of_length_eq_zero (by omega)
        subst ha; subst hb
        simp [ds, lst, fit_nil]
      | succ m =>
        unfold ds
        congr 1
        refine lst_congr 5 fun k _ _ hf => ?_
        obtain ⟨h1, h2, h3⟩ := fit_len hf
        have e : (a.drop (tk k)).length + (b.drop (wr k)).length ≤ m := by
          rw [List.length_drop, List.length_drop]; omega
        show cst c k + _ = cst c k + _
        rw [ih n (by omega) _ _ (by omega), ih m (by omega) _ _ e]
theorem D_eq (c : Cst) (a b : List UInt8) : D c a b = (lst (fun k => cst c k + D c (a.drop (tk k)) (b.drop (wr k))) a b 5).getD 0 := by
  rw [← ds_fuel c (a.length + b.length + 1) a b (by omega)]
  unfold ds
  congr 1
  refine lst_congr 5 fun k _ _ hf => ?_
  obtain ⟨h1, h2, h3⟩ := fit_len hf
  show cst c k + _ = cst c k + _
  rw [ds_fuel c _ _ _ (by rw [List.length_drop, List.length_drop]; omega)]
theorem lst_le {f : Nat → Int} {a b : List UInt8} {k : Nat} (h1 : 1 ≤ k) (hf : fit k a b = true) (m : Nat) (h2 : k ≤ m) : ∃ v, lst f a b m = some v ∧ v ≤ f k := by
  induction m with
  | zero => omega
  | succ m ih =>
    unfold lst
    by_cases hk : k = m + 1
    · subst hk
      rw [if_pos hf]
      refine ⟨_, rfl, ?_⟩
      cases lst f a b m with
      | none => exact Int.le_refl _
      | some v => exact Int.min_le_right _ _
    · obtain ⟨v, hv, hle⟩ := ih (by omega)
      rw [hv]
      split
      · exact ⟨_, rfl, Int.le_trans (Int.min_le_left _ _) hle⟩
      · exact ⟨v, rfl, hle⟩
theorem lst_mem {f : Nat → Int} {a b : List UInt8} (m : Nat) {v : Int} (h : lst f a b m = some v) : ∃ k, 1 ≤ k ∧ k ≤ m ∧ fit k a b = true ∧ v = f k := by
  induction m generalizing v with
  | zero => cases h
  | succ m ih =>
    unfold lst at h
    split at h
    · rename_i hf
      cases hl : lst f a b m with
      | none => rw [hl] at h; exact ⟨m + 1, by omega, by omega, hf, by cases h; rfl⟩
      | some u =>
        rw [hl] at h
        have h : min u (f (m + 1)) = v := by injection h
        by_cases hle : u ≤ f (m + 1)
        · rw [Int.min_eq_left hle] at h
          obtain ⟨k, h1, h2, h3, h4⟩ := ih hl
          exact ⟨k, h1, by omega, h3, by omega⟩
        · rw [Int.min_eq_right (by omega)] at h
          exact ⟨m + 1, by omega, by omega, hf, h.symm⟩
    · obtain ⟨k, h1, h2, h3, h4⟩ := ih h
      exact ⟨k, h1, by omega, h3, h4⟩
theorem D_nil (c : Cst) : D c [] [] = 0 := rfl
theorem D_le (c : Cst) {a b : List UInt8} {k : Nat} (h1 : 1 ≤ k) (h2 : k ≤ 5) (hf : fit k a b = true) : D c a b ≤ cst c k + D c (a.drop (tk k)) (b.drop (wr k)) := by
  rw [D_eq]
  obtain ⟨v, hv, hle⟩ := lst_le (f := fun k => cst c k + D c (a.drop (tk k)) (b.drop (wr k))) h1 hf 5 h2
  rw [hv]
  exact hle
theorem fit_some {a b : List UInt8} (h : a ≠ [] ∨ b ≠ []) : fit 4 a b = true ∨ fit 5 a b = true := by
  rcases h with h | h
  · cases a with
    | nil => exact absurd rfl h
    | cons x t => exact .inl rfl
  · cases b with
    | nil => exact absurd rfl h
    | cons x t => exact .inr rfl
theorem lst_some {f : Nat → Int} {a b : List UInt8} (h : a ≠ [] ∨ b ≠ []) : ∃ v, lst f a b 5 = some v := by
  rcases fit_some h with h | h
  · obtain ⟨v, hv, _⟩ := lst_le (f := f) (k := 4) (by omega) h 5 (by omega)
    exact ⟨v, hv⟩
  · obtain ⟨v, hv, _⟩ := lst_le (f := f) (k := 5) (by omega) h 5 (by omega)
    exact ⟨v, hv⟩
theorem D_arg (c : Cst) {a b : List UInt8} (h : a ≠ [] ∨ b ≠ []) : ∃ k, 1 ≤ k ∧ k ≤ 5 ∧ fit k a b = true ∧ D c a b = cst c k + D c (a.drop (tk k)) (b.drop (wr k)) := by
  obtain ⟨v, hv⟩ := lst_some (f := fun k => cst c k + D c (a.drop (tk k)) (b.drop (wr k))) h
  obtain ⟨k, h1, h2, h3, h4⟩ := lst_mem 5 hv
  refine ⟨k, h1, h2, h3, ?_⟩
  rw [D_eq, hv]
  exact h4
theorem cst_nonneg {c : Cst} (h : c.ok) (k : Nat) : 0 ≤ cst c k := by
  obtain ⟨⟨_, _⟩, ⟨_, _⟩, ⟨_, _⟩, ⟨_, _⟩⟩ := h
  unfold cst; repeat' split
  all_goals omega
theorem cst_max {c : Cst} (h : c.ok) (k : Nat) : cst c k ≤ 1000 := by
  obtain ⟨⟨_, _⟩, ⟨_, _⟩, ⟨_, _⟩, ⟨_, _⟩⟩ := h
  unfold cst; repeat' split
  all_goals omega
theorem D_bound {c : Cst} (h : c.ok) : ∀ n (a b : List UInt8), a.length + b.length ≤ n → 0 ≤ D c a b ∧ D c a b ≤ 1000 * (a.length + b.length : Nat) := by
  intro n
  induction n with
  | zero =>
    intro a b hl
    have ha : a = [] := List.eq_nil_of_length_eq_zero (by omega)
    have hb : b = [] := List.eq_nil_of_length_eq_zero (by omega)
    subst ha; subst hb
    simp [D_nil]
  | succ n ih =>
    intro a b hl
    by_cases h0 : a = [] ∧ b = []
    · obtain ⟨rfl, rfl⟩ := h0
      simp [D_nil]
    · obtain ⟨k, h1, h2, h3, h4⟩ := D_arg c (a := a) (b := b) (by by_cases ha : a = []; · exact .inr fun hb => h0 ⟨ha, hb⟩
                                                                  · exact .inl ha)
      obtain ⟨l1, l2, l3⟩ := fit_len h3
      have hs : (a.drop (tk k)).length + (b.drop (wr k)).length + (tk k + wr k) = a.length + b.length := by
        rw [List.length_drop, List.length_drop]; omega
      obtain ⟨i1, i2⟩ := ih (a.drop (tk k)) (b.drop (wr k)) (by omega)
      have c1 := cst_nonneg h k
      have c2 := cst_max h k
      rw [h4]
      refine ⟨by omega, ?_⟩
      omega
theorem D_nonneg {c : Cst} (h : c.ok) (a b : List UInt8) : 0 ≤ D c a b := (D_bound h _ a b (Nat.le_refl _)).1
theorem D_max {c : Cst} (h : c.ok) (a b : List UInt8) : D c a b ≤ 1000 * (a.length + b.length : Nat) := (D_bound h _ a b (Nat.le_refl _)).2
end Ed
