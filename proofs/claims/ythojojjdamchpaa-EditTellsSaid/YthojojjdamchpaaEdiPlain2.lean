/-
  Scripts in plain arithmetic: what they write, what they cost; the first script with the least cost. No program here.
-/
import Derived.Test.YthojojjdamchpaaEdiPlain
namespace Ed
set_option linter.unusedVariables false
set_option linter.unusedSimpArgs false

/-- a step that is as good as any -/
def good (c : Cst) (a b : List UInt8) (k : Nat) : Bool := fit k a b && (cst c k + D c (a.drop (tk k)) (b.drop (wr k)) == D c a b)
/-- the first kind that is -/
def fk (c : Cst) (a b : List UInt8) : Nat := if good c a b 1 then 1 else if good c a b 2 then 2 else if good c a b 3 then 3 else if good c a b 4 then 4 else 5
def byteOf (k : Nat) (b : List UInt8) : Nat := if k = 2 ∨ k = 5 then (b.headD 0).toNat else 0
def pathF (c : Cst) : Nat → List UInt8 → List UInt8 → List (Nat × Nat)
  | 0, _, _ => []
  | n + 1, a, b => if a.isEmpty && b.isEmpty then [] else (fk c a b, byteOf (fk c a b) b) :: pathF c n (a.drop (tk (fk c a b))) (b.drop (wr (fk c a b)))
/-- the path -/
def path (c : Cst) (a b : List UInt8) : List (Nat × Nat) := pathF c (a.length + b.length) a b
theorem fk_good (c : Cst) {a b : List UInt8} (h : a ≠ [] ∨ b ≠ []) : good c a b (fk c a b) = true ∧ 1 ≤ fk c a b ∧ fk c a b ≤ 5 ∧ ∀ k, 1 ≤ k → k < fk c a b → good c a b k = false := by
  obtain ⟨k, h1, h2, h3, h4⟩ := D_arg c h
  have hg : good c a b k = true := by unfold good; rw [h3, h4]; simp
  unfold fk
  by_cases g1 : good c a b 1 = true
  · rw [if_pos g1]; exact ⟨g1, by omega, by omega, fun k _ _ => by omega⟩
  rw [if_neg g1]
  have f1 : good c a b 1 = false := by simpa using g1
  by_cases g2 : good c a b 2 = true
  · rw [if_pos g2]; exact ⟨g2, by omega, by omega, fun k _ _ => by obtain rfl : k = 1 := by omega
                                                                   exact f1⟩
  rw [if_neg g2]
  have f2 : good c a b 2 = false := by simpa using g2
  by_cases g3 : good c a b 3 = true
  · rw [if_pos g3]; exact ⟨g3, by omega, by omega, fun k _ _ => by
      rcases (show k = 1 ∨ k = 2 by omega) with rfl | rfl
      · exact f1
      · exact f2⟩
  rw [if_neg g3]
  have f3 : good c a b 3 = false := by simpa using g3
  by_cases g4 : good c a b 4 = true
  · rw [if_pos g4]; exact ⟨g4, by omega, by omega, fun k _ _ => by
      rcases (show k = 1 ∨ k = 2 ∨ k = 3 by omega) with rfl | rfl | rfl
      · exact f1
      · exact f2
      · exact f3⟩
  rw [if_neg g4]
  have f4 : good c a b 4 = false := by simpa using g4
  refine ⟨?_, by omega, by omega, fun k _ _ => ?_⟩
  · rcases (show k = 1 ∨ k = 2 ∨ k = 3 ∨ k = 4 ∨ k = 5 by omega) with rfl | rfl | rfl | rfl | rfl
    · rw [f1] at hg; cases hg
    · rw [f2] at hg; cases hg
    · rw [f3] at hg; cases hg
    · rw [f4] at hg; cases hg
    · exact hg
  · rcases (show k = 1 ∨ k = 2 ∨ k = 3 ∨ k = 4 by omega) with rfl | rfl | rfl | rfl
    · exact f1
    · exact f2
    · exact f3
    · exact f4
theorem good_fit {c : Cst} {a b : List UInt8} {k : Nat} (h : good c a b k = true) : fit k a b = true ∧ D c a b = cst c k + D c (a.drop (tk k)) (b.drop (wr k)) := by
  unfold good at h
  rw [Bool.and_eq_true, beq_iff_eq] at h
  exact ⟨h.1, h.2.symm⟩
theorem pathF_fuel (c : Cst) : ∀ n (a b : List UInt8), a.length + b.length ≤ n → pathF c n a b = path c a b := by
  intro n
  induction n using Nat.strongRecOn with
  | ind n ih =>
    intro a b h
    unfold path
    match n, h with
    | 0, h => rw [show a.length + b.length = 0 by omega]
    | n + 1, h =>
      by_cases h0 : a = [] ∧ b = []
      · obtain ⟨rfl, rfl⟩ := h0
        simp [pathF]
      · have hne : a ≠ [] ∨ b ≠ [] := by by_cases ha : a = []; · exact .inr fun hb => h0 ⟨ha, hb⟩
                                         · exact .inl ha
        obtain ⟨g1, g2, g3, _⟩ := fk_good c hne
        obtain ⟨l1, l2, l3⟩ := fit_len (good_fit g1).1
        have he : (a.isEmpty && b.isEmpty) = false := by
          rcases hne with h | h
          · cases a with
            | nil => exact absurd rfl h
            | cons => rfl
          · cases b with
            | nil => exact absurd rfl h
            | cons => simp
        cases hm : a.length + b.length with
        | zero => omega
        | succ m =>
          have e : (a.drop (tk (fk c a b))).length + (b.drop (wr (fk c a b))).length ≤ m := by
            rw [List.length_drop, List.length_drop]; omega
          unfold pathF
          rw [if_neg (by rw [he]; simp), if_neg (by rw [he]; simp), ih n (by omega) _ _ (by omega), ih m (by omega) _ _ e]
theorem path_nil (c : Cst) : path c [] [] = [] := rfl
theorem path_eq (c : Cst) {a b : List UInt8} (h : a ≠ [] ∨ b ≠ []) : path c a b = (fk c a b, byteOf (fk c a b) b) :: path c (a.drop (tk (fk c a b))) (b.drop (wr (fk c a b))) := by
  obtain ⟨g1, g2, g3, _⟩ := fk_good c h
  obtain ⟨l1, l2, l3⟩ := fit_len (good_fit g1).1
  have he : (a.isEmpty && b.isEmpty) = false := by
    rcases h with h | h
    · cases a with
      | nil => exact absurd rfl h
      | cons => rfl
    · cases b with
      | nil => exact absurd rfl h
      | cons => simp
  rw [← pathF_fuel c (a.length + b.length + 1) a b (by omega)]
  unfold pathF
  rw [if_neg (by rw [he]; simp), pathF_fuel c _ _ _ (by rw [List.length_drop, List.length_drop]; omega)]
/-- what a step leaves, and writes -/
def eff (o : Nat × Nat) (s : List UInt8) : Option (List UInt8 × List UInt8) :=
  if o.1 = 5 then some (s, [UInt8.ofNat o.2])
  else match s with
    | [] => none
    | x :: t =>
      if o.1 = 2 then (if x.toNat = o.2 then none else some (t, [UInt8.ofNat o.2]))
      else if o.2 ≠ 0 then none
      else if o.1 = 1 then some (t, [x])
      else if o.1 = 4 then some (t, [])
      else if o.1 = 3 then (match t with
        | [] => none
        | y :: r => if x = y then none else some (r, [y, x]))
      else none
/-- what a script makes of a text -/
def app : List (Nat × Nat) → List UInt8 → Option (List UInt8)
  | [], s => if s.isEmpty then some [] else none
  | o :: l, s => match eff o s with
    | none => none
    | some (r, w) => (app l r).map (w ++ ·)
/-- what a script costs -/
def price (c : Cst) : List (Nat × Nat) → Int
  | [] => 0
  | o :: l => cst c o.1 + price c l
theorem eff_fit {o : Nat × Nat} {s r w : List UInt8} (hb : o.2 < 256) (h : eff o s = some (r, w)) (t : List UInt8) : 1 ≤ o.1 ∧ o.1 ≤ 5 ∧ fit o.1 s (w ++ t) = true ∧ r = s.drop (tk o.1) ∧ t = (w ++ t).drop (wr o.1) ∧ o.2 = byteOf o.1 (w ++ t) := by
  obtain ⟨k, y⟩ := o
  have hy : (UInt8.ofNat y).toNat = y := by rw [UInt8.toNat_ofNat']; exact Nat.mod_eq_of_lt hb
  unfold eff at h
  by_cases h5 : k = 5
  · subst h5
    simp at h
    obtain ⟨rfl, rfl⟩ := h
    exact ⟨by simp, by simp, rfl, rfl, rfl, hy.symm⟩
  rw [if_neg h5] at h
  match s with
  | [] => simp at h
  | x :: s' =>
    simp only at h
    by_cases h2 : k = 2
    · subst h2
      simp at h
      obtain ⟨h1, rfl, rfl⟩ := h
      refine ⟨by simp, by simp, ?_, rfl, rfl, hy.symm⟩
      show (x != UInt8.ofNat y) = true
      rw [bne_iff_ne]
      intro e
      exact h1 (by rw [e]; exact hy)
    rw [if_neg h2] at h
    by_cases h0 : y = 0
    · subst h0
      simp only [ne_eq, not_true_eq_false, if_false] at h
      by_cases h1 : k = 1
      · subst h1
        simp at h
        obtain ⟨rfl, rfl⟩ := h
        refine ⟨by simp, by simp, ?_, rfl, rfl, rfl⟩
        show (x == x) = true
        simp
      rw [if_neg h1] at h
      by_cases h4 : k = 4
      · subst h4
        simp at h
        obtain ⟨rfl, rfl⟩ := h
        exact ⟨by simp, by simp, rfl, rfl, rfl, rfl⟩
      rw [if_neg h4] at h
      by_cases h3 : k = 3
      · subst h3
        simp only [if_true] at h
        match s' with
        | [] => simp at h
        | z :: s2 =>
          simp at h
          obtain ⟨hne, rfl, rfl⟩ := h
          refine ⟨by simp, by simp, ?_, rfl, rfl, rfl⟩
          show (x != z && x == x && z == z) = true
          simp [hne]
      rw [if_neg h3] at h
      cases h
    · rw [if_pos h0] at h
      cases h
/-- no script costs less than the distance -/
theorem least (c : Cst) : ∀ (l : List (Nat × Nat)) (s t : List UInt8), (∀ o, o ∈ l → o.2 < 256) → app l s = some t → D c s t ≤ price c l := by
  intro l
  induction l with
  | nil =>
    intro s t _ h
    unfold app at h
    split at h
    · rename_i hs
      have : s = [] := by simpa using hs
      subst this
      cases h
      rw [D_nil]; exact Int.le_refl _
    · cases h
  | cons o l ih =>
    intro s t hb h
    unfold app at h
    cases he : eff o s with
    | none => rw [he] at h; cases h
    | some p =>
      obtain ⟨r, w⟩ := p
      rw [he] at h
      cases ha : app l r with
      | none => simp only [ha] at h; cases h
      | some u =>
        simp only [ha, Option.map_some] at h
        have h : w ++ u = t := by injection h
        subst h
        obtain ⟨k1, k5, hf, hr, ht, _⟩ := eff_fit (hb o (by simp)) he u
        have h1 := D_le c k1 k5 hf
        have h2 := ih r u (fun o' ho => hb o' (by simp [ho])) ha
        rw [← hr, ← ht] at h1
        unfold price
        omega
/-- the step that a fit describes -/
theorem eff_of_fit {k : Nat} {a b : List UInt8} (h1 : 1 ≤ k) (h5 : k ≤ 5) (hf : fit k a b = true) : ∃ w, eff (k, byteOf k b) a = some (a.drop (tk k), w) ∧ w ++ b.drop (wr k) = b := by
  have hof : ∀ y : UInt8, UInt8.ofNat y.toNat = y := fun y => by simp
  rcases (show k = 1 ∨ k = 2 ∨ k = 3 ∨ k = 4 ∨ k = 5 by omega) with rfl | rfl | rfl | rfl | rfl
  · match a, b with
    | [], _ => cases hf
    | _ :: _, [] => cases hf
    | x :: a', y :: b' =>
      have hf : (x == y) = true := hf
      have : x = y := by simpa using hf
      subst this
      exact ⟨[x], rfl, rfl⟩
  · match a, b with
    | [], _ => cases hf
    | _ :: _, [] => cases hf
    | x :: a', y :: b' =>
      have hf : (x != y) = true := hf
      have hne : x ≠ y := by simpa using hf
      have hnn : ¬ x.toNat = y.toNat := fun e => hne (UInt8.toNat_inj.1 e)
      refine ⟨[y], ?_, rfl⟩
      show (if x.toNat = y.toNat then none else some (a', [UInt8.ofNat y.toNat])) = _
      rw [if_neg hnn, hof]; rfl
  · match a, b with
    | [], _ => cases hf
    | [_], _ => cases hf
    | _ :: _ :: _, [] => cases hf
    | _ :: _ :: _, [_] => cases hf
    | x :: x2 :: a', y :: y2 :: b' =>
      have hf : (x != x2 && x == y2 && x2 == y) = true := hf
      rw [Bool.and_eq_true, Bool.and_eq_true, beq_iff_eq, beq_iff_eq, bne_iff_ne] at hf
      obtain ⟨⟨hne, rfl⟩, rfl⟩ := hf
      refine ⟨[x2, x], ?_, rfl⟩
      show (if x = x2 then none else some (a', [x2, x])) = _
      rw [if_neg hne]; rfl
  · match a with
    | [] => cases hf
    | x :: a' => exact ⟨[], rfl, rfl⟩
  · match b with
    | [] => cases hf
    | y :: b' =>
      refine ⟨[y], ?_, rfl⟩
      show some (a, [UInt8.ofNat y.toNat]) = _
      rw [hof]; rfl
theorem ne_of {a b : List UInt8} (h0 : ¬ (a = [] ∧ b = [])) : a ≠ [] ∨ b ≠ [] := by
  by_cases ha : a = []
  · exact .inr fun hb => h0 ⟨ha, hb⟩
  · exact .inl ha
/-- the path makes the other text, costs the distance, and is no longer than both -/
theorem path_ok (c : Cst) : ∀ n (a b : List UInt8), a.length + b.length ≤ n → app (path c a b) a = some b ∧ price c (path c a b) = D c a b ∧ (path c a b).length ≤ a.length + b.length ∧ ∀ o, o ∈ path c a b → 1 ≤ o.1 ∧ o.1 ≤ 5 ∧ o.2 < 256 ∧ (o.2 ≠ 0 → o.1 = 2 ∨ o.1 = 5) := by
  intro n
  induction n with
  | zero =>
    intro a b h
    have ha : a = [] := List.eq_nil_of_length_eq_zero (by omega)
    have hb : b = [] := List.eq_nil_of_length_eq_zero (by omega)
    subst ha; subst hb
    rw [path_nil]
    exact ⟨rfl, rfl, Nat.zero_le _, fun o ho => by cases ho⟩
  | succ n ih =>
    intro a b h
    by_cases h0 : a = [] ∧ b = []
    · obtain ⟨rfl, rfl⟩ := h0
      rw [path_nil]
      exact ⟨rfl, rfl, Nat.zero_le _, fun o ho => by cases ho⟩
    · have hne := ne_of h0
      obtain ⟨g1, g2, g3, _⟩ := fk_good c hne
      obtain ⟨hf, hd⟩ := good_fit g1
      obtain ⟨l1, l2, l3⟩ := fit_len hf
      rw [path_eq c hne]
      generalize fk c a b = k at *
      obtain ⟨w, he, hw⟩ := eff_of_fit g2 g3 hf
      obtain ⟨i1, i2, i3, i4⟩ := ih (a.drop (tk k)) (b.drop (wr k)) (by rw [List.length_drop, List.length_drop]; omega)
      refine ⟨?_, ?_, ?_, ?_⟩
      · unfold app; rw [he]; simp only [i1, Option.map_some]; rw [hw]
      · unfold price; rw [i2, hd]
      · rw [List.length_drop, List.length_drop] at i3
        rw [List.length_cons]; omega
      · intro o ho
        rcases List.mem_cons.1 ho with rfl | ho
        · refine ⟨g2, g3, ?_, fun hy => ?_⟩
          · unfold byteOf; split
            · exact UInt8.toNat_lt _
            · show 0 < 256; omega
          · unfold byteOf at hy
            show k = 2 ∨ k = 5
            by_cases hk : k = 2 ∨ k = 5
            · exact hk
            · simp [hk] at hy
        · exact i4 o ho
/-- the kinds of a script come before those of another one, or are the same -/
def before : List (Nat × Nat) → List (Nat × Nat) → Bool
  | [], _ => true
  | _ :: _, [] => false
  | x :: l, y :: m => if x.1 = y.1 then before l m else decide (x.1 < y.1)
theorem path_first (c : Cst) : ∀ (l : List (Nat × Nat)) (a b : List UInt8), (∀ o, o ∈ l → o.2 < 256) → app l a = some b → price c l = D c a b → before (path c a b) l = true := by
  intro l
  induction l with
  | nil =>
    intro a b _ h _
    unfold app at h
    split at h
    · rename_i hs
      have : a = [] := by simpa using hs
      subst this
      cases h
      rfl
    · cases h
  | cons o l ih =>
    intro a b hb h hp
    unfold app at h
    cases he : eff o a with
    | none => rw [he] at h; cases h
    | some p =>
      obtain ⟨r, w⟩ := p
      rw [he] at h
      cases ha : app l r with
      | none => simp only [ha] at h; cases h
      | some u =>
        simp only [ha, Option.map_some] at h
        have h : w ++ u = b := by injection h
        obtain ⟨k1, k5, hf, hr, ht, hby⟩ := eff_fit (hb o (by simp)) he u
        rw [h] at hf ht hby
        have hbl : ∀ o', o' ∈ l → o'.2 < 256 := fun o' ho => hb o' (by simp [ho])
        have h1 := D_le c k1 k5 hf
        have h2 := least c l r u hbl ha
        unfold price at hp
        rw [← hr, ← ht] at h1
        have hne : a ≠ [] ∨ b ≠ [] := by
          apply ne_of
          rintro ⟨rfl, rfl⟩
          rw [fit_nil] at hf; cases hf
        obtain ⟨g1, g2, g3, g4⟩ := fk_good c hne
        have hgo : good c a b o.1 = true := by
          unfold good
          rw [hf, ← hr, ← ht, Bool.true_and, beq_iff_eq]; omega
        rw [path_eq c hne]
        unfold before
        by_cases hk : fk c a b = o.1
        · rw [if_pos hk, hk, ← hr, ← ht]
          exact ih r u hbl ha (by omega)
        · rw [if_neg hk, decide_eq_true_eq]
          by_cases hlt : o.1 < fk c a b
          · rw [g4 o.1 k1 hlt] at hgo; cases hgo
          · show fk c a b < o.1
            omega
end Ed
