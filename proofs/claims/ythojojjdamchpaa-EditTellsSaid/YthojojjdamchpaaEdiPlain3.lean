/-
  What follows for distances, in plain arithmetic: joined texts, bounds, equal texts, exchanged and reversed ones. No program here.
-/
import Derived.Test.YthojojjdamchpaaEdiPlain2
namespace Ed
set_option linter.unusedVariables false
set_option linter.unusedSimpArgs false

theorem eff_app {o : Nat × Nat} {s r w : List UInt8} (h : eff o s = some (r, w)) (x : List UInt8) : eff o (s ++ x) = some (r ++ x, w) := by
  obtain ⟨k, y⟩ := o
  unfold eff at h ⊢
  by_cases h5 : k = 5
  · subst h5; simp at h ⊢; exact ⟨by rw [h.1], h.2⟩
  rw [if_neg h5] at h ⊢
  match s with
  | [] => simp at h
  | z :: t =>
    simp only [List.cons_append] at h ⊢
    split at h
    · rename_i h2; rw [if_pos h2]
      split at h
      · cases h
      · rename_i h3; rw [if_neg h3]; cases h; rfl
    · rename_i h2; rw [if_neg h2]
      split at h
      · cases h
      · rename_i h3; rw [if_neg h3]
        split at h
        · rename_i h4; rw [if_pos h4]; cases h; rfl
        · rename_i h4; rw [if_neg h4]
          split at h
          · rename_i h6; rw [if_pos h6]; cases h; rfl
          · rename_i h6; rw [if_neg h6]
            split at h
            · rename_i h7; rw [if_pos h7]
              match t with
              | [] => cases h
              | q :: t2 =>
                simp only [List.cons_append] at h ⊢
                split at h
                · cases h
                · rename_i h8; rw [if_neg h8]; cases h; rfl
            · cases h
theorem app_app : ∀ (l m : List (Nat × Nat)) (s t x y : List UInt8), app l s = some t → app m x = some y → app (l ++ m) (s ++ x) = some (t ++ y) := by
  intro l
  induction l with
  | nil =>
    intro m s t x y h g
    unfold app at h
    split at h
    · rename_i hs
      have : s = [] := by simpa using hs
      subst this; cases h
      simpa using g
    · cases h
  | cons o l ih =>
    intro m s t x y h g
    unfold app at h
    cases he : eff o s with
    | none => rw [he] at h; cases h
    | some p =>
      obtain ⟨r, w⟩ := p
      rw [he] at h
      cases ha : app l r with
      | none => simp only [ha] at h; cases h
      | some u =>
        simp only [ha, Option.map_some] at h
        have h : w ++ u = t := by injection h
        show app (o :: (l ++ m)) (s ++ x) = _
        unfold app
        rw [eff_app he x]
        simp only [ih m r u x y ha g, Option.map_some]
        rw [← h, List.append_assoc]
theorem price_app (c : Cst) (l m : List (Nat × Nat)) : price c (l ++ m) = price c l + price c m := by
  induction l with
  | nil => simp [price]
  | cons o l ih => simp only [List.cons_append, price, ih]; omega
theorem D_app (c : Cst) (a b x y : List UInt8) : D c (a ++ x) (b ++ y) ≤ D c a b + D c x y := by
  obtain ⟨h1, h2, _, h3⟩ := path_ok c _ a b (Nat.le_refl _)
  obtain ⟨g1, g2, _, g3⟩ := path_ok c _ x y (Nat.le_refl _)
  have := least c _ _ _ (fun o ho => by
    rcases List.mem_append.1 ho with ho | ho
    · exact (h3 o ho).2.2.1
    · exact (g3 o ho).2.2.1) (app_app _ _ _ _ _ _ h1 g1)
  rw [price_app, h2, g2] at this
  exact this
theorem D_ins (c : Cst) (b : List UInt8) : D c [] b ≤ b.length * c.ins := by
  induction b with
  | nil => simp [D_nil]
  | cons y b ih =>
    have h := D_le c (a := []) (b := y :: b) (k := 5) (by omega) (by omega) rfl
    have e : cst c 5 = c.ins := rfl
    have e2 : D c (List.drop (tk 5) []) (List.drop (wr 5) (y :: b)) = D c [] b := rfl
    rw [e, e2] at h
    rw [List.length_cons, Int.natCast_add, Int.add_mul]
    have : ((1 : Nat) : Int) * c.ins = c.ins := by simp
    omega
theorem D_del (c : Cst) (a b : List UInt8) : D c a b ≤ a.length * c.del + b.length * c.ins := by
  induction a with
  | nil => have := D_ins c b; simp; exact this
  | cons x a ih =>
    have h := D_le c (a := x :: a) (b := b) (k := 4) (by omega) (by omega) rfl
    have e : cst c 4 = c.del := rfl
    have e2 : D c (List.drop (tk 4) (x :: a)) (List.drop (wr 4) b) = D c a b := rfl
    rw [e, e2] at h
    rw [List.length_cons, Int.natCast_add, Int.add_mul]
    have : ((1 : Nat) : Int) * c.del = c.del := by simp
    omega
theorem D_self {c : Cst} (h : c.ok) (a : List UInt8) : D c a a = 0 := by
  have h0 := D_nonneg h a a
  suffices D c a a ≤ 0 by omega
  clear h0
  induction a with
  | nil => simp [D_nil]
  | cons x a ih =>
    have h1 := D_le c (a := x :: a) (b := x :: a) (k := 1) (by omega) (by omega) (by show (x == x) = true; simp)
    have e : cst c 1 = 0 := rfl
    have e2 : D c (List.drop (tk 1) (x :: a)) (List.drop (wr 1) (x :: a)) = D c a a := rfl
    rw [e, e2] at h1
    omega
theorem D_zero {c : Cst} (h : c.ok) : ∀ n (a b : List UInt8), a.length + b.length ≤ n → D c a b = 0 → a = b := by
  intro n
  induction n with
  | zero =>
    intro a b hl _
    have ha : a = [] := List.eq_nil_of_length_eq_zero (by omega)
    have hb : b = [] := List.eq_nil_of_length_eq_zero (by omega)
    rw [ha, hb]
  | succ n ih =>
    intro a b hl h0
    by_cases he : a = [] ∧ b = []
    · rw [he.1, he.2]
    obtain ⟨k, k1, k5, hf, hd⟩ := D_arg c (ne_of he)
    obtain ⟨l1, l2, l3⟩ := fit_len hf
    have hn := D_nonneg h (a.drop (tk k)) (b.drop (wr k))
    have hz := cst_nonneg h k
    by_cases e1 : k = 1
    · subst e1
      have := ih (a.drop (tk 1)) (b.drop (wr 1)) (by rw [List.length_drop, List.length_drop]; omega) (by omega)
      match a, b with
      | [], _ => cases hf
      | _ :: _, [] => cases hf
      | x :: a', y :: b' =>
        have hf : (x == y) = true := hf
        have e : x = y := by simpa using hf
        have this : a' = b' := this
        rw [e, this]
    · exfalso
      have : 1 ≤ cst c k := by
        obtain ⟨⟨_, _⟩, ⟨_, _⟩, ⟨_, _⟩, ⟨_, _⟩⟩ := h
        unfold cst; rw [if_neg e1]; repeat' split
        all_goals omega
      omega
/-- costs with Insert and Delete exchanged -/
def Cst.flip (c : Cst) : Cst := ⟨c.del, c.ins, c.chg, c.swp⟩
theorem Cst.flip_ok {c : Cst} (h : c.ok) : c.flip.ok := ⟨h.2.1, h.1, h.2.2.1, h.2.2.2⟩
def mir (k : Nat) : Nat := if k = 4 then 5 else if k = 5 then 4 else k
theorem fit_mir {k : Nat} {a b : List UInt8} (k1 : 1 ≤ k) (k5 : k ≤ 5) (h : fit k a b = true) : fit (mir k) b a = true ∧ 1 ≤ mir k ∧ mir k ≤ 5 ∧ tk (mir k) = wr k ∧ wr (mir k) = tk k := by
  rcases (show k = 1 ∨ k = 2 ∨ k = 3 ∨ k = 4 ∨ k = 5 by omega) with rfl | rfl | rfl | rfl | rfl
  · refine ⟨?_, by decide, by decide, rfl, rfl⟩
    match a, b with
    | [], _ => cases h
    | _ :: _, [] => cases h
    | x :: a', y :: b' =>
      have h : (x == y) = true := h
      show (y == x) = true
      rw [beq_iff_eq] at h ⊢; exact h.symm
  · refine ⟨?_, by decide, by decide, rfl, rfl⟩
    match a, b with
    | [], _ => cases h
    | _ :: _, [] => cases h
    | x :: a', y :: b' =>
      have h : (x != y) = true := h
      show (y != x) = true
      rw [bne_iff_ne] at h ⊢; exact h.symm
  · refine ⟨?_, by decide, by decide, rfl, rfl⟩
    match a, b with
    | [], _ => cases h
    | [_], _ => cases h
    | _ :: _ :: _, [] => cases h
    | _ :: _ :: _, [_] => cases h
    | x :: x2 :: a', y :: y2 :: b' =>
      have hf : (x != x2 && x == y2 && x2 == y) = true := h
      rw [Bool.and_eq_true, Bool.and_eq_true, beq_iff_eq, beq_iff_eq, bne_iff_ne] at hf
      obtain ⟨⟨hne, rfl⟩, rfl⟩ := hf
      show (x2 != x && x2 == x2 && x == x) = true
      have : x2 ≠ x := fun e => hne e.symm
      simp [this]
  · exact ⟨h, by decide, by decide, rfl, rfl⟩
  · exact ⟨h, by decide, by decide, rfl, rfl⟩
theorem D_flip_le (c : Cst) : ∀ n (a b : List UInt8), a.length + b.length ≤ n → D c.flip b a ≤ D c a b := by
  intro n
  induction n with
  | zero =>
    intro a b hl
    have ha : a = [] := List.eq_nil_of_length_eq_zero (by omega)
    have hb : b = [] := List.eq_nil_of_length_eq_zero (by omega)
    rw [ha, hb]; simp [D_nil]
  | succ n ih =>
    intro a b hl
    by_cases he : a = [] ∧ b = []
    · rw [he.1, he.2]; simp [D_nil]
    obtain ⟨k, k1, k5, hf, hd⟩ := D_arg c (ne_of he)
    obtain ⟨l1, l2, l3⟩ := fit_len hf
    obtain ⟨m1, m2, m3, m4, m5⟩ := fit_mir k1 k5 hf
    have h1 := D_le c.flip m2 m3 m1
    rw [m4, m5] at h1
    have h2 := ih (a.drop (tk k)) (b.drop (wr k)) (by rw [List.length_drop, List.length_drop]; omega)
    have e : cst c.flip (mir k) = cst c k := by
      rcases (show k = 1 ∨ k = 2 ∨ k = 3 ∨ k = 4 ∨ k = 5 by omega) with rfl | rfl | rfl | rfl | rfl <;> rfl
    rw [e] at h1
    omega
theorem D_flip (c : Cst) (a b : List UInt8) : D c.flip b a = D c a b := by
  have h1 := D_flip_le c _ a b (Nat.le_refl _)
  have h2 := D_flip_le c.flip _ b a (Nat.le_refl _)
  have e : c.flip.flip = c := rfl
  rw [e] at h2
  omega
theorem D_back_le {c : Cst} (h : c.ok) : ∀ n (a b : List UInt8), a.length + b.length ≤ n → D c a.reverse b.reverse ≤ D c a b := by
  intro n
  induction n with
  | zero =>
    intro a b hl
    have ha : a = [] := List.eq_nil_of_length_eq_zero (by omega)
    have hb : b = [] := List.eq_nil_of_length_eq_zero (by omega)
    rw [ha, hb]; simp [D_nil]
  | succ n ih =>
    intro a b hl
    by_cases he : a = [] ∧ b = []
    · rw [he.1, he.2]; simp [D_nil]
    obtain ⟨k, k1, k5, hf, hd⟩ := D_arg c (ne_of he)
    obtain ⟨l1, l2, l3⟩ := fit_len hf
    have h2 := ih (a.drop (tk k)) (b.drop (wr k)) (by rw [List.length_drop, List.length_drop]; omega)
    have ea : a.reverse = (a.drop (tk k)).reverse ++ (a.take (tk k)).reverse := by rw [← List.reverse_append, List.take_append_drop]
    have eb : b.reverse = (b.drop (wr k)).reverse ++ (b.take (wr k)).reverse := by rw [← List.reverse_append, List.take_append_drop]
    have h3 := D_app c (a.drop (tk k)).reverse (b.drop (wr k)).reverse (a.take (tk k)).reverse (b.take (wr k)).reverse
    rw [← ea, ← eb] at h3
    have h4 : D c (a.take (tk k)).reverse (b.take (wr k)).reverse ≤ cst c k := by
      rcases (show k = 1 ∨ k = 2 ∨ k = 3 ∨ k = 4 ∨ k = 5 by omega) with rfl | rfl | rfl | rfl | rfl
      · match a, b with
        | [], _ => cases hf
        | _ :: _, [] => cases hf
        | x :: a', y :: b' =>
          have hf : (x == y) = true := hf
          have e : x = y := by simpa using hf
          subst e
          show D c [x] [x] ≤ 0
          rw [D_self h]; exact Int.le_refl _
      · match a, b with
        | [], _ => cases hf
        | _ :: _, [] => cases hf
        | x :: a', y :: b' =>
          have h5 := D_le c (a := [x]) (b := [y]) (k := 2) (by omega) (by omega) hf
          have e2 : D c (List.drop (tk 2) [x]) (List.drop (wr 2) [y]) = 0 := rfl
          rw [e2] at h5
          show D c [x] [y] ≤ cst c 2
          omega
      · match a, b with
        | [], _ => cases hf
        | [_], _ => cases hf
        | _ :: _ :: _, [] => cases hf
        | _ :: _ :: _, [_] => cases hf
        | x :: x2 :: a', y :: y2 :: b' =>
          have hf : (x != x2 && x == y2 && x2 == y) = true := hf
          rw [Bool.and_eq_true, Bool.and_eq_true, beq_iff_eq, beq_iff_eq, bne_iff_ne] at hf
          obtain ⟨⟨hne, rfl⟩, rfl⟩ := hf
          have hne2 : x2 ≠ x := fun e => hne e.symm
          have h5 := D_le c (a := [x2, x]) (b := [x, x2]) (k := 3) (by omega) (by omega) (by show (x2 != x && x2 == x2 && x == x) = true; simp [hne2])
          have e2 : D c (List.drop (tk 3) [x2, x]) (List.drop (wr 3) [x, x2]) = 0 := rfl
          rw [e2] at h5
          show D c [x2, x] [x, x2] ≤ cst c 3
          omega
      · match a with
        | [] => cases hf
        | x :: a' =>
          have h5 := D_le c (a := [x]) (b := []) (k := 4) (by omega) (by omega) rfl
          have e2 : D c (List.drop (tk 4) [x]) (List.drop (wr 4) []) = 0 := rfl
          rw [e2] at h5
          show D c [x] [] ≤ cst c 4
          omega
      · match b with
        | [] => cases hf
        | y :: b' =>
          have h5 := D_le c (a := []) (b := [y]) (k := 5) (by omega) (by omega) rfl
          have e2 : D c (List.drop (tk 5) []) (List.drop (wr 5) [y]) = 0 := rfl
          rw [e2] at h5
          show D c [] [y] ≤ cst c 5
          omega
    omega
theorem D_back {c : Cst} (h : c.ok) (a b : List UInt8) : D c a.reverse b.reverse = D c a b := by
  have h1 := D_back_le h _ a b (Nat.le_refl _)
  have h2 := D_back_le h _ a.reverse b.reverse (Nat.le_refl _)
  rw [List.reverse_reverse, List.reverse_reverse] at h2
  omega
end Ed
