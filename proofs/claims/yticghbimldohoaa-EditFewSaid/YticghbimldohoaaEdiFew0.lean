/-
  How many steps of each kind a script has.
-/
import Derived.Test.YticghbimldohoaaEdiLeastLaw
namespace Go.Proofs.Yticghbimldohoaa
open Go.RowKit Go.Shelf
set_option linter.unusedVariables false
set_option linter.unusedSimpArgs false

def cnt (k : Nat) : List (Nat × Nat) → Nat
  | [] => 0
  | o :: l => (if o.1 = k then 1 else 0) + cnt k l
theorem cnt_append (k : Nat) : ∀ l m, cnt k (l ++ m) = cnt k l + cnt k m
  | [], m => by simp [cnt]
  | o :: l, m => by
    show (if o.1 = k then 1 else 0) + cnt k (l ++ m) = (if o.1 = k then 1 else 0) + cnt k l + cnt k m
    rw [cnt_append k l m]; omega
theorem cnt_take (k : Nat) (l : List (Nat × Nat)) (i : Nat) (h : i < l.length) : cnt k (l.take (i + 1)) = cnt k (l.take i) + (if l[i].1 = k then 1 else 0) := by
  rw [← List.take_append_getElem h, cnt_append]; rfl
theorem cnt_le (k : Nat) : ∀ l, cnt k l ≤ l.length
  | [] => Nat.le_refl _
  | o :: l => by
    have := cnt_le k l
    show (if o.1 = k then 1 else 0) + cnt k l ≤ l.length + 1
    split <;> omega
theorem app_cnt : ∀ (l : List (Nat × Nat)) (s t : List UInt8), (∀ o, o ∈ l → o.2 < 256) → Ed.app l s = some t →
    cnt 1 l + cnt 2 l + 2 * cnt 3 l + cnt 4 l = s.length ∧ cnt 1 l + cnt 2 l + 2 * cnt 3 l + cnt 5 l = t.length
  | [], s, t, _, h => by
    unfold Ed.app at h
    split at h
    · rename_i hs
      have h1 : s = [] := by simpa using hs
      subst h1
      have h2 : t = [] := by simpa using h.symm
      subst h2
      exact ⟨rfl, rfl⟩
    · cases h
  | p :: l, s, t, hb, h => by
    rw [app_step] at h
    cases he : Ed.eff p s with
    | none => rw [he] at h; cases h
    | some q =>
      obtain ⟨r, u⟩ := q
      rw [he] at h
      simp only [Option.map_eq_some_iff] at h
      obtain ⟨t2, h2, h3⟩ := h
      obtain ⟨e1, e2⟩ := app_cnt l r t2 (fun o ho => hb o (List.mem_cons_of_mem _ ho)) h2
      obtain ⟨k1, k5, hf, hr, ht, _⟩ := Ed.eff_fit (t := t2) (hb p (List.mem_cons_self ..)) he
      obtain ⟨l1, l2, _⟩ := Ed.fit_len hf
      have hr := congrArg List.length hr
      have ht := congrArg List.length ht
      rw [List.length_drop] at hr ht
      rw [h3] at ht l2
      obtain ⟨k, y⟩ := p
      simp only at k1 k5 hr ht l1 l2
      rcases (show k = 1 ∨ k = 2 ∨ k = 3 ∨ k = 4 ∨ k = 5 by omega) with rfl | rfl | rfl | rfl | rfl <;> simp [cnt, Ed.tk, Ed.wr] at * <;> omega
theorem price_cnt (c : Ed.Cst) : ∀ (l : List (Nat × Nat)), (∀ o, o ∈ l → 1 ≤ o.1 ∧ o.1 ≤ 5) → Ed.price c l = cnt 2 l * c.chg + cnt 3 l * c.swp + cnt 4 l * c.del + cnt 5 l * c.ins
  | [], _ => by simp [Ed.price, cnt]
  | p :: l, h => by
    have ih := price_cnt c l fun o ho => h o (List.mem_cons_of_mem _ ho)
    obtain ⟨k1, k5⟩ := h p (List.mem_cons_self ..)
    show Ed.cst c p.1 + Ed.price c l = _
    rw [ih]
    obtain ⟨k, y⟩ := p
    simp only at k1 k5
    rcases (show k = 1 ∨ k = 2 ∨ k = 3 ∨ k = 4 ∨ k = 5 by omega) with rfl | rfl | rfl | rfl | rfl <;> simp [cnt, Ed.cst, Int.add_mul] <;> omega
theorem ones_max : ∀ (a b : List UInt8), Ed.D c1s a b ≤ ((max a.length b.length : Nat) : Int)
  | [], b => by
    have := Ed.D_ins c1s b
    have e : c1s.ins = 1 := rfl
    rw [e] at this
    simp only [List.length_nil]
    omega
  | x :: a, [] => by
    have := Ed.D_del c1s (x :: a) []
    have e : c1s.del = 1 := rfl
    rw [e] at this
    simp only [List.length_nil] at this ⊢
    omega
  | x :: a, y :: b => by
    have ih := ones_max a b
    have hc : Ed.cst c1s 1 = 0 ∧ Ed.cst c1s 2 = 1 := ⟨rfl, rfl⟩
    by_cases h : x = y
    · have := Ed.D_le c1s (a := x :: a) (b := y :: b) (k := 1) (by omega) (by omega) (by simp [Ed.fit, Ed.fit1, h])
      rw [hc.1] at this
      simp [Ed.tk, Ed.wr] at this ⊢
      omega
    · have := Ed.D_le c1s (a := x :: a) (b := y :: b) (k := 2) (by omega) (by omega) (by simp [Ed.fit, Ed.fit2, h])
      rw [hc.2] at this
      simp [Ed.tk, Ed.wr] at this ⊢
      omega
theorem ones_min (a b : List UInt8) : (a.length : Int) - b.length ≤ Ed.D c1s a b ∧ (b.length : Int) - a.length ≤ Ed.D c1s a b := by
  obtain ⟨h1, h2, _, h4⟩ := Ed.path_ok c1s _ a b (Nat.le_refl _)
  obtain ⟨e1, e2⟩ := app_cnt _ _ _ (fun o ho => (h4 o ho).2.2.1) h1
  have e3 := price_cnt c1s (Ed.path c1s a b) fun o ho => ⟨(h4 o ho).1, (h4 o ho).2.1⟩
  rw [h2] at e3
  have i1 : c1s.chg = 1 := rfl
  have i2 : c1s.swp = 1 := rfl
  have i3 : c1s.del = 1 := rfl
  have i4 : c1s.ins = 1 := rfl
  rw [i1, i2, i3, i4] at e3
  omega
end Go.Proofs.Yticghbimldohoaa
