/-
  What a quantile is, by counting.
-/
import Derived.Test.YtgbifcfdbelfpaaStaIter
namespace Go.Proofs.Ytgbifcfdbelfpaa
set_option linter.unusedVariables false

/-- how many are at most v, and less than v -/
def cle (l : List Int) (v : Int) : Nat := l.countP fun x => decide (x ≤ v)
def clt (l : List Int) (v : Int) : Nat := l.countP fun x => decide (x < v)
theorem clt_le (l : List Int) (v : Int) : clt l v ≤ cle l v := by
  unfold cle clt
  exact List.countP_mono_left fun x _ h => by simp at *; omega
theorem cle_pos {l : List Int} {v : Int} (h : v ∈ l) : 0 < cle l v := List.countP_pos_iff.2 ⟨v, h, by simp⟩
theorem cle_clt (l : List Int) {u v : Int} (h : u < v) : cle l u ≤ clt l v := List.countP_mono_left fun x _ h2 => by simp at *; omega
theorem cle_len (l : List Int) (v : Int) : cle l v ≤ l.length := List.countP_le_length
/-- enough are at most v -/
def Enough (l : List Int) (q v : Int) : Prop := q * l.length ≤ (cle l v : Int) * 10000
/-- v is a quantile -/
structure Good (l : List Int) (q v : Int) : Prop where
  mem : v ∈ l
  most : Enough l q v
  less : clt l v = 0 ∨ (clt l v : Int) * 10000 < q * l.length
theorem Good.least {l : List Int} {q u v : Int} (h : Good l q v) (hu : u ∈ l) (he : Enough l q u) : v ≤ u := by
  rcases Int.lt_or_le u v with h1 | h1
  · exfalso
    have h2 := cle_clt l h1
    have h3 := cle_pos hu
    unfold Enough at he
    rcases h.less with h4 | h4
    · omega
    · omega
  · exact h1
theorem Good.unique {l : List Int} {q u v : Int} (h : Good l q v) (g : Good l q u) : u = v := by
  have h1 := h.least g.mem g.most
  have h2 := g.least h.mem h.most
  omega

theorem srt_perm (zs : List Int) : (srt zs).Perm zs := List.mergeSort_perm zs _
theorem srt_sorted (zs : List Int) : (srt zs).Pairwise (fun a b => a ≤ b) := by
  have h := List.pairwise_mergeSort (le := fun (x y : Int) => decide (x ≤ y)) (fun a b c h1 h2 => by simp at *; omega) (fun a b => by simp; omega) zs
  exact h.imp fun h => by simpa using h
theorem cle_perm {l m : List Int} (h : l.Perm m) (v : Int) : cle l v = cle m v := h.countP_eq _
theorem clt_perm {l m : List Int} (h : l.Perm m) (v : Int) : clt l v = clt m v := h.countP_eq _
theorem Good.perm {l m : List Int} (h : l.Perm m) {q v : Int} (g : Good l q v) : Good m q v := by
  refine ⟨h.mem_iff.1 g.mem, ?_, ?_⟩
  · have := g.most; unfold Enough at *; rwa [← h.length_eq, ← cle_perm h]
  · rw [← h.length_eq, ← clt_perm h]; exact g.less
/-- in a list in order -/
theorem sorted_at (s : List Int) (h : s.Pairwise (fun a b => a ≤ b)) (P : Nat) (hP : P < s.length) : clt s (s.getD P 0) ≤ P ∧ P < cle s (s.getD P 0) := by
  have hg : s.getD P 0 = s[P] := by rw [List.getD_eq_getElem?_getD, List.getElem?_eq_getElem hP]; rfl
  rw [hg]
  have hle : ∀ i j (hi : i < s.length) (hj : j < s.length), i ≤ j → s[i] ≤ s[j] := fun i j hi hj hij => by
    rcases Nat.eq_or_lt_of_le hij with rfl | h1
    · exact Int.le_refl _
    · exact List.pairwise_iff_getElem.1 h i j hi hj h1
  constructor
  · have e : s = s.take P ++ s.drop P := (List.take_append_drop P s).symm
    have h0 : (s.drop P).countP (fun x => decide (x < s[P])) = 0 := by
      rw [List.countP_eq_zero]
      intro x hx
      obtain ⟨i, hi, rfl⟩ := List.getElem_of_mem hx
      rw [List.length_drop] at hi
      rw [List.getElem_drop]
      have := hle P (P + i) hP (by omega) (by omega)
      simp; omega
    have h1 : (s.take P).countP (fun x => decide (x < s[P])) ≤ P := Nat.le_trans List.countP_le_length (by rw [List.length_take]; omega)
    unfold clt
    have h2 : s.countP (fun x => decide (x < s[P])) = (s.take P).countP (fun x => decide (x < s[P])) + (s.drop P).countP (fun x => decide (x < s[P])) := by
      rw [← List.countP_append, List.take_append_drop]
    omega
  · have h1 : (s.take (P + 1)).countP (fun x => decide (x ≤ s[P])) = (s.take (P + 1)).length := by
      rw [List.countP_eq_length]
      intro x hx
      obtain ⟨i, hi, rfl⟩ := List.getElem_of_mem hx
      rw [List.length_take] at hi
      rw [List.getElem_take]
      have := hle i P (by omega) hP (by omega)
      simp; exact this
    have h2 : s.countP (fun x => decide (x ≤ s[P])) = (s.take (P + 1)).countP (fun x => decide (x ≤ s[P])) + (s.drop (P + 1)).countP (fun x => decide (x ≤ s[P])) := by
      rw [← List.countP_append, List.take_append_drop]
    rw [List.length_take] at h1
    unfold cle
    omega
theorem getD_mem {s : List Int} {P : Nat} (h : P < s.length) : s.getD P 0 ∈ s := by
  rw [List.getD_eq_getElem?_getD, List.getElem?_eq_getElem h]; exact List.getElem_mem h
/-- the quantile is one -/
theorem qnt_good (l : List Int) {q : Int} (h : l ≠ []) (h0 : 0 ≤ q) (h1 : q ≤ 10000) : Good l q (qnt l q) := by
  have hl : 0 < l.length := List.length_pos_iff.2 h
  have hP := qpl_lt hl h0 h1
  have hs := sorted_at (srt l) (srt_sorted l) (qpl l.length q) (by rw [srt_length]; exact hP)
  refine Good.perm (srt_perm l) ⟨getD_mem (by rw [srt_length]; exact hP), ?_, ?_⟩
  · unfold Enough
    rw [srt_length]
    have h2 := hs.2
    unfold qnt
    generalize cle (srt l) ((srt l).getD (qpl l.length q) 0) = c at *
    unfold qpl at h2
    have h3 : 0 ≤ q * (l.length : Int) := Int.mul_nonneg h0 (by omega)
    generalize q * (l.length : Int) = t at *
    omega
  · rw [srt_length]
    have h2 := hs.1
    unfold qnt
    generalize clt (srt l) ((srt l).getD (qpl l.length q) 0) = c at *
    unfold qpl at h2
    have h3 : 0 ≤ q * (l.length : Int) := Int.mul_nonneg h0 (by omega)
    generalize q * (l.length : Int) = t at *
    omega
theorem qnt_of_good {l : List Int} {q v : Int} (h0 : 0 ≤ q) (h1 : q ≤ 10000) (g : Good l q v) : qnt l q = v := by
  have h : l ≠ [] := fun e => by have := g.mem; rw [e] at this; simp at this
  exact (g.unique (qnt_good l h h0 h1))
theorem qnt_perm {l m : List Int} (h : l.Perm m) {q : Int} (hl : l ≠ []) (h0 : 0 ≤ q) (h1 : q ≤ 10000) : qnt m q = qnt l q := qnt_of_good h0 h1 ((qnt_good l hl h0 h1).perm h)
theorem qnt_twice {l : List Int} {q : Int} (hl : l ≠ []) (h0 : 0 ≤ q) (h1 : q ≤ 10000) : qnt (l ++ l) q = qnt l q := by
  have g := qnt_good l hl h0 h1
  refine qnt_of_good h0 h1 ⟨List.mem_append.2 (.inl g.mem), ?_, ?_⟩
  · have := g.most
    unfold Enough cle at *
    rw [List.countP_append, List.length_append, Int.natCast_add, Int.natCast_add, Int.mul_add, Int.add_mul]
    omega
  · have := g.less
    unfold clt at *
    rw [List.countP_append, List.length_append, Int.natCast_add, Int.natCast_add, Int.mul_add, Int.add_mul]
    omega
theorem qnt_mono {l : List Int} {p q : Int} (hl : l ≠ []) (h0 : 0 ≤ p) (hpq : p ≤ q) (h1 : q ≤ 10000) : qnt l p ≤ qnt l q := by
  have g := qnt_good l hl h0 (by omega)
  have g2 := qnt_good l hl (by omega) h1
  refine g.least g2.mem ?_
  have h := g2.most
  unfold Enough at *
  have : p * (l.length : Int) ≤ q * l.length := Int.mul_le_mul_of_nonneg_right hpq (by omega)
  omega
theorem cle_take (l : List Int) (v : Int) (k : Nat) (h : k < l.length) : cle (l.take (k + 1)) v = cle (l.take k) v + if l.getD k 0 ≤ v then 1 else 0 := by
  unfold cle
  have hg : l.getD k 0 = l[k] := by rw [List.getD_eq_getElem?_getD, List.getElem?_eq_getElem h]; rfl
  rw [List.take_succ_eq_append_getElem h, List.countP_append, hg]
  by_cases h2 : l[k] ≤ v <;> simp [h2]
theorem clt_take (l : List Int) (v : Int) (k : Nat) (h : k < l.length) : clt (l.take (k + 1)) v = clt (l.take k) v + if l.getD k 0 < v then 1 else 0 := by
  unfold clt
  have hg : l.getD k 0 = l[k] := by rw [List.getD_eq_getElem?_getD, List.getElem?_eq_getElem h]; rfl
  rw [List.take_succ_eq_append_getElem h, List.countP_append, hg]
  by_cases h2 : l[k] < v <;> simp [h2]
end Go.Proofs.Ytgbifcfdbelfpaa
