/-
  Words with their numbers, and what begins with a text, in plain lists. No program here.
-/
import Derived.Test.YtioncjnjhmnlaaaRows
namespace Lx
set_option linter.unusedVariables false
set_option linter.unusedSimpArgs false
abbrev Tx := List UInt8
/-- the number of a word among words (the last one, should it be there twice) -/
def fnd : List Tx → Tx → Option Nat
  | [], _ => none
  | y :: l, x => if fnd l x = none then (if y = x then some 0 else none) else (fnd l x).map (· + 1)
theorem fnd_append (l : List Tx) (y x : Tx) (h : fnd l y = none) : fnd (l ++ [y]) x = if x = y then some l.length else fnd l x := by
  induction l with
  | nil =>
    by_cases e : x = y
    · subst e; simp [fnd]
    · have e' : ¬ y = x := fun h => e h.symm
      simp [fnd, e, e']
  | cons z l ih =>
    have h1 : fnd l y = none := by
      cases h2 : fnd l y with
      | none => rfl
      | some v => simp [fnd, h2] at h
    have h3 : ¬ z = y := by
      intro e; simp [fnd, h1, e] at h
    have := ih h1
    by_cases e : x = y
    · subst e
      simp [fnd, this]
    · simp [fnd, this, e]
theorem fnd_none {l : List Tx} {x : Tx} : fnd l x = none ↔ x ∉ l := by
  induction l with
  | nil => simp [fnd]
  | cons y l ih =>
    by_cases h : fnd l x = none
    · by_cases e : y = x
      · subst e; simp [fnd, h]
      · have e' : ¬ x = y := fun h => e h.symm
        simp [fnd, h, e, e', ih.1 h]
    · have : x ∈ l := Classical.not_not.1 (fun hh => h (ih.2 hh))
      simp [fnd, h, this]
theorem fnd_at {l : List Tx} {x : Tx} {i : Nat} (h : fnd l x = some i) : l[i]? = some x := by
  induction l generalizing i with
  | nil => simp [fnd] at h
  | cons y l ih =>
    cases h2 : fnd l x with
    | none =>
      by_cases e : y = x
      · subst e; simp [fnd, h2] at h; subst h; rfl
      · simp [fnd, h2, e] at h
    | some v =>
      simp [fnd, h2] at h
      subst h
      simpa using ih h2
theorem fnd_lt {l : List Tx} {x : Tx} {i : Nat} (h : fnd l x = some i) : i < l.length := (List.getElem?_eq_some_iff.1 (fnd_at h)).1
theorem fnd_of {l : List Tx} (hn : l.Nodup) {x : Tx} {i : Nat} (h : l[i]? = some x) : fnd l x = some i := by
  induction l generalizing i with
  | nil => simp at h
  | cons y l ih =>
    obtain ⟨h1, h2⟩ := List.nodup_cons.1 hn
    cases i with
    | zero =>
      simp at h; subst h
      simp [fnd, fnd_none.2 h1]
    | succ i =>
      have h3 := ih h2 (by simpa using h)
      simp [fnd, h3]
theorem fnd_iff {l : List Tx} (hn : l.Nodup) {x : Tx} {i : Nat} : fnd l x = some i ↔ l[i]? = some x := ⟨fnd_at, fnd_of hn⟩
/-- the numbers of the words that begin with p -/
def pre (l : List Tx) (p : Tx) : List Nat := (List.range l.length).filter fun i => p.isPrefixOf (l.getD i [])
theorem pre_mem {l : List Tx} {p : Tx} {i : Nat} : i ∈ pre l p ↔ ∃ x, l[i]? = some x ∧ p <+: x := by
  unfold pre
  rw [List.mem_filter, List.mem_range]
  constructor
  · rintro ⟨h1, h2⟩
    rw [List.getD_eq_getElem?_getD, List.getElem?_eq_getElem h1] at h2
    exact ⟨_, List.getElem?_eq_getElem h1, List.isPrefixOf_iff_prefix.1 h2⟩
  · rintro ⟨x, h1, h2⟩
    have h3 := (List.getElem?_eq_some_iff.1 h1).1
    refine ⟨h3, ?_⟩
    rw [List.getD_eq_getElem?_getD, h1]
    exact List.isPrefixOf_iff_prefix.2 h2
theorem pre_sorted (l : List Tx) (p : Tx) : (pre l p).Pairwise (· < ·) := List.pairwise_lt_range.sublist List.filter_sublist
theorem pre_length (l : List Tx) (p : Tx) : (pre l p).length ≤ l.length := by
  have := List.length_filter_le (fun i => p.isPrefixOf (l.getD i [])) (List.range l.length)
  rw [List.length_range] at this
  exact this
/-- two lists of numbers with the same members, none twice, are one another's permutation -/
theorem perm_of {l m : List Nat} (h1 : l.Nodup) (h2 : m.Nodup) (h : ∀ i, i ∈ l ↔ i ∈ m) : l.Perm m :=
  (List.perm_ext_iff_of_nodup h1 h2).2 h
/-- the error of the words from number i on, the ones ahead of it being all right -/
def errW (l : List Tx) : Nat → List Tx → Nat
  | _, [] => 0
  | i, x :: r => if x = [] then 2 else if 40 < x.length then 3 else if fnd (l.take i) x ≠ none then 70 else errW l (i + 1) r
end Lx
