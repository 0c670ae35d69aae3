/-
  Hits for a greater limit, and for the limit 0: plain lists.
-/
import Derived.Test.YtioncjnjhmnlaaaLexAwake
import Derived.Test.YtioncjnjhmnlaaaEdiPlain3
namespace Go.Proofs.Ytioncjnjhmnlaaa
open Lx
set_option linter.unusedVariables false
set_option linter.unusedSimpArgs false

/-- a prefix by a bound on the costs -/
theorem takeWhile_filter (p : Int) : ∀ (l : List (Int × Int)), InH l → l.takeWhile (fun y => decide (y.2 ≤ p)) = l.filter (fun y => decide (y.2 ≤ p))
  | [], _ => rfl
  | x :: l, h => by
    have h1 := List.pairwise_cons.1 h
    by_cases hx : x.2 ≤ p
    · rw [List.takeWhile_cons, List.filter_cons, decide_eq_true hx]
      simp only [if_true]
      rw [takeWhile_filter p l h1.2]
    · rw [List.takeWhile_cons, List.filter_cons, decide_eq_false hx]
      simp only [Bool.false_eq_true, if_false]
      symm
      rw [List.filter_eq_nil_iff]
      intro y hy
      have := h1.1 y hy
      rw [hcmp_lt] at this
      simp at this
      simp
      omega
theorem HL_filter (c : Ed.Cst) (ws : List ByteArray) (s : ByteArray) (m n : Int) (h : m ≤ n) (k : Nat) : (HL c ws s n k).filter (fun y => decide (y.2 ≤ m)) = HL c ws s m k := by
  induction k with
  | zero => rfl
  | succ k ih =>
    by_cases hn : Ed.D c (tx s) (tx (ws.getD k ByteArray.empty)) ≤ n
    · rw [HL_yes hn, List.filter_append, ih]
      by_cases hm : Ed.D c (tx s) (tx (ws.getD k ByteArray.empty)) ≤ m
      · rw [HL_yes hm, List.filter_cons, decide_eq_true hm]; rfl
      · rw [HL_no hm, List.filter_cons, decide_eq_false hm]
        exact List.append_nil _
    · rw [HL_no hn, ih, HL_no (by omega)]
theorem near_in (c : Ed.Cst) (ws : List ByteArray) (s : ByteArray) (m : Int) : InH (nearOf c ws s m) ∧ (nearOf c ws s m).Perm (HL c ws s m ws.length) := by
  refine ⟨?_, List.mergeSort_perm _ _⟩
  have := List.pairwise_mergeSort (le := fun a b => !Go.Proofs.ltOf hcmp b a) (fun a b d h3 h4 => by
      simp only [Bool.not_eq_true'] at *
      exact hcmp_swo.ntrans _ _ _ h4 h3) (fun a b => by
      simp only [hcmp_lt, Bool.or_eq_true, Bool.not_eq_true', decide_eq_false_iff_not]
      omega) (HL c ws s m ws.length)
  exact this.imp fun {a b} h => by simpa using h
theorem near_more (c : Ed.Cst) (ws : List ByteArray) (s : ByteArray) (m n : Int) (h : m ≤ n) : nearOf c ws s m = (nearOf c ws s n).takeWhile fun y => decide (y.2 ≤ m) := by
  obtain ⟨h1, h2⟩ := near_in c ws s n
  rw [takeWhile_filter m _ h1]
  symm
  refine nearOf_eq ?_ (h1.filter _)
  rw [← HL_filter c ws s m n h]
  exact h2.filter _
/-- the first ones, and what comes behind -/
theorem more_spec (c : Ed.Cst) (ws : List ByteArray) (s : ByteArray) (m n : Int) (h : m ≤ n) : (nearOf c ws s m).length ≤ (nearOf c ws s n).length ∧ (nearOf c ws s n).take (nearOf c ws s m).length = nearOf c ws s m ∧
    ∀ k (hk : k < (nearOf c ws s n).length), (nearOf c ws s m).length ≤ k → m < ((nearOf c ws s n)[k]).2 := by
  have e := near_more c ws s m n h
  obtain ⟨h1, -⟩ := near_in c ws s n
  generalize nearOf c ws s n = l at *
  have hp : nearOf c ws s m <+: l := by rw [e]; exact List.takeWhile_prefix _
  refine ⟨hp.length_le, (List.prefix_iff_eq_take.1 hp).symm, fun k hk hlk => ?_⟩
  rw [e, takeWhile_filter m l h1] at hlk
  apply Classical.byContradiction
  intro hm
  have hm : l[k].2 ≤ m := by omega
  have h3 : ∀ j (hj : j < k + 1), decide ((l[j]'(by omega)).2 ≤ m) = true := fun j hj => by
    rw [decide_eq_true_eq]
    by_cases ej : j = k
    · subst ej; exact hm
    · have := List.pairwise_iff_getElem.1 h1 j k (by omega) hk (by omega)
      rw [hcmp_lt] at this
      simp at this
      omega
  have h4 : k + 1 ≤ (l.filter fun y => decide (y.2 ≤ m)).length := by
    have h5 : (l.take (k + 1)).filter (fun y => decide (y.2 ≤ m)) = l.take (k + 1) := by
      rw [List.filter_eq_self]
      intro y hy
      obtain ⟨j, hj, rfl⟩ := List.getElem_of_mem hy
      rw [List.getElem_take]
      exact h3 j (by rw [List.length_take] at hj; omega)
    have h6 : ((l.take (k + 1)).filter (fun y => decide (y.2 ≤ m))).Sublist (l.filter fun y => decide (y.2 ≤ m)) := (List.take_sublist _ _).filter _
    have := h6.length_le
    rw [h5, List.length_take] at this
    omega
  omega
end Go.Proofs.Ytioncjnjhmnlaaa
