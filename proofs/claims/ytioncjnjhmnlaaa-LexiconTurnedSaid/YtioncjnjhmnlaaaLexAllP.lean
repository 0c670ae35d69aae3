/-
  What the stage's theorem says of the hits: plain lists.
-/
import Derived.Test.YtioncjnjhmnlaaaLexMoreP
namespace Go.Proofs.Ytioncjnjhmnlaaa
open Lx
set_option linter.unusedVariables false
set_option linter.unusedSimpArgs false

/-- how often a word is among hits -/
def cntW (l : List (Int × Int)) (i : Nat) : Nat := l.countP fun y => decide (y.1 = (i : Int))
/-- how often a cost is -/
def cntC (l : List (Int × Int)) (d : Int) : Nat := l.countP fun y => decide (y.2 = d)
theorem up_of (l : List (Int × Int)) (h1 : InH l) (hnd : l.Nodup) (j : Nat) (h : j + 1 < l.length) : (l[j]).2 < (l[j + 1]).2 ∨ (l[j]).2 = (l[j + 1]).2 ∧ (l[j]).1 < (l[j + 1]).1 := by
  have a1 := List.pairwise_iff_getElem.1 h1 j (j + 1) (by omega) h (by omega)
  have a2 := List.pairwise_iff_getElem.1 hnd j (j + 1) (by omega) h (by omega)
  rw [hcmp_lt] at a1
  simp at a1
  have a3 : ¬ (l[j].1 = l[j + 1].1 ∧ l[j].2 = l[j + 1].2) := fun e => a2 (Prod.ext e.1 e.2)
  omega
theorem cntW_take (l : List (Int × Int)) (i k : Nat) (h : k < l.length) : cntW (l.take (k + 1)) i = cntW (l.take k) i + if l[k].1 = (i : Int) then 1 else 0 := by
  unfold cntW
  rw [List.take_succ_eq_append_getElem h, List.countP_append]
  congr 1
  simp [List.countP_cons]
theorem cntC_take (l : List (Int × Int)) (d : Int) (k : Nat) (h : k < l.length) : cntC (l.take (k + 1)) d = cntC (l.take k) d + if l[k].2 = d then 1 else 0 := by
  unfold cntC
  rw [List.take_succ_eq_append_getElem h, List.countP_append]
  congr 1
  simp [List.countP_cons]
section
variable (c : Ed.Cst) (ws : List ByteArray) (s : ByteArray) (most : Int)
theorem cnt_HL (i n : Nat) : cntW (HL c ws s most n) i = if i < n ∧ Ed.D c (tx s) (tx (ws.getD i ByteArray.empty)) ≤ most then 1 else 0 := by
  induction n with
  | zero => simp [HL, cntW]
  | succ n ih =>
    by_cases h : Ed.D c (tx s) (tx (ws.getD n ByteArray.empty)) ≤ most
    · rw [HL_yes h]
      unfold cntW at *
      rw [List.countP_append, ih]
      by_cases e : i = n
      · subst e
        rw [if_neg (by omega), if_pos ⟨by omega, h⟩]
        simp
      · have e2 : ¬ (n : Int) = (i : Int) := by omega
        rw [show List.countP (fun y : Int × Int => decide (y.1 = (i : Int))) [((n : Int), Ed.D c (tx s) (tx (ws.getD n ByteArray.empty)))] = 0 by simp [e2]]
        by_cases h2 : i < n ∧ Ed.D c (tx s) (tx (ws.getD i ByteArray.empty)) ≤ most
        · rw [if_pos h2, if_pos ⟨by omega, h2.2⟩]
        · rw [if_neg h2, if_neg (fun hh => h2 ⟨by omega, hh.2⟩)]
    · rw [HL_no h, ih]
      by_cases e : i = n
      · subst e
        rw [if_neg (by omega), if_neg (fun hh => h hh.2)]
      · by_cases h2 : i < n ∧ Ed.D c (tx s) (tx (ws.getD i ByteArray.empty)) ≤ most
        · rw [if_pos h2, if_pos ⟨by omega, h2.2⟩]
        · rw [if_neg h2, if_neg (fun hh => h2 ⟨by omega, hh.2⟩)]
theorem cnt_near (i : Nat) (hi : i < ws.length) : cntW (nearOf c ws s most) i = if Ed.D c (tx s) (tx (ws.getD i ByteArray.empty)) ≤ most then 1 else 0 := by
  have h1 := (near_in c ws s most).2
  have : cntW (nearOf c ws s most) i = cntW (HL c ws s most ws.length) i := h1.countP_eq _
  rw [this, cnt_HL]
  simp [hi]
theorem len_HL (k : Nat) : (HL c ws s most (k + 1)).length = (HL c ws s most k).length + if Ed.D c (tx s) (tx (ws.getD k ByteArray.empty)) ≤ most then 1 else 0 := by
  by_cases h : Ed.D c (tx s) (tx (ws.getD k ByteArray.empty)) ≤ most
  · rw [HL_yes h, if_pos h, List.length_append]; rfl
  · rw [HL_no h, if_neg h]; rfl
theorem len_near : (nearOf c ws s most).length = (HL c ws s most ws.length).length := (near_in c ws s most).2.length_eq
theorem mem_near {y : Int × Int} (h : y ∈ nearOf c ws s most) : ∃ i : Nat, i < ws.length ∧ Ed.D c (tx s) (tx (ws.getD i ByteArray.empty)) ≤ most ∧ y = ((i : Int), Ed.D c (tx s) (tx (ws.getD i ByteArray.empty))) :=
  HL_mem.1 ((near_in c ws s most).2.mem_iff.1 h)
/-- the cost that stands with a word is its distance -/
theorem cost_near (k : Nat) (hk : k < (nearOf c ws s most).length) (i : Nat) (h : ((nearOf c ws s most)[k]).1 = (i : Int)) : ((nearOf c ws s most)[k]).2 = Ed.D c (tx s) (tx (ws.getD i ByteArray.empty)) := by
  obtain ⟨j, -, -, e⟩ := mem_near c ws s most (List.getElem_mem hk)
  rw [e] at h ⊢
  have : j = i := by
    have h : (j : Int) = (i : Int) := h
    omega
  rw [this]
theorem HL_up (n : Nat) : (HL c ws s most n).Pairwise fun a b => a.1 < b.1 := by
  induction n with
  | zero => exact List.Pairwise.nil
  | succ n ih =>
    by_cases h : Ed.D c (tx s) (tx (ws.getD n ByteArray.empty)) ≤ most
    · rw [HL_yes h, List.pairwise_append]
      refine ⟨ih, by simp, fun a ha b hb => ?_⟩
      simp at hb
      subst hb
      obtain ⟨i, hi, -, rfl⟩ := HL_mem.1 ha
      show (i : Int) < (n : Int)
      omega
    · rw [HL_no h]; exact ih
theorem near_up (j : Nat) (h : j + 1 < (nearOf c ws s most).length) : ((nearOf c ws s most)[j]).2 < ((nearOf c ws s most)[j + 1]).2 ∨ ((nearOf c ws s most)[j]).2 = ((nearOf c ws s most)[j + 1]).2 ∧ ((nearOf c ws s most)[j]).1 < ((nearOf c ws s most)[j + 1]).1 := by
  obtain ⟨h1, h2⟩ := near_in c ws s most
  have hnd : (nearOf c ws s most).Nodup := h2.symm.nodup ((HL_up c ws s most ws.length).imp fun {a b} h e => by rw [e] at h; omega)
  exact up_of _ h1 hnd j h
end
theorem best_prefix (l : List (Int × Int)) : bestOf l <+: l := by
  cases l with
  | nil => exact List.prefix_refl _
  | cons x l => exact List.takeWhile_prefix _
theorem best_len (l : List (Int × Int)) (h : InH l) (h0 : 0 < l.length) : (bestOf l).length = cntC l (l[0].2) := by
  cases l with
  | nil => simp at h0
  | cons x l =>
    have h1 := List.pairwise_cons.1 h
    have e : ∀ y, y ∈ x :: l → x.2 ≤ y.2 := fun y hy => by
      rcases List.mem_cons.1 hy with rfl | hy
      · omega
      · have := h1.1 y hy
        rw [hcmp_lt] at this
        simp at this
        omega
    have e2 : bestOf (x :: l) = (x :: l).takeWhile fun y => decide (y.2 ≤ x.2) := by
      show (x :: l).takeWhile (fun y => decide (y.2 = x.2)) = _
      have : ∀ m : List (Int × Int), (∀ y, y ∈ m → x.2 ≤ y.2) → m.takeWhile (fun y => decide (y.2 = x.2)) = m.takeWhile fun y => decide (y.2 ≤ x.2) := by
        intro m
        induction m with
        | nil => intro _; rfl
        | cons y m ih =>
          intro hm
          have hy := hm y (List.mem_cons_self ..)
          have := ih fun z hz => hm z (List.mem_cons_of_mem _ hz)
          rw [List.takeWhile_cons, List.takeWhile_cons, this, show decide (y.2 = x.2) = decide (y.2 ≤ x.2) from decide_eq_decide.2 (by omega)]
      exact this _ e
    rw [e2, takeWhile_filter _ _ h]
    unfold cntC
    rw [List.countP_eq_length_filter]
    congr 1
    refine List.filter_congr fun y hy => decide_eq_decide.2 ?_
    have := e y hy
    show y.2 ≤ x.2 ↔ y.2 = x.2
    omega
end Go.Proofs.Ytioncjnjhmnlaaa
