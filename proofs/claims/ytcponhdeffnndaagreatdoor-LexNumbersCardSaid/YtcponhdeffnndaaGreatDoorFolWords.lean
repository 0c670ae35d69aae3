/-
  The library's fields at blanks (by runes) are the words (by bytes). No program here.
-/
import Derived.Test.YtcponhdeffnndaaGreatDoorFolPlain2
import Derived.Lib.FieldsP
import Derived.Lib.DecodeN
namespace Fo
open Go
set_option linter.unusedVariables false
set_option linter.unusedSimpArgs false

theorem decN (n b0 b1 b2 b3 : Nat) (hn : 1 ≤ n) :
    (b0 = 32 → Lib.decodeN n b0 b1 b2 b3 = (32, 1)) ∧
    (b0 ≠ 32 → (Lib.decodeN n b0 b1 b2 b3).1 ≠ 32 ∧ 1 ≤ (Lib.decodeN n b0 b1 b2 b3).2 ∧ (Lib.decodeN n b0 b1 b2 b3).2 ≤ n ∧ (Lib.decodeN n b0 b1 b2 b3).2 ≤ 4 ∧
      (2 ≤ (Lib.decodeN n b0 b1 b2 b3).2 → b1 ≠ 32) ∧ (3 ≤ (Lib.decodeN n b0 b1 b2 b3).2 → b2 ≠ 32) ∧ (4 ≤ (Lib.decodeN n b0 b1 b2 b3).2 → b3 ≠ 32)) := by
  constructor
  · rintro rfl; rfl
  · intro h
    unfold Lib.decodeN
    repeat' split
    all_goals (simp only; omega)
theorem get_getD (s : ByteArray) (i : Nat) : s.get! i = s.data.toList.getD i 0 := by
  rw [List.getD_eq_getElem?_getD]
  show s.data[i]! = _
  rw [Array.getElem!_eq_getD, Array.getD_eq_getD_getElem?, Array.getElem?_toList]
  rfl
theorem ne_nat {c : UInt8} (h : c.toNat ≠ 32) : c ≠ 32 := fun e => h (by rw [e]; rfl)
theorem nat_ne {c : UInt8} (h : c ≠ 32) : c.toNat ≠ 32 := fun e => h (UInt8.toNat_inj.1 (by rw [e]; rfl))
theorem dec_facts (s : ByteArray) (pos : Nat) (h : pos < s.size) :
    (s.data.toList.getD pos 0 = 32 ∧ Utf8.decode s pos = (32, 1)) ∨
    (s.data.toList.getD pos 0 ≠ 32 ∧ (Utf8.decode s pos).1 ≠ 32 ∧ 1 ≤ (Utf8.decode s pos).2 ∧ pos + (Utf8.decode s pos).2 ≤ s.size ∧ ∀ j, j < (Utf8.decode s pos).2 → s.data.toList.getD (pos + j) 0 ≠ 32) := by
  have H := decN (s.size - pos) (s.get! pos).toNat (s.get! (pos + 1)).toNat (s.get! (pos + 2)).toNat (s.get! (pos + 3)).toNat (by omega)
  rw [← Lib.decode_at] at H
  obtain ⟨h1, h2⟩ := H
  by_cases hc : s.data.toList.getD pos 0 = 32
  · exact .inl ⟨hc, h1 (by rw [get_getD, hc]; rfl)⟩
  · obtain ⟨a1, a2, a3, a4, a5, a6, a7⟩ := h2 (by rw [get_getD]; exact nat_ne hc)
    refine .inr ⟨hc, a1, a2, by omega, fun j hj => ?_⟩
    rw [get_getD] at a5 a6 a7
    rcases (show j = 0 ∨ j = 1 ∨ j = 2 ∨ j = 3 by omega) with rfl | rfl | rfl | rfl
    · exact hc
    · exact ne_nat (a5 (by omega))
    · exact ne_nat (a6 (by omega))
    · exact ne_nat (a7 (by omega))

theorem wds_run : ∀ (a cur r : List UInt8), (∀ x ∈ a, x ≠ 32) → wds cur (a ++ r) = wds (cur ++ a) r
  | [], cur, r, _ => by simp
  | c :: a, cur, r, h => by
    have hc : c ≠ 32 := h c (by simp)
    have ih := wds_run a (cur ++ [c]) r (fun x hx => h x (by simp [hx]))
    simp only [List.cons_append, wds, hc, if_false, ih]
    simp
def isB (r : Nat) : Bool := r == 32
def slc (L : List UInt8) (x : Nat × Nat) : List UInt8 := (L.drop x.1).take (x.2 - x.1)
def curOf (L : List UInt8) (pos : Nat) : Option Nat → List UInt8
  | none => []
  | some a => slc L (a, pos)
theorem spans_words (s : ByteArray) : ∀ (f pos : Nat) (st : Option Nat) (acc : List (Nat × Nat)), s.size ≤ pos + f → pos ≤ s.size → (∀ a, st = some a → a < pos) →
    (Lib.closeSpans s (Lib.spansFromP isB s f pos st acc)).map (slc s.data.toList) = acc.map (slc s.data.toList) ++ wds (curOf s.data.toList pos st) (s.data.toList.drop pos) := by
  have hL : s.data.toList.length = s.size := by simp
  intro f
  have fin : ∀ (pos : Nat) (st : Option Nat) (acc : List (Nat × Nat)), pos = s.size → (∀ a, st = some a → a < pos) →
      (Lib.closeSpans s (acc, st)).map (slc s.data.toList) = acc.map (slc s.data.toList) ++ wds (curOf s.data.toList pos st) (s.data.toList.drop pos) := by
    intro pos st acc hp hst
    subst hp
    rw [List.drop_of_length_le (by omega)]
    cases st with
    | none => simp [Lib.closeSpans, curOf, wds]
    | some a =>
      have ha := hst a rfl
      have hn : (slc s.data.toList (a, s.size)).isEmpty = false := by
        rw [List.isEmpty_eq_false_iff]
        intro e
        have := congrArg List.length e
        simp [slc] at this
        omega
      simp [Lib.closeSpans, curOf, wds, hn]
  induction f with
  | zero =>
    intro pos st acc h1 h2 hst
    exact fin pos st acc (by omega) hst
  | succ f ih =>
    intro pos st acc h1 h2 hst
    unfold Lib.spansFromP
    by_cases hlt : pos < s.size
    · rw [if_pos hlt]
      rcases dec_facts s pos hlt with ⟨hc, hd⟩ | ⟨hc, hr, k1, k2, hk⟩
      · rw [hd]
        have e : s.data.toList.drop pos = 32 :: s.data.toList.drop (pos + 1) := by
          rw [List.drop_eq_getElem_cons (by omega)]
          congr 1
          rw [List.getD_eq_getElem?_getD, List.getElem?_eq_getElem (by omega)] at hc
          exact hc
        rw [if_pos (by rfl), e]
        cases st with
        | none =>
          simp only
          rw [ih _ _ _ (by omega) (by omega) (by simp)]
          simp [curOf, wds]
        | some a =>
          have ha := hst a rfl
          have hn : (slc s.data.toList (a, pos)).isEmpty = false := by
            rw [List.isEmpty_eq_false_iff]
            intro e
            have := congrArg List.length e
            simp [slc] at this
            omega
          simp only
          rw [ih _ _ _ (by omega) (by omega) (by simp)]
          simp [curOf, wds, hn]
      · obtain ⟨K, hK⟩ : ∃ K, (Utf8.decode s pos).2 = K := ⟨_, rfl⟩
        rw [hK] at k1 k2 hk ⊢
        have hp : isB (Utf8.decode s pos).1 = false := by unfold isB; rw [beq_eq_false_iff_ne]; exact hr
        rw [hp]
        simp only [Bool.false_eq_true, if_false]
        have e : s.data.toList.drop pos = (s.data.toList.drop pos).take K ++ s.data.toList.drop (pos + K) := by
          rw [← List.drop_drop]; exact (List.take_append_drop K _).symm
        have hq : ∀ x ∈ (s.data.toList.drop pos).take K, x ≠ 32 := by
          intro x hx
          obtain ⟨j, hj, rfl⟩ := List.getElem_of_mem hx
          have hjK : j < K := by simp at hj; omega
          have := hk j hjK
          rw [List.getD_eq_getElem?_getD, List.getElem?_eq_getElem (by omega)] at this
          simpa using this
        have e2 : ∀ cur, wds cur (s.data.toList.drop pos) = wds (cur ++ (s.data.toList.drop pos).take K) (s.data.toList.drop (pos + K)) := by
          intro cur
          conv => lhs; rw [e]
          exact wds_run _ _ _ hq
        rw [e2]
        cases st with
        | none =>
          simp only
          rw [ih _ _ _ (by omega) (by omega) (by intro a h; cases h; omega)]
          simp [curOf, slc]
        | some a =>
          have ha := hst a rfl
          simp only
          rw [ih _ _ _ (by omega) (by omega) (by intro a h; cases h; omega)]
          congr 2
          simp only [curOf, slc]
          rw [show pos + K - a = (pos - a) + K by omega, List.take_add, List.drop_drop, show a + (pos - a) = pos by omega]
    · rw [if_neg hlt]
      exact fin pos st acc (by omega) hst
theorem words_fields (s : ByteArray) : (Lib.goFieldsP isB s).map (·.data.toList) = words s.data.toList := by
  unfold Lib.goFieldsP Lib.spansOfP
  rw [List.map_map]
  have := spans_words s s.size 0 none [] (by omega) (by omega) (by simp)
  simp only [List.map_nil, List.nil_append, curOf, List.drop_zero] at this
  unfold words
  rw [← this]
  apply List.map_congr_left
  rintro ⟨a, b⟩ _
  simp [slc, List.extract_eq_take_drop]
end Fo
