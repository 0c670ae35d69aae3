/-
  The table of abbreviations in plain arithmetic. No program here.
-/
import Derived.Test.YtcponhdeffnndaaGreatDoorFolPlain2
namespace Fo
set_option linter.unusedVariables false
set_option linter.unusedSimpArgs false

abbrev Row := Nat × List UInt8 × List UInt8
def T : List Row :=
  [(1, [78, 79, 82, 84, 72], [78]),
   (1, [83, 79, 85, 84, 72], [83]),
   (1, [69, 65, 83, 84], [69]),
   (1, [87, 69, 83, 84], [87]),
   (1, [78, 79, 82, 84, 72, 69, 65, 83, 84], [78, 69]),
   (1, [78, 79, 82, 84, 72, 87, 69, 83, 84], [78, 87]),
   (1, [83, 79, 85, 84, 72, 69, 65, 83, 84], [83, 69]),
   (1, [83, 79, 85, 84, 72, 87, 69, 83, 84], [83, 87]),
   (2, [83, 84, 82, 69, 69, 84], [83, 84]),
   (2, [65, 86, 69, 78, 85, 69], [65, 86, 69]),
   (2, [65, 86, 69, 78, 85, 69], [65, 86]),
   (2, [82, 79, 65, 68], [82, 68]),
   (2, [68, 82, 73, 86, 69], [68, 82]),
   (2, [76, 65, 78, 69], [76, 78]),
   (2, [67, 79, 85, 82, 84], [67, 84]),
   (2, [80, 76, 65, 67, 69], [80, 76]),
   (2, [83, 81, 85, 65, 82, 69], [83, 81]),
   (2, [66, 79, 85, 76, 69, 86, 65, 82, 68], [66, 76, 86, 68]),
   (2, [84, 69, 82, 82, 65, 67, 69], [84, 69, 82]),
   (2, [72, 73, 71, 72, 87, 65, 89], [72, 87, 89]),
   (2, [67, 82, 69, 83, 67, 69, 78, 84], [67, 82, 69, 83]),
   (2, [87, 65, 89], [87, 65, 89]),
   (2, [83, 84, 82, 65, 83, 83, 69], [83, 84, 82]),
   (2, [80, 76, 65, 84, 90], [80, 76]),
   (2, [87, 69, 71], [87, 69, 71]),
   (2, [65, 76, 76, 69, 69], [65, 76]),
   (3, [65, 80, 65, 82, 84, 77, 69, 78, 84], [65, 80, 84]),
   (3, [83, 85, 73, 84, 69], [83, 84, 69]),
   (3, [70, 76, 79, 79, 82], [70, 76]),
   (3, [82, 79, 79, 77], [82, 77]),
   (3, [70, 76, 65, 84], [70, 76]),
   (3, [85, 78, 73, 84], [85, 78, 73, 84]),
   (4, [66, 79, 88], [66, 79, 88]),
   (4, [80, 79, 83, 84, 66, 79, 88], [80, 66]),
   (4, [80, 79, 83, 84, 70, 65, 67, 72], [80, 70]),
   (5, [83, 65, 73, 78, 84], [83, 84]),
   (5, [83, 65, 73, 78, 84, 69], [83, 84, 69]),
   (5, [77, 79, 85, 78, 84], [77, 84]),
   (5, [70, 79, 82, 84], [70, 84]),
   (5, [68, 79, 67, 84, 79, 82], [68, 82])]
def ofKind (k : Nat) (r : Row) : Bool := k == 0 || r.1 == k
def ofWord (w : List UInt8) (r : Row) : Bool := r.2.1 == w || r.2.2 == w
/-- one more, unless it is there -/
def more {α : Type} [BEq α] (acc : List α) (x : α) (b : Bool) : List α := if b && !acc.contains x then acc ++ [x] else acc
def sel {α : Type} [BEq α] (f : Row → α) (p : Row → Bool) (l : List Row) (acc : List α) : List α := l.foldl (fun a r => more a (f r) (p r)) acc
def longs (k : Nat) (w : List UInt8) : List (List UInt8) := sel (fun r => r.2.1) (fun r => ofKind k r && ofWord w r) T []
def kindsL (w : List UInt8) : List Nat := sel (fun r => r.1) (ofWord w) T []
def short? (k : Nat) (w : List UInt8) : Option Row := T.find? fun r => ofKind k r && r.2.1 == w
def short (k : Nat) (w : List UInt8) : List UInt8 := match short? k w with | some r => r.2.2 | none => []
def hasShort (k : Nat) (w : List UInt8) : Bool := (short? k w).isSome
def kinds (w : List UInt8) : Nat := ((kindsL w).map fun k => 2 ^ k).sum
def same (k : Nat) (a b : List UInt8) : Bool := a == b || (longs k a).any fun x => (longs k b).contains x

theorem mem_sel {α : Type} [BEq α] [LawfulBEq α] (f : Row → α) (p : Row → Bool) (x : α) : ∀ (l : List Row) (acc : List α), x ∈ sel f p l acc ↔ x ∈ acc ∨ ∃ r ∈ l, p r = true ∧ f r = x
  | [], acc => by simp [sel]
  | r :: l, acc => by
    have ih := mem_sel f p x l (more acc (f r) (p r))
    show x ∈ sel f p l (more acc (f r) (p r)) ↔ _
    rw [ih]
    have hm : x ∈ more acc (f r) (p r) ↔ x ∈ acc ∨ (p r = true ∧ f r = x) := by
      unfold more
      by_cases hp : p r = true
      · by_cases hc : acc.contains (f r) = true
        · simp only [hp, hc, Bool.not_true, Bool.and_false, Bool.false_eq_true, if_false, true_and]
          constructor
          · exact .inl
          · rintro (h | rfl)
            · exact h
            · exact List.contains_iff_mem.1 hc
        · simp only [hp, hc, Bool.true_and, Bool.not_eq_true', true_and]
          rw [if_pos (by trivial), List.mem_append, List.mem_singleton]
          constructor <;> (rintro (h | h) <;> simp [h])
      · simp [hp]
    rw [hm]
    simp only [List.mem_cons, exists_eq_or_imp]
    rw [or_assoc]
theorem mem_longs (k : Nat) (w x : List UInt8) : x ∈ longs k w ↔ ∃ r ∈ T, (ofKind k r && ofWord w r) = true ∧ r.2.1 = x := by
  unfold longs; rw [mem_sel]; simp
theorem same_comm (k : Nat) (a b : List UInt8) : same k a b = same k b a := by
  rw [Bool.eq_iff_iff]
  unfold same
  simp only [Bool.or_eq_true, List.any_eq_true, List.contains_iff_mem, beq_iff_eq]
  constructor
  · rintro (h | ⟨x, h1, h2⟩)
    · exact .inl h.symm
    · exact .inr ⟨x, h2, h1⟩
  · rintro (h | ⟨x, h1, h2⟩)
    · exact .inl h.symm
    · exact .inr ⟨x, h2, h1⟩
theorem same_self (k : Nat) (a : List UInt8) : same k a a = true := by simp [same]
theorem T_kind : ∀ r ∈ T, 1 ≤ r.1 ∧ r.1 ≤ 5 := by decide
theorem longs_big (k : Nat) (h : 5 < k) (w : List UInt8) : longs k w = [] := by
  cases hl : longs k w with
  | nil => rfl
  | cons x t =>
    obtain ⟨r, hr, hp, _⟩ := (mem_longs k w x).1 (by rw [hl]; simp)
    have := T_kind r hr
    simp [ofKind] at hp
    omega
theorem same_big (k : Nat) (h : 5 < k) (a b : List UInt8) : same k a b = (a == b) := by simp [same, longs_big k h]
theorem short_row {k : Nat} {w : List UInt8} (h : hasShort k w = true) : ∃ r ∈ T, ofKind k r = true ∧ r.2.1 = w ∧ short k w = r.2.2 := by
  unfold hasShort at h
  unfold short
  cases hs : short? k w with
  | none => rw [hs] at h; simp at h
  | some r =>
    have h1 := List.find?_some hs
    have h2 := List.mem_of_find?_eq_some hs
    simp at h1
    exact ⟨r, h2, h1.1, h1.2, rfl⟩
theorem short_long {k : Nat} {w : List UInt8} (h : hasShort k w = true) : (longs k (short k w)).contains w = true ∧ same k (short k w) w = true := by
  obtain ⟨r, hr, hk, hl, hs⟩ := short_row h
  have m1 : w ∈ longs k (short k w) := (mem_longs _ _ _).2 ⟨r, hr, by simp [hk, ofWord, hs], hl⟩
  have m2 : w ∈ longs k w := (mem_longs _ _ _).2 ⟨r, hr, by simp [hk, ofWord, hl], hl⟩
  refine ⟨List.contains_iff_mem.2 m1, ?_⟩
  unfold same
  simp only [Bool.or_eq_true, List.any_eq_true, List.contains_iff_mem]
  exact .inr ⟨w, m1, m2⟩
theorem short_none {k : Nat} {w : List UInt8} (h : hasShort k w = false) : short k w = [] := by
  unfold hasShort at h
  unfold short
  cases hs : short? k w with
  | none => rfl
  | some r => rw [hs] at h; simp at h

theorem more_nodup {α : Type} [BEq α] [LawfulBEq α] (acc : List α) (x : α) (b : Bool) (h : acc.Nodup) : (more acc x b).Nodup := by
  unfold more
  split
  · rename_i hc
    simp only [Bool.and_eq_true, Bool.not_eq_true'] at hc
    rw [List.nodup_append]
    refine ⟨h, by simp, ?_⟩
    intro a ha c hc'
    simp at hc'
    subst hc'
    rintro rfl
    simp [ha] at hc
  · exact h
theorem sel_nodup {α : Type} [BEq α] [LawfulBEq α] (f : Row → α) (p : Row → Bool) : ∀ (l : List Row) (acc : List α), acc.Nodup → (sel f p l acc).Nodup
  | [], acc, h => h
  | r :: l, acc, h => sel_nodup f p l _ (more_nodup acc (f r) (p r) h)
/-- some row of the kind has the word -/
def hasK (w : List UInt8) (k : Nat) : Bool := T.any fun r => ofKind k r && ofWord w r
theorem kinds_mem (w : List UInt8) (k : Nat) (hk : 1 ≤ k) : k ∈ kindsL w ↔ hasK w k = true := by
  unfold kindsL hasK
  rw [mem_sel]
  simp only [List.not_mem_nil, false_or, List.any_eq_true, Bool.and_eq_true]
  constructor
  · rintro ⟨r, h1, h2, h3⟩
    exact ⟨r, h1, by simp [ofKind, h3], h2⟩
  · rintro ⟨r, h1, h2, h3⟩
    refine ⟨r, h1, h3, ?_⟩
    simp [ofKind] at h2
    omega
theorem sum_kinds : ∀ (l : List Nat), l.Nodup → (∀ x ∈ l, 1 ≤ x ∧ x ≤ 5) →
    (l.map fun k => 2 ^ k).sum = (if 1 ∈ l then 2 else 0) + (if 2 ∈ l then 4 else 0) + (if 3 ∈ l then 8 else 0) + (if 4 ∈ l then 16 else 0) + (if 5 ∈ l then 32 else 0)
  | [], _, _ => by simp
  | x :: l, hn, hx => by
    have ih := sum_kinds l (List.nodup_cons.1 hn).2 (fun y hy => hx y (by simp [hy]))
    have hx1 := (List.nodup_cons.1 hn).1
    obtain ⟨a, b⟩ := hx x (by simp)
    rw [List.map_cons, List.sum_cons, ih]
    rcases (show x = 1 ∨ x = 2 ∨ x = 3 ∨ x = 4 ∨ x = 5 by omega) with rfl | rfl | rfl | rfl | rfl <;> simp [hx1] <;> omega
theorem kindsL_in (w : List UInt8) : ∀ x ∈ kindsL w, 1 ≤ x ∧ x ≤ 5 := by
  intro x hx
  obtain ⟨r, hr, _, rfl⟩ := ((mem_sel _ _ _ _ _).1 hx).resolve_left (by simp)
  exact T_kind r hr
/-- the sum over the first n kinds -/
def upTo (w : List UInt8) : Nat → Nat
  | 0 => 0
  | n + 1 => upTo w n + (if hasK w (n + 1) then 2 ^ (n + 1) else 0)
theorem kinds_upTo (w : List UInt8) : kinds w = upTo w 5 := by
  unfold kinds
  rw [sum_kinds (kindsL w) (sel_nodup _ _ _ _ (by simp)) (kindsL_in w)]
  simp only [kinds_mem w 1 (by omega), kinds_mem w 2 (by omega), kinds_mem w 3 (by omega), kinds_mem w 4 (by omega), kinds_mem w 5 (by omega), upTo]
  simp
theorem upTo_le (w : List UInt8) : ∀ n, upTo w n + 2 ≤ 2 ^ (n + 1)
  | 0 => by simp [upTo]
  | n + 1 => by
    have := upTo_le w n
    simp only [upTo]
    rw [Nat.pow_succ 2 (n + 1)]
    split <;> omega
end Fo
