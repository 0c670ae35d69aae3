/-
  Places of words in their lines: plain arithmetic. No program here.
-/
import Derived.Test.YtcponhdeffnndaaGreatDoorTokLines
namespace Tk
set_option linter.unusedVariables false
set_option linter.unusedSimpArgs false

/-- where the word j begins -/
def pos (ws : List (List UInt8)) : Nat → Nat
  | 0 => 0
  | j + 1 => pos ws j + (ws.getD j []).length + 1
theorem pos_cons (w : List UInt8) (ws : List (List UInt8)) : ∀ j, pos (w :: ws) (j + 1) = w.length + 1 + pos ws j
  | 0 => by simp [pos]
  | j + 1 => by
    have ih := pos_cons w ws j
    show pos (w :: ws) (j + 1) + ((w :: ws).getD (j + 1) []).length + 1 = _
    rw [ih]
    show _ = w.length + 1 + (pos ws j + (ws.getD j []).length + 1)
    simp; omega
theorem pos_mono (ws : List (List UInt8)) : ∀ i j, i ≤ j → pos ws i ≤ pos ws j := by
  intro i j h
  induction j with
  | zero => obtain rfl : i = 0 := by omega
            exact Nat.le_refl _
  | succ j ih =>
    rcases Nat.lt_or_ge i (j + 1) with h1 | h1
    · have := ih (by omega); simp only [pos]; omega
    · obtain rfl : i = j + 1 := by omega
      exact Nat.le_refl _
theorem pos_join : ∀ (ws : List (List UInt8)), ws ≠ [] → pos ws ws.length = (Fo.joinW ws).length + 1
  | [], h => absurd rfl h
  | [w], _ => by simp [pos, Fo.joinW]
  | w :: v :: ws, _ => by
    have ih := pos_join (v :: ws) (by simp)
    rw [List.length_cons, pos_cons, ih, Fo.joinW_cons w (v :: ws) (by simp)]
    simp; omega
theorem toks_take (k : Nat) : ∀ (ws : List (List UInt8)) (a j : Nat), j < ws.length → toks k a (ws.take (j + 1)) = toks k a (ws.take j) ++ [⟨ws.getD j [], k, a + pos ws j⟩]
  | [], _, _, h => by simp at h
  | w :: ws, a, 0, _ => by simp [toks, pos]
  | w :: ws, a, j + 1, h => by
    have ih := toks_take k ws (a + w.length + 1) j (by simpa using h)
    rw [List.take_succ_cons, List.take_succ_cons]
    simp only [toks]
    rw [ih, pos_cons]
    simp; omega
theorem from_take : ∀ (ls : List (List UInt8)) (k i : Nat), i < ls.length → tokensFrom k (ls.take (i + 1)) = tokensFrom k (ls.take i) ++ toks (k + i) 0 (Fo.words (ls.getD i []))
  | [], _, _, h => by simp at h
  | l :: ls, k, 0, _ => by simp [tokensFrom]
  | l :: ls, k, i + 1, h => by
    have ih := from_take ls (k + 1) i (by simpa using h)
    rw [List.take_succ_cons, List.take_succ_cons]
    simp only [tokensFrom]
    rw [ih, List.append_assoc, show k + 1 + i = k + (i + 1) by omega]
    simp
theorem toks_pre (k a : Nat) (ws : List (List UInt8)) (j : Nat) : ∃ r, toks k a ws = toks k a (ws.take j) ++ r := by
  induction ws generalizing a j with
  | nil => exact ⟨[], by simp [toks]⟩
  | cons w ws ih =>
    cases j with
    | zero => exact ⟨_, by simp [toks]; rfl⟩
    | succ j =>
      obtain ⟨r, h⟩ := ih (a + w.length + 1) j
      exact ⟨r, by rw [List.take_succ_cons]; simp only [toks]; rw [h]; simp⟩
theorem from_pre (ls : List (List UInt8)) (k i : Nat) : ∃ r, tokensFrom k ls = tokensFrom k (ls.take i) ++ r := by
  induction ls generalizing k i with
  | nil => exact ⟨[], by simp [tokensFrom]⟩
  | cons l ls ih =>
    cases i with
    | zero => exact ⟨_, by simp [tokensFrom]; rfl⟩
    | succ i =>
      obtain ⟨r, h⟩ := ih (k + 1) i
      exact ⟨r, by rw [List.take_succ_cons]; simp only [tokensFrom]; rw [h]; simp⟩
/-- a token that comes next is ahead of the rest -/
theorem next_pre (ls : List (List UInt8)) (i j : Nat) (hi : i < ls.length) : ∃ r, tokensOf ls = (tokensFrom 0 (ls.take i) ++ toks i 0 ((Fo.words (ls.getD i [])).take j)) ++ r := by
  obtain ⟨r1, h1⟩ := from_pre ls 0 (i + 1)
  obtain ⟨r2, h2⟩ := toks_pre i 0 (Fo.words (ls.getD i [])) j
  refine ⟨r2 ++ r1, ?_⟩
  unfold tokensOf
  rw [h1, from_take ls 0 i hi, Nat.zero_add, h2]
  simp
theorem right_pos {l : List UInt8} (h : Fo.fold l = l) (j : Nat) (hj : j ≤ (Fo.words l).length) : pos (Fo.words l) j ≤ l.length + 1 := by
  have hp : Fo.Pl l := (Fo.right_iff l).1 h
  have hw := Fo.words_join hp
  by_cases h0 : Fo.words l = []
  · rw [h0] at hj ⊢
    obtain rfl : j = 0 := by simpa using hj
    simp [pos]
  · have h1 := pos_mono (Fo.words l) j _ hj
    rw [pos_join _ h0, hw] at h1
    exact h1
theorem right_word {l : List UInt8} (h : Fo.fold l = l) (j : Nat) (hj : j < (Fo.words l).length) : ((Fo.words l).getD j []).length ≤ l.length ∧ pos (Fo.words l) j + ((Fo.words l).getD j []).length ≤ l.length := by
  have h1 := right_pos h (j + 1) hj
  simp only [pos] at h1
  omega
theorem pos_ge (ws : List (List UInt8)) : ∀ j, j ≤ pos ws j
  | 0 => Nat.zero_le _
  | j + 1 => by have := pos_ge ws j; simp only [pos]; omega
theorem right_count {l : List UInt8} (h : Fo.fold l = l) : (Fo.words l).length ≤ l.length + 1 := Nat.le_trans (pos_ge _ _) (right_pos h _ (Nat.le_refl _))
end Tk
