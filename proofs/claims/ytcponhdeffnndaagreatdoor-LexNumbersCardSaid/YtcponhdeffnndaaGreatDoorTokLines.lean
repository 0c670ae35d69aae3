/-
  Lines and tokens in plain arithmetic: what is put together has the same parts, tokens stand where they say. No program here.
-/
import Derived.Test.YtcponhdeffnndaaGreatDoorTokPlain
namespace Tk
set_option linter.unusedVariables false
set_option linter.unusedSimpArgs false

theorem parts_ne : ∀ l, parts l ≠ []
  | [] => by simp [parts]
  | c :: t => by
    unfold parts
    split
    · simp
    · split <;> simp
theorem parts_cons (c : UInt8) (t : List UInt8) (h : c ≠ 10) : ∃ p ps, parts t = p :: ps ∧ parts (c :: t) = (c :: p) :: ps := by
  obtain ⟨p, ps, e⟩ := List.exists_cons_of_ne_nil (parts_ne t)
  refine ⟨p, ps, e, ?_⟩
  rw [show parts (c :: t) = _ from rfl]
  rw [parts, if_neg h, e]
theorem parts_ten (t : List UInt8) : parts (10 :: t) = [] :: parts t := by rw [parts, if_pos rfl]
theorem parts_no : ∀ (l : List UInt8), ∀ p ∈ parts l, ∀ x ∈ p, x ≠ 10 ∧ x ∈ l
  | [] => by
    intro p hp x hx
    simp [parts] at hp
    subst hp; simp at hx
  | c :: t => by
    have ih := parts_no t
    by_cases h : c = 10
    · subst h
      rw [parts_ten]
      intro p hp x hx
      rcases List.mem_cons.1 hp with rfl | hp
      · simp at hx
      · exact ⟨(ih p hp x hx).1, List.mem_cons_of_mem _ (ih p hp x hx).2⟩
    · obtain ⟨p0, ps, e1, e2⟩ := parts_cons c t h
      rw [e2]
      rw [e1] at ih
      intro p hp x hx
      rcases List.mem_cons.1 hp with rfl | hp
      · rcases List.mem_cons.1 hx with rfl | hx
        · exact ⟨h, List.mem_cons_self ..⟩
        · exact ⟨(ih p0 (by simp) x hx).1, List.mem_cons_of_mem _ (ih p0 (by simp) x hx).2⟩
      · exact ⟨(ih p (by simp [hp]) x hx).1, List.mem_cons_of_mem _ (ih p (by simp [hp]) x hx).2⟩
theorem parts_self : ∀ (a : List UInt8), (∀ x ∈ a, x ≠ 10) → parts a = [a]
  | [], _ => rfl
  | c :: t, h => by
    have ih := parts_self t (fun x hx => h x (by simp [hx]))
    rw [parts, if_neg (h c (by simp)), ih]
theorem parts_mid : ∀ (a b : List UInt8), (∀ x ∈ a, x ≠ 10) → parts (a ++ 10 :: b) = a :: parts b
  | [], b, _ => parts_ten b
  | c :: t, b, h => by
    have ih := parts_mid t b (fun x hx => h x (by simp [hx]))
    rw [List.cons_append, parts, if_neg (h c (by simp)), ih]
def joinL : List (List UInt8) → List UInt8
  | [] => []
  | [p] => p
  | p :: q :: ps => p ++ 10 :: joinL (q :: ps)
theorem parts_join : ∀ (ps : List (List UInt8)), ps ≠ [] → (∀ p ∈ ps, ∀ x ∈ p, x ≠ 10) → parts (joinL ps) = ps
  | [], h, _ => absurd rfl h
  | [p], _, h => parts_self p (h p (by simp))
  | p :: q :: ps, _, h => by
    show parts (p ++ 10 :: joinL (q :: ps)) = _
    rw [parts_mid p _ (h p (by simp)), parts_join (q :: ps) (by simp) (fun x hx => h x (by simp [hx]))]
/-- what the lines of texts without line ends are -/
theorem lines_join (ps : List (List UInt8)) (h : ∀ p ∈ ps, ∀ x ∈ p, x ≠ 10) : linesOf (joinL ps) = (ps.map Fo.fold).filter fun x => !x.isEmpty := by
  unfold linesOf
  cases ps with
  | nil => rfl
  | cons p ps => rw [parts_join _ (by simp) h]
theorem fold_no10 (l : List UInt8) : ∀ x ∈ Fo.fold l, x ≠ 10 := by
  intro x hx
  rcases Fo.Pl_sb (Fo.fold_Pl l) x hx with h | h
  · rintro rfl; exact absurd h (by decide)
  · rintro rfl; exact absurd h (by decide)
theorem linesOf_mem {s x : List UInt8} (h : x ∈ linesOf s) : x ≠ [] ∧ Fo.fold x = x ∧ (∀ y ∈ x, y ≠ 10) ∧ ∃ p ∈ parts s, x = Fo.fold p := by
  unfold linesOf at h
  obtain ⟨h1, h2⟩ := List.mem_filter.1 h
  obtain ⟨p, hp, rfl⟩ := List.mem_map.1 h1
  refine ⟨by rintro e; rw [e] at h2; simp at h2, Fo.fold_fold p, fold_no10 p, p, hp, rfl⟩
theorem filter_map_self : ∀ (ls : List (List UInt8)), (∀ x ∈ ls, x ≠ [] ∧ Fo.fold x = x) → (ls.map Fo.fold).filter (fun x => !x.isEmpty) = ls
  | [], _ => rfl
  | x :: ls, h => by
    obtain ⟨h1, h2⟩ := h x (by simp)
    have hx : (!x.isEmpty) = true := by cases x <;> simp_all
    rw [List.map_cons, h2, List.filter_cons_of_pos (p := fun x : List UInt8 => !x.isEmpty) hx, filter_map_self ls (fun y hy => h y (by simp [hy]))]
/-- lines put together have the same lines -/
theorem lines_again (s : List UInt8) : linesOf (joinL (linesOf s)) = linesOf s := by
  rw [lines_join _ (fun p hp => (linesOf_mem hp).2.2.1), filter_map_self _ (fun x hx => ⟨(linesOf_mem hx).1, (linesOf_mem hx).2.1⟩)]
theorem linesE_again (s : List UInt8) (h : linesE s = 0) : linesE (joinL (linesOf s)) = 0 ∧ linesV (joinL (linesOf s)) = linesOf s := by
  have e : linesE (joinL (linesOf s)) = linesE s := by unfold linesE; rw [lines_again]
  unfold linesV
  rw [e, h, if_pos rfl, lines_again]
  exact ⟨rfl, rfl⟩
theorem linesE_zero {s : List UInt8} (h : linesE s = 0) : (linesOf s).length ≤ 6 ∧ ∀ x ∈ linesOf s, x.length ≤ 60 := by
  unfold linesE at h
  split at h
  · omega
  · split at h
    · omega
    · rename_i h1 h2
      refine ⟨by omega, fun x hx => ?_⟩
      rcases Nat.lt_or_ge 60 x.length with h3 | h3
      · exact absurd (List.any_eq_true.2 ⟨x, hx, by unfold long; simpa using h3⟩) h2
      · exact h3
theorem linesE_cases (s : List UInt8) : linesE s = 0 ∨ linesE s = 5 ∧ 6 < (linesOf s).length ∨ linesE s = 3 ∧ ∃ x ∈ linesOf s, 60 < x.length := by
  unfold linesE
  split
  · exact .inr (.inl ⟨rfl, by assumption⟩)
  · split
    · rename_i h
      obtain ⟨x, hx, h⟩ := List.any_eq_true.1 h
      exact .inr (.inr ⟨rfl, x, hx, by unfold long at h; simpa using h⟩)
    · exact .inl rfl
theorem parts_count : ∀ l : List UInt8, (parts l).length = l.count 10 + 1
  | [] => rfl
  | c :: t => by
    have ih := parts_count t
    by_cases h : c = 10
    · subst h; rw [parts_ten]; simp [ih]
    · obtain ⟨p, ps, e1, e2⟩ := parts_cons c t h
      rw [e2, List.count_cons_of_ne (by simpa using h), ← ih, e1]; simp
theorem linesOf_len (s : List UInt8) : (linesOf s).length ≤ s.count 10 + 1 := by
  unfold linesOf
  have := List.length_filter_le (fun x : List UInt8 => !x.isEmpty) ((parts s).map Fo.fold)
  rw [List.length_map, parts_count] at this
  exact this
theorem part_len : ∀ (l : List UInt8), ∀ p ∈ parts l, p.length ≤ l.length
  | [] => by intro p hp; simp [parts] at hp; subst hp; simp
  | c :: t => by
    have ih := part_len t
    by_cases h : c = 10
    · subst h; rw [parts_ten]
      intro p hp
      rcases List.mem_cons.1 hp with rfl | hp
      · simp
      · have := ih p hp; simp; omega
    · obtain ⟨p0, ps, e1, e2⟩ := parts_cons c t h
      rw [e2]; rw [e1] at ih
      intro p hp
      rcases List.mem_cons.1 hp with rfl | hp
      · have := ih p0 (by simp); simp; omega
      · have := ih p (by simp [hp]); simp; omega
theorem line_len {s x : List UInt8} (h : x ∈ linesOf s) : x.length ≤ s.length := by
  obtain ⟨_, _, _, p, hp, rfl⟩ := linesOf_mem h
  exact Nat.le_trans (Fo.fold_len p) (part_len s p hp)

/-! tokens -/
def nTok (ls : List (List UInt8)) : Nat := (ls.map fun l => (Fo.words l).length).sum
theorem toks_len (k : Nat) : ∀ (ws : List (List UInt8)) (a : Nat), (toks k a ws).length = ws.length
  | [], _ => rfl
  | w :: ws, a => by simp [toks, toks_len k ws]
theorem tokensFrom_len : ∀ (ls : List (List UInt8)) (k : Nat), (tokensFrom k ls).length = nTok ls
  | [], _ => rfl
  | l :: ls, k => by
    have := tokensFrom_len ls (k + 1)
    simp only [tokensFrom, List.length_append, toks_len, this, nTok, List.map_cons, List.sum_cons]
theorem tokensOf_len (ls : List (List UInt8)) : (tokensOf ls).length = nTok ls := tokensFrom_len ls 0
theorem toks_getD (k : Nat) : ∀ (ws : List (List UInt8)) (a i : Nat), i < ws.length → ∃ x ∈ toks k a ws, True
  | [], _, _, h => by simp at h
  | w :: ws, a, _, _ => ⟨_, by simp [toks]; exact .inl rfl, trivial⟩
end Tk
