/-
  What follows for folded texts, in plain arithmetic: two texts, words, other letters.
-/
import Derived.Test.YtcponhdeffnndaaGreatDoorFolPlain
namespace Fo
set_option linter.unusedVariables false
set_option linter.unusedSimpArgs false

/-- a byte that becomes a blank whatever is beside it -/
def bl (c : UInt8) : Prop := c.toNat < 128 ∧ kept c.toNat = false ∧ small c.toNat = false
theorem two_low (c d : Nat) (h : c < 128 ∨ d < 128) : two c d = [] := by
  unfold two
  split
  · rw [if_neg (by omega)]
  · split
    · rw [if_neg (by omega), if_neg (by omega), if_neg (by omega)]
    · rfl
theorem conv_kept {c : UInt8} (t : List UInt8) (h : kept c.toNat = true) : conv (c :: t) = c :: conv t := by
  rw [conv.eq_def]; simp [h]
theorem conv_small {c : UInt8} (t : List UInt8) (h : ¬kept c.toNat = true) (h2 : small c.toNat = true) : conv (c :: t) = (c - 32) :: conv t := by
  rw [conv.eq_def]; simp [h, h2]
theorem conv_one {c : UInt8} (h : ¬kept c.toNat = true) (h2 : ¬small c.toNat = true) : conv [c] = [32] := by
  rw [conv.eq_def]; simp [h, h2]
theorem conv_other {c : UInt8} (d : UInt8) (t : List UInt8) (h : ¬kept c.toNat = true) (h2 : ¬small c.toNat = true) :
    conv (c :: d :: t) = if (two c.toNat d.toNat).isEmpty then 32 :: conv (d :: t) else two c.toNat d.toNat ++ conv t := by
  rw [conv.eq_def]; simp only [h, h2, Bool.false_eq_true, if_false]
theorem conv_bl (c : UInt8) (h : bl c) (b : List UInt8) : conv (c :: b) = 32 :: conv b := by
  obtain ⟨h1, h2, h3⟩ := h
  have h2' : ¬kept c.toNat = true := by simp [h2]
  have h3' : ¬small c.toNat = true := by simp [h3]
  cases b with
  | nil => rw [conv_one h2' h3']; rfl
  | cons d t =>
    rw [conv_other d t h2' h3', two_low c.toNat d.toNat (.inl h1)]; rfl
theorem conv_mid : ∀ (n : Nat) (a : List UInt8) (c : UInt8) (b : List UInt8), a.length ≤ n → bl c → conv (a ++ c :: b) = conv a ++ 32 :: conv b
  | _, [], c, b, _, h => by rw [List.nil_append, conv_bl c h]; rfl
  | 0, x :: t, c, b, hn, h => by simp at hn
  | n + 1, x :: t, c, b, hn, h => by
    have hn' : t.length ≤ n := by simpa using hn
    have ih := conv_mid n t c b hn' h
    rw [List.cons_append]
    by_cases h1 : kept x.toNat = true
    · rw [conv_kept _ h1, conv_kept _ h1, ih]; rfl
    · by_cases h2 : small x.toNat = true
      · rw [conv_small _ h1 h2, conv_small _ h1 h2, ih]; rfl
      · cases t with
        | nil =>
          rw [List.nil_append, conv_other _ _ h1 h2, two_low x.toNat c.toNat (.inr h.1), conv_one h1 h2, conv_bl c h]
          rfl
        | cons d t' =>
          have ih2 := conv_mid n t' c b (by simp at hn'; omega) h
          rw [List.cons_append] at ih ⊢
          rw [conv_other _ _ h1 h2, conv_other _ _ h1 h2]
          by_cases h3 : (two x.toNat d.toNat).isEmpty = true
          · rw [if_pos h3, if_pos h3, ih]; rfl
          · rw [if_neg h3, if_neg h3, ih2, List.append_assoc]

def joined (a b : List UInt8) : List UInt8 := if a.isEmpty || b.isEmpty then a ++ b else a ++ 32 :: b
theorem sq_app : ∀ (a out b : List UInt8) (gap : Bool), sq out gap (a ++ 32 :: b) = sq (sq out gap a) true b
  | [], out, b, gap => by simp [sq]
  | c :: t, out, b, gap => by
    simp only [List.cons_append, sq]
    split
    · exact sq_app t _ _ _
    · exact sq_app t _ _ _
theorem put_ne (out : List UInt8) (gap : Bool) (c : UInt8) : put out gap c ≠ [] := by simp [put]
theorem sq_ne : ∀ (l out : List UInt8) (gap : Bool), out ≠ [] → sq out gap l ≠ []
  | [], out, gap, h => h
  | c :: t, out, gap, h => by
    unfold sq
    split
    · exact sq_ne t _ _ h
    · exact sq_ne t _ _ (put_ne _ _ _)
theorem sq_pre : ∀ (l p y : List UInt8) (gap : Bool), y ≠ [] → sq (p ++ y) gap l = p ++ sq y gap l
  | [], p, y, gap, h => rfl
  | c :: t, p, y, gap, h => by
    unfold sq
    split
    · exact sq_pre t p y true h
    · have e : put (p ++ y) gap c = p ++ put y gap c := by
        cases gap <;> simp [put, h]
      rw [e]
      exact sq_pre t p _ false (put_ne _ _ _)
theorem sq_gap (l : List UInt8) : sq [] true l = sq [] false l := by
  induction l with
  | nil => rfl
  | cons c t ih =>
    unfold sq
    split
    · rfl
    · simp [put]
theorem sq_true : ∀ (l out : List UInt8), out ≠ [] → sq out true l = joined out (sq [] false l)
  | [], out, h => by simp [sq, joined]
  | c :: t, out, h => by
    unfold sq
    split
    · rw [sq_gap]; exact sq_true t out h
    · have e : put out true c = (out ++ [32]) ++ [c] := by simp [put, h]
      have e2 : put [] false c = [c] := rfl
      rw [e, e2, sq_pre t _ [c] false (by simp)]
      have hn := sq_ne t [c] false (by simp)
      simp [joined, h, hn]
theorem sq_mid (a b : List UInt8) : sq [] false (a ++ 32 :: b) = joined (sq [] false a) (sq [] false b) := by
  rw [sq_app]
  by_cases h : sq [] false a = []
  · rw [h, sq_gap]; simp [joined]
  · exact sq_true b _ h
theorem fold_mid (a : List UInt8) (c : UInt8) (b : List UInt8) (h : bl c) : fold (a ++ c :: b) = joined (fold a) (fold b) := by
  unfold fold
  rw [conv_mid _ a c b (Nat.le_refl _) h, sq_mid]
theorem bl_blank : bl 32 := ⟨by decide, by decide, by decide⟩
theorem fold_one (c : UInt8) (h : c.toNat < 128) : fold [c] = [] ↔ bl c := by
  constructor
  · intro hf
    refine ⟨h, ?_, ?_⟩
    · cases hk : kept c.toNat with
      | false => rfl
      | true =>
        exfalso
        have hn := kept_ne hk
        simp [fold, conv, hk, sq, hn, put] at hf
    · cases hk : kept c.toNat with
      | true => rw [show small c.toNat = false by simp [kept] at hk; simp [small]; omega]
      | false =>
        cases hs : small c.toNat with
        | false => rfl
        | true =>
          exfalso
          have hn := kept_ne (small_kept c hs)
          simp [fold, conv, hk, hs, sq, hn, put] at hf
  · intro hb
    unfold fold
    rw [conv_bl c hb]
    rfl
theorem joined_Pl {a b : List UInt8} (ha : Pl a) (hb : Pl b) : Pl (joined a b) := by
  have h : joined a b = fold (a ++ 32 :: b) := by rw [fold_mid _ _ _ bl_blank, fold_self ha, fold_self hb]
  rw [h]; exact fold_Pl _

theorem wds_mem : ∀ (l cur : List UInt8), (∀ x ∈ cur, x ≠ 32) → ∀ w ∈ wds cur l, w ≠ [] ∧ ∀ x ∈ w, x ≠ 32 ∧ (x ∈ cur ∨ x ∈ l)
  | [], cur, hc, w, hw => by
    unfold wds at hw
    split at hw
    · simp at hw
    · rename_i h
      simp at hw; subst hw
      exact ⟨by simpa using h, fun x hx => ⟨hc x hx, .inl hx⟩⟩
  | c :: t, cur, hc, w, hw => by
    unfold wds at hw
    split at hw
    · split at hw
      · obtain ⟨h1, h2⟩ := wds_mem t [] (by simp) w hw
        exact ⟨h1, fun x hx => ⟨(h2 x hx).1, .inr (by rcases (h2 x hx).2 with h | h; simp at h; simp [h])⟩⟩
      · rename_i h
        rcases List.mem_cons.1 hw with rfl | hw
        · exact ⟨by simpa using h, fun x hx => ⟨hc x hx, .inl hx⟩⟩
        · obtain ⟨h1, h2⟩ := wds_mem t [] (by simp) w hw
          exact ⟨h1, fun x hx => ⟨(h2 x hx).1, .inr (by rcases (h2 x hx).2 with h | h; simp at h; simp [h])⟩⟩
    · rename_i h
      obtain ⟨h1, h2⟩ := wds_mem t (cur ++ [c]) (by
        intro x hx
        rcases List.mem_append.1 hx with hx | hx
        · exact hc x hx
        · simp at hx; subst hx; exact h) w hw
      refine ⟨h1, fun x hx => ⟨(h2 x hx).1, ?_⟩⟩
      rcases (h2 x hx).2 with h | h
      · rcases List.mem_append.1 h with h | h
        · exact .inl h
        · simp at h; subst h; exact .inr (by simp)
      · exact .inr (by simp [h])
theorem Pl_kept {l : List UInt8} (h : ∀ x ∈ l, kept x.toNat = true) : Pl l := by
  intro i hi
  left
  apply h
  rw [List.getD_eq_getElem?_getD, List.getElem?_eq_getElem hi]
  exact List.getElem_mem hi
theorem word_of {l : List UInt8} (h : Pl l) (w : List UInt8) (hw : w ∈ words l) : w ≠ [] ∧ Pl w ∧ ∀ x ∈ w, x ≠ 32 := by
  obtain ⟨h1, h2⟩ := wds_mem l [] (by simp) w hw
  refine ⟨h1, Pl_kept fun x hx => ?_, fun x hx => (h2 x hx).1⟩
  obtain ⟨h3, h4⟩ := h2 x hx
  rcases h4 with h4 | h4
  · simp at h4
  · rcases Pl_sb h x h4 with h5 | h5
    · exact h5
    · exact absurd h5 h3
theorem words_join {l : List UInt8} (h : Pl l) : joinW (words l) = l := by rw [← sq_join, sq_Pl_self h]

/-- capital letters for small ones -/
def up (c : UInt8) : UInt8 := if small c.toNat then c - 32 else c
theorem up_big {c : UInt8} (h : small c.toNat = true) : (c - 32).toNat < 128 ∧ c.toNat < 128 := by
  have := small_kept c h
  simp [small] at h
  simp [kept] at this
  omega
theorem conv_up : ∀ (n : Nat) (l : List UInt8), l.length ≤ n → conv (l.map up) = conv l
  | _, [], _ => rfl
  | 0, c :: t, hn => by simp at hn
  | n + 1, c :: t, hn => by
    have hn' : t.length ≤ n := by simpa using hn
    have ih := conv_up n t hn'
    rw [List.map_cons]
    by_cases hs : small c.toNat = true
    · have hk0 : ¬kept c.toNat = true := by simp [small] at hs; simp [kept]; omega
      have hk := small_kept c hs
      rw [show up c = c - 32 by simp [up, hs], conv_kept _ hk, conv_small _ hk0 hs, ih]
    · rw [show up c = c by simp [up, hs]]
      by_cases hk : kept c.toNat = true
      · rw [conv_kept _ hk, conv_kept _ hk, ih]
      · cases t with
        | nil => rfl
        | cons d t' =>
          have ih2 := conv_up n t' (by simp at hn'; omega)
          have e : two c.toNat (up d).toNat = two c.toNat d.toNat := by
            by_cases hd : small d.toNat = true
            · rw [show up d = d - 32 by simp [up, hd], two_low _ _ (.inr (up_big hd).1), two_low _ _ (.inr (up_big hd).2)]
            · rw [show up d = d by simp [up, hd]]
          rw [List.map_cons] at ih ⊢
          rw [conv_other _ _ hk hs, conv_other _ _ hk hs, e, ih, ih2]
theorem fold_up (l : List UInt8) : fold (l.map up) = fold l := by unfold fold; rw [conv_up _ l (Nat.le_refl _)]
/-- commas for bytes that become blanks -/
def cm (c : UInt8) : UInt8 := if c.toNat < 128 ∧ kept c.toNat = false ∧ small c.toNat = false then 44 else c
theorem bl_comma : bl 44 := ⟨by decide, by decide, by decide⟩
theorem conv_cm : ∀ (n : Nat) (l : List UInt8), l.length ≤ n → conv (l.map cm) = conv l
  | _, [], _ => rfl
  | 0, c :: t, hn => by simp at hn
  | n + 1, c :: t, hn => by
    have hn' : t.length ≤ n := by simpa using hn
    have ih := conv_cm n t hn'
    rw [List.map_cons]
    by_cases hb : bl c
    · rw [show cm c = 44 from if_pos hb, conv_bl _ bl_comma, conv_bl _ hb, ih]
    · rw [show cm c = c from if_neg hb]
      by_cases hk : kept c.toNat = true
      · rw [conv_kept _ hk, conv_kept _ hk, ih]
      · by_cases hs : small c.toNat = true
        · rw [conv_small _ hk hs, conv_small _ hk hs, ih]
        · cases t with
          | nil => rfl
          | cons d t' =>
            have ih2 := conv_cm n t' (by simp at hn'; omega)
            have e : two c.toNat (cm d).toNat = two c.toNat d.toNat := by
              by_cases hd : bl d
              · rw [show cm d = 44 from if_pos hd, two_low _ _ (.inr (by decide)), two_low _ _ (.inr hd.1)]
              · rw [show cm d = d from if_neg hd]
            rw [List.map_cons] at ih ⊢
            rw [conv_other _ _ hk hs, conv_other _ _ hk hs, e, ih, ih2]
theorem fold_cm (l : List UInt8) : fold (l.map cm) = fold l := by unfold fold; rw [conv_cm _ l (Nat.le_refl _)]
end Fo
