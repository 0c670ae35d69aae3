/-
  Folded texts in plain arithmetic: what bytes become, blanks, words. No program here.
-/
import Derived.Test.YtcponhdeffnndaaGreatDoorProg
namespace Fo
set_option linter.unusedVariables false
set_option linter.unusedSimpArgs false

def kept (n : Nat) : Bool := decide (65 ≤ n ∧ n ≤ 90 ∨ 48 ≤ n ∧ n ≤ 57 ∨ n = 45 ∨ n = 47)
def small (n : Nat) : Bool := decide (97 ≤ n ∧ n ≤ 122)
/-- the table of letters behind C3 -/
def tab : List (List UInt8) :=
  [[65], [65], [65], [65], [65, 69], [65], [65, 69], [67], [69], [69], [69], [69], [73], [73], [73], [73],
   [68], [78], [79], [79], [79], [79], [79, 69], [], [79], [85], [85], [85], [85, 69], [89], [84, 72], [83, 83],
   [65], [65], [65], [65], [65, 69], [65], [65, 69], [67], [69], [69], [69], [69], [73], [73], [73], [73],
   [68], [78], [79], [79], [79], [79], [79, 69], [], [79], [85], [85], [85], [85, 69], [89], [84, 72], [89]]
def two (c d : Nat) : List UInt8 :=
  if c = 195 then (if 128 ≤ d then tab.getD (d - 128) [] else [])
  else if c = 197 then (if d = 146 ∨ d = 147 then [79, 69] else if d = 160 ∨ d = 161 then [83] else if d = 189 ∨ d = 190 then [90] else [])
  else []
/-- what the bytes at the front become, and how many they are -/
def pc : List UInt8 → List UInt8 × Nat
  | [] => ([], 0)
  | c :: t => if kept c.toNat then ([c], 1) else if small c.toNat then ([c - 32], 1) else
      match t with
      | [] => ([32], 1)
      | d :: _ => if (two c.toNat d.toNat).isEmpty then ([32], 1) else (two c.toNat d.toNat, 2)
/-- all bytes converted -/
def conv : List UInt8 → List UInt8
  | [] => []
  | c :: t => if kept c.toNat then c :: conv t else if small c.toNat then (c - 32) :: conv t else
      match t with
      | [] => [32]
      | d :: t' => if (two c.toNat d.toNat).isEmpty then 32 :: conv (d :: t') else two c.toNat d.toNat ++ conv t'

theorem conv_pc (l : List UInt8) (h : l ≠ []) : conv l = (pc l).1 ++ conv (l.drop (pc l).2) := by
  match l, h with
  | [c], _ =>
    conv => lhs; unfold conv
    by_cases h1 : kept c.toNat = true
    · simp [pc, h1]
    · by_cases h2 : small c.toNat = true
      · simp [pc, h1, h2]
      · simp [pc, h1, h2, conv]
  | c :: d :: t, _ =>
    conv => lhs; unfold conv
    by_cases h1 : kept c.toNat = true
    · simp [pc, h1]
    · by_cases h2 : small c.toNat = true
      · simp [pc, h1, h2]
      · by_cases h3 : (two c.toNat d.toNat).isEmpty = true
        · simp only [pc, h1, h2, h3, if_true, if_false, Bool.false_eq_true]; rfl
        · simp only [pc, h1, h2, h3, if_true, if_false, Bool.false_eq_true]; rfl

/-- signs with blanks as they come: what is there, whether a blank waits, the rest -/
def put (out : List UInt8) (gap : Bool) (c : UInt8) : List UInt8 := (if gap && !out.isEmpty then out ++ [32] else out) ++ [c]
def sq : List UInt8 → Bool → List UInt8 → List UInt8
  | out, _, [] => out
  | out, gap, c :: t => if c = 32 then sq out true t else sq (put out gap c) false t
def fold (l : List UInt8) : List UInt8 := sq [] false (conv l)

theorem sq_quiet : ∀ (a out r : List UInt8), (∀ x ∈ a, x ≠ 32) → sq out false (a ++ r) = sq (out ++ a) false r
  | [], out, r, _ => by simp
  | c :: a, out, r, h => by
    have hc : c ≠ 32 := h c (by simp)
    have ih := sq_quiet a (put out false c) r (fun x hx => h x (by simp [hx]))
    simp only [List.cons_append, sq, hc, if_false, ih]
    simp [put]
theorem sq_signs (a out r : List UInt8) (gap : Bool) (h0 : a ≠ []) (h : ∀ x ∈ a, x ≠ 32) : sq out gap (a ++ r) = sq ((if gap && !out.isEmpty then out ++ [32] else out) ++ a) false r := by
  cases a with
  | nil => exact absurd rfl h0
  | cons c a =>
    have hc : c ≠ 32 := h c (by simp)
    simp only [List.cons_append, sq, hc, if_false]
    rw [sq_quiet a _ r (fun x hx => h x (by simp [hx]))]
    simp [put]

/-- the words: the one under way, the rest -/
def wds : List UInt8 → List UInt8 → List (List UInt8)
  | cur, [] => if cur.isEmpty then [] else [cur]
  | cur, c :: t => if c = 32 then (if cur.isEmpty then wds [] t else cur :: wds [] t) else wds (cur ++ [c]) t
def words (l : List UInt8) : List (List UInt8) := wds [] l
def joinW : List (List UInt8) → List UInt8
  | [] => []
  | [w] => w
  | w :: v :: ws => w ++ 32 :: joinW (v :: ws)
theorem joinW_cons (w : List UInt8) (ws : List (List UInt8)) (h : ws ≠ []) : joinW (w :: ws) = w ++ 32 :: joinW ws := by
  cases ws with
  | nil => exact absurd rfl h
  | cons v ws => rfl
theorem joinW_snoc : ∀ (ws : List (List UInt8)) (w : List UInt8), joinW (ws ++ [w]) = if ws = [] then w else joinW ws ++ 32 :: w
  | [], w => rfl
  | [v], w => rfl
  | v :: u :: ws, w => by
    have ih := joinW_snoc (u :: ws) w
    rw [if_neg (by simp)] at ih
    rw [if_neg (by simp)]
    show v ++ 32 :: joinW ((u :: ws) ++ [w]) = (v ++ 32 :: joinW (u :: ws)) ++ 32 :: w
    rw [ih]; simp
theorem joinW_isEmpty (ws : List (List UInt8)) (h : ∀ w ∈ ws, w ≠ []) : (joinW ws).isEmpty = ws.isEmpty := by
  match ws with
  | [] => rfl
  | [w] =>
    have := h w (by simp)
    simp [joinW, this]
  | w :: v :: ws => simp [joinW]

theorem sq_words : ∀ (l : List UInt8) (ws : List (List UInt8)) (cur : List UInt8) (gap : Bool), (∀ w ∈ ws, w ≠ []) → (gap = true ∨ ws = [] ∨ cur ≠ []) → (cur ≠ [] → gap = false) →
    sq (joinW (ws ++ (if cur.isEmpty then [] else [cur]))) gap l = joinW (ws ++ wds cur l)
  | [], ws, cur, gap, hw, h1, h2 => by simp [sq, wds]
  | c :: t, ws, cur, gap, hw, h1, h2 => by
    by_cases hc : c = 32
    · subst hc
      simp only [sq, if_true, wds]
      by_cases he : cur = []
      · subst he
        have := sq_words t ws [] true hw (.inl rfl) (fun h => absurd rfl h)
        simpa using this
      · have hi : cur.isEmpty = false := by simpa using he
        have := sq_words t (ws ++ [cur]) [] true (by
          intro w hwm
          rcases List.mem_append.1 hwm with h | h
          · exact hw w h
          · simp at h; subst h; exact he) (.inl rfl) (fun h => absurd rfl h)
        simp only [hi, Bool.false_eq_true, if_false]
        simpa using this
    · simp only [sq, hc, if_false, wds]
      have ih := sq_words t ws (cur ++ [c]) false hw (.inr (.inr (by simp))) (fun _ => rfl)
      rw [← ih]
      congr 1
      have hn : (cur ++ [c]).isEmpty = false := by simp
      simp only [hn, Bool.false_eq_true, if_false]
      by_cases he : cur = []
      · subst he
        simp only [List.isEmpty_nil, if_true, List.append_nil, List.nil_append]
        rw [joinW_snoc]
        have hj := joinW_isEmpty ws hw
        rcases ws with _ | ⟨v, ws⟩
        · simp [put, joinW]
        · have hg : gap = true := by rcases h1 with h | h | h <;> simp_all
          subst hg
          simp only [put, hj]
          simp
      · have hg := h2 he
        subst hg
        have hi : cur.isEmpty = false := by simpa using he
        simp only [hi, Bool.false_eq_true, if_false, put, Bool.false_and]
        rw [joinW_snoc, joinW_snoc]
        by_cases hz : ws = [] <;> simp [hz]
theorem sq_join (l : List UInt8) : sq [] false l = joinW (words l) := sq_words l [] [] false (by simp) (.inr (.inl rfl)) (fun h => absurd rfl h)
theorem fold_join (l : List UInt8) : fold l = joinW (words (conv l)) := sq_join _

/-- a sign of a folded text, or a blank -/
def sb (c : UInt8) : Prop := kept c.toNat = true ∨ c = 32
theorem two_kept (c d : UInt8) : ∀ x ∈ two c.toNat d.toNat, kept x.toNat = true := by
  have H : ∀ x ∈ tab.flatten, kept x.toNat = true := by decide
  intro x hx
  unfold two at hx
  split at hx
  · split at hx
    · refine H x ?_
      rw [List.getD_eq_getElem?_getD] at hx
      cases h : tab[d.toNat - 128]? with
      | none => rw [h] at hx; simp at hx
      | some l =>
        rw [h] at hx
        exact List.mem_flatten.2 ⟨l, List.mem_of_getElem? h, by simpa using hx⟩
    · simp at hx
  · split at hx
    · split at hx
      · simp at hx; rcases hx with rfl | rfl <;> decide
      · split at hx
        · simp at hx; subst hx; decide
        · split at hx
          · simp at hx; subst hx; decide
          · simp at hx
    · simp at hx
theorem small_kept (c : UInt8) (h : small c.toNat = true) : kept (c - 32).toNat = true := by
  simp [small] at h
  have : (c - 32).toNat = c.toNat - 32 := by
    rw [UInt8.toNat_sub_of_le]
    · rfl
    · rw [UInt8.le_iff_toNat_le]; simp; omega
  simp [kept, this]; omega
theorem conv_sb : ∀ (n : Nat) (l : List UInt8), l.length ≤ n → ∀ x ∈ conv l, sb x
  | _, [], _, x, hx => by simp [conv] at hx
  | 0, c :: t, hn, x, hx => by simp at hn
  | n + 1, c :: t, hn, x, hx => by
    have hn' : t.length ≤ n := by simpa using hn
    unfold conv at hx
    split at hx
    · rename_i h1
      rcases List.mem_cons.1 hx with rfl | h
      · exact .inl h1
      · exact conv_sb n t hn' x h
    · split at hx
      · rename_i h1
        rcases List.mem_cons.1 hx with rfl | h
        · exact .inl (small_kept c h1)
        · exact conv_sb n t hn' x h
      · cases t with
        | nil => simp at hx; exact .inr hx
        | cons d t' =>
          simp only at hx
          split at hx
          · rcases List.mem_cons.1 hx with rfl | h
            · exact .inr rfl
            · exact conv_sb n (d :: t') hn' x h
          · rcases List.mem_append.1 hx with h | h
            · exact .inl (two_kept c d x h)
            · exact conv_sb n t' (by simp at hn'; omega) x h

/-- a folded text: signs and inner blanks alone, one between two words -/
def Pl (l : List UInt8) : Prop := ∀ i, i < l.length → kept (l.getD i 0).toNat = true ∨ (l.getD i 0 = 32 ∧ 0 < i ∧ i + 1 < l.length ∧ l.getD (i - 1) 0 ≠ 32)
theorem Pl_nil : Pl [] := fun i h => by simp at h
theorem kept_ne {c : UInt8} (h : kept c.toNat = true) : c ≠ 32 := by
  rintro rfl
  exact absurd h (by decide)
theorem kept_z {c : UInt8} (h : kept c.toNat = true) : c ≠ 195 ∧ c ≠ 197 := by
  constructor <;> (rintro rfl; exact absurd h (by decide))
theorem Pl_last {l : List UInt8} (h : Pl l) (h0 : 0 < l.length) : l.getD (l.length - 1) 0 ≠ 32 := by
  rcases h (l.length - 1) (by omega) with h | ⟨_, _, h, _⟩
  · exact kept_ne h
  · omega
theorem getD_app_l (a b : List UInt8) (i : Nat) (h : i < a.length) : (a ++ b).getD i 0 = a.getD i 0 := by
  simp [List.getD_eq_getElem?_getD, List.getElem?_append_left h]
theorem getD_app_r (a b : List UInt8) (i : Nat) (h : a.length ≤ i) : (a ++ b).getD i 0 = b.getD (i - a.length) 0 := by
  simp [List.getD_eq_getElem?_getD, List.getElem?_append_right h]
theorem Pl_snoc {l : List UInt8} {c : UInt8} (h : Pl l) (hc : kept c.toNat = true) : Pl (l ++ [c]) := by
  intro i hi
  simp at hi
  rcases Nat.lt_or_ge i l.length with hlt | hge
  · rw [getD_app_l _ _ _ hlt]
    rcases h i hlt with h | ⟨a, b, d, e⟩
    · exact .inl h
    · exact .inr ⟨a, b, by simp; omega, by rw [getD_app_l _ _ _ (by omega)]; exact e⟩
  · obtain rfl : i = l.length := by omega
    rw [getD_app_r _ _ _ (Nat.le_refl _)]
    left; simpa using hc
theorem Pl_gap {l : List UInt8} {c : UInt8} (h : Pl l) (h0 : 0 < l.length) (hc : kept c.toNat = true) : Pl (l ++ [32, c]) := by
  intro i hi
  simp at hi
  rcases Nat.lt_or_ge i l.length with hlt | hge
  · rw [getD_app_l _ _ _ hlt]
    rcases h i hlt with h | ⟨a, b, d, e⟩
    · exact .inl h
    · exact .inr ⟨a, b, by simp; omega, by rw [getD_app_l _ _ _ (by omega)]; exact e⟩
  · rw [getD_app_r _ _ _ hge]
    rcases (show i = l.length ∨ i = l.length + 1 by omega) with rfl | rfl
    · right
      refine ⟨by simp, h0, by simp, ?_⟩
      rw [getD_app_l _ _ _ (by omega)]
      exact Pl_last h h0
    · left
      have : l.length + 1 - l.length = 1 := by omega
      rw [this]; simpa using hc
theorem sq_Pl : ∀ (l out : List UInt8) (gap : Bool), Pl out → (∀ x ∈ l, sb x) → Pl (sq out gap l)
  | [], out, gap, h, _ => h
  | c :: t, out, gap, h, hl => by
    unfold sq
    have ht : ∀ x ∈ t, sb x := fun x hx => hl x (by simp [hx])
    split
    · exact sq_Pl t out true h ht
    · rename_i hc
      have hk : kept c.toNat = true := by
        rcases hl c (by simp) with h | h
        · exact h
        · exact absurd h hc
      refine sq_Pl t _ false ?_ ht
      unfold put
      cases gap with
      | false => simpa using Pl_snoc h hk
      | true =>
        cases out with
        | nil => simpa using Pl_snoc h hk
        | cons a out =>
          have := Pl_gap (l := a :: out) h (by simp) hk
          simpa using this
theorem fold_Pl (l : List UInt8) : Pl (fold l) := sq_Pl _ [] false Pl_nil (conv_sb _ l (Nat.le_refl _))

theorem sq_self : ∀ (l out : List UInt8) (gap : Bool), Pl (out ++ (if gap then [32] else []) ++ l) → sq out gap l = out ++ (if gap then [32] else []) ++ l
  | [], out, gap, h => by
    cases gap with
    | false => simp [sq]
    | true =>
      exfalso
      simp at h
      have := Pl_last h (by simp)
      apply this
      simp [List.getD_eq_getElem?_getD]
  | c :: t, out, gap, h => by
    unfold sq
    split
    · rename_i hc
      subst hc
      cases gap with
      | true =>
        exfalso
        have h1 := h (out.length + 1) (by simp)
        rw [getD_app_r _ _ _ (by simp)] at h1
        simp at h1
        exact absurd h1 (by decide)
      | false =>
        have := sq_self t out true (by simpa using h)
        rw [this]; simp
    · rename_i hc
      have ho : gap = true → out ≠ [] := by
        rintro rfl rfl
        have h1 := h 0 (by simp)
        simp at h1
        exact absurd h1 (by decide)
      have e : put out gap c = out ++ (if gap then [32] else []) ++ [c] := by
        cases gap with
        | false => simp [put]
        | true =>
          have := ho rfl
          simp [put, this]
      rw [e, sq_self t _ false (by simpa using h)]
      simp
theorem conv_self : ∀ (l : List UInt8), (∀ x ∈ l, sb x) → conv l = l
  | [], _ => rfl
  | c :: t, h => by
    have ih := conv_self t (fun x hx => h x (by simp [hx]))
    unfold conv
    rcases h c (by simp) with hk | rfl
    · rw [if_pos hk, ih]
    · have e1 : kept (32 : UInt8).toNat = false := by decide
      have e2 : small (32 : UInt8).toNat = false := by decide
      rw [e1, e2]
      simp only [Bool.false_eq_true, if_false]
      cases t with
      | nil => rfl
      | cons d t' =>
        have e3 : two (32 : UInt8).toNat d.toNat = [] := rfl
        simp only [e3, List.isEmpty_nil, if_true, ih]
theorem Pl_sb {l : List UInt8} (h : Pl l) : ∀ x ∈ l, sb x := by
  intro x hx
  obtain ⟨i, hi, rfl⟩ := List.getElem_of_mem hx
  have := h i hi
  rw [List.getD_eq_getElem?_getD, List.getElem?_eq_getElem hi] at this
  rcases this with h | h
  · exact .inl h
  · exact .inr h.1
theorem sq_Pl_self {l : List UInt8} (h : Pl l) : sq [] false l = l := by
  have := sq_self l [] false (by simpa using h)
  simpa using this
theorem fold_self {l : List UInt8} (h : Pl l) : fold l = l := by
  unfold fold
  rw [conv_self l (Pl_sb h), sq_Pl_self h]
theorem fold_fold (l : List UInt8) : fold (fold l) = fold l := fold_self (fold_Pl l)
theorem right_iff (l : List UInt8) : fold l = l ↔ Pl l := ⟨fun h => h ▸ fold_Pl l, fold_self⟩

theorem pc_len : ∀ (l : List UInt8), l ≠ [] → 1 ≤ (pc l).2 ∧ (pc l).2 ≤ l.length ∧ (pc l).2 ≤ 2 ∧ (pc l).1 ≠ [] ∧ ((pc l).1 = [32] ∧ (pc l).2 = 1 ∨ ∀ x ∈ (pc l).1, x ≠ 32) ∧ (pc l).1.length ≤ (pc l).2
  | [], h => absurd rfl h
  | [c], _ => by
    unfold pc
    by_cases h1 : kept c.toNat = true
    · simp [h1, kept_ne h1]
    · by_cases h2 : small c.toNat = true
      · simp [h1, h2, kept_ne (small_kept c h2)]
      · simp [h1, h2]
  | c :: d :: t, _ => by
    unfold pc
    by_cases h1 : kept c.toNat = true
    · simp [h1, kept_ne h1]
    · by_cases h2 : small c.toNat = true
      · simp [h1, h2, kept_ne (small_kept c h2)]
      · by_cases h3 : (two c.toNat d.toNat).isEmpty = true
        · simp [h1, h2, h3]
        · have hk := fun x hx => kept_ne (two_kept c d x hx)
          have hl : (two c.toNat d.toNat).length ≤ 2 := by
            have H : ∀ l ∈ tab, l.length ≤ 2 := by decide
            unfold two
            split
            · split
              · rw [List.getD_eq_getElem?_getD]
                cases h : tab[d.toNat - 128]? with
                | none => simp
                | some l => exact H l (List.mem_of_getElem? h)
              · simp
            · split
              · split
                · simp
                · split
                  · simp
                  · split <;> simp
              · simp
          simp only [h1, h2, h3, Bool.false_eq_true, if_false]
          refine ⟨by omega, by simp, by omega, by simpa using h3, .inr hk, hl⟩
theorem conv_len : ∀ (n : Nat) (l : List UInt8), l.length ≤ n → (conv l).length ≤ l.length
  | _, [], _ => by simp [conv]
  | 0, c :: t, h => by simp at h
  | n + 1, c :: t, h => by
    have hp := pc_len (c :: t) (by simp)
    rw [conv_pc _ (by simp)]
    have ih := conv_len n ((c :: t).drop (pc (c :: t)).2) (by rw [List.length_drop]; omega)
    rw [List.length_append]
    rw [List.length_drop] at ih
    have := hp.2.2.2.2.2
    omega
theorem sq_len : ∀ (l out : List UInt8) (gap : Bool), (sq out gap l).length ≤ out.length + (if gap then 1 else 0) + l.length
  | [], out, gap => by simp [sq]
  | c :: t, out, gap => by
    unfold sq
    split
    · have := sq_len t out true
      simp at this ⊢; omega
    · have := sq_len t (put out gap c) false
      have e : (put out gap c).length ≤ out.length + (if gap then 1 else 0) + 1 := by
        unfold put
        cases gap <;> cases out <;> simp
      simp at this ⊢; omega
theorem fold_len (l : List UInt8) : (fold l).length ≤ l.length := by
  have h1 := sq_len (conv l) [] false
  have h2 := conv_len _ l (Nat.le_refl _)
  unfold fold
  simp at h1; omega
end Fo
