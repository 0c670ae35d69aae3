/-
  Plain mathematics of limbs: values, powers of the base, numbers without zeros at the end; no program in sight.
-/
import GoSem.Core.Value
namespace Go.Proofs.Ytgbifcfdbelfpaa.Na
set_option linter.unusedVariables false

/-- the value of limbs, the lowest one first -/
def V : List Int → Int
  | [] => 0
  | x :: t => x + 4294967296 * V t
/-- powers of the base -/
def Bp : Nat → Int
  | 0 => 1
  | n + 1 => 4294967296 * Bp n
/-- limbs -/
def Dg (l : List Int) : Prop := ∀ x ∈ l, 0 ≤ x ∧ x < 4294967296

theorem Bp_pos (n : Nat) : 0 < Bp n := by
  induction n with
  | zero => decide
  | succ n ih => rw [Bp]; omega
theorem Bp_add (m n : Nat) : Bp (m + n) = Bp m * Bp n := by
  induction m with
  | zero => simp [Bp]
  | succ m ih => rw [Nat.succ_add, Bp, Bp, ih]; grind
theorem Bp_le {m n : Nat} (h : m ≤ n) : Bp m ≤ Bp n := by
  obtain ⟨k, rfl⟩ := Nat.exists_eq_add_of_le h
  induction k with
  | zero => exact Int.le_refl _
  | succ k ih =>
    have h1 := Bp_pos (m + k)
    have h2 := ih (by omega)
    rw [← Nat.add_assoc, Bp]; omega
theorem Bp_lt {m n : Nat} (h : m < n) : Bp m < Bp n := by
  have := Bp_le (show m + 1 ≤ n from h)
  have h1 := Bp_pos m
  rw [Bp] at this; omega
theorem Bp_lt_iff {m n : Nat} : Bp m < Bp n ↔ m < n := by
  constructor
  · intro h
    rcases Nat.lt_or_ge m n with c | c
    · exact c
    · have := Bp_le c; omega
  · exact Bp_lt

theorem Dg.nil : Dg [] := fun x h => by simp at h
theorem Dg.cons {x : Int} {t : List Int} : Dg (x :: t) ↔ (0 ≤ x ∧ x < 4294967296) ∧ Dg t := by simp [Dg]
theorem Dg.append {a b : List Int} : Dg (a ++ b) ↔ Dg a ∧ Dg b := by
  unfold Dg
  constructor
  · exact fun h => ⟨fun x hx => h x (List.mem_append_left _ hx), fun x hx => h x (List.mem_append_right _ hx)⟩
  · rintro ⟨h1, h2⟩ x hx
    rcases List.mem_append.1 hx with hx | hx
    · exact h1 x hx
    · exact h2 x hx
theorem Dg.take {l : List Int} (h : Dg l) (k : Nat) : Dg (l.take k) := fun x hx => h x (List.mem_of_mem_take hx)
theorem Dg.drop {l : List Int} (h : Dg l) (k : Nat) : Dg (l.drop k) := fun x hx => h x (List.mem_of_mem_drop hx)
theorem Dg.snoc {d : List Int} {v : Int} (h : Dg d) (h0 : 0 ≤ v) (h1 : v < 4294967296) : Dg (d ++ [v]) := Dg.append.2 ⟨h, Dg.cons.2 ⟨⟨h0, h1⟩, Dg.nil⟩⟩
theorem Dg.rep (n : Nat) : Dg (List.replicate n 0) := by
  intro x hx
  have := (List.mem_replicate.1 hx).2
  omega
theorem Dg.at {l : List Int} (h : Dg l) (k : Nat) : 0 ≤ l.getD k 0 ∧ l.getD k 0 < 4294967296 := by
  rw [List.getD_eq_getElem?_getD]
  cases e : l[k]? with
  | none => exact ⟨by simp, by simp⟩
  | some x => exact h x (List.mem_of_getElem? e)

theorem V_append (a b : List Int) : V (a ++ b) = V a + Bp a.length * V b := by
  induction a with
  | nil => simp [V, Bp]
  | cons x t ih => simp only [List.cons_append, V, List.length_cons, Bp, ih]; grind
theorem V_snoc (d : List Int) (x : Int) : V (d ++ [x]) = V d + Bp d.length * x := by rw [V_append]; simp [V]
theorem V_rep (n : Nat) : V (List.replicate n 0) = 0 := by
  induction n with
  | zero => rfl
  | succ n ih => rw [List.replicate_succ, V, ih]; rfl
theorem V_nonneg {l : List Int} (h : Dg l) : 0 ≤ V l := by
  induction l with
  | nil => simp [V]
  | cons x t ih =>
    rw [Dg.cons] at h
    have := ih h.2
    rw [V]; omega
theorem V_lt {l : List Int} (h : Dg l) : V l < Bp l.length := by
  induction l with
  | nil => simp [V, Bp]
  | cons x t ih =>
    rw [Dg.cons] at h
    have := ih h.2
    rw [V, List.length_cons, Bp]; omega
theorem take_snoc (zs : List Int) (k : Nat) (h : k < zs.length) : zs.take (k + 1) = zs.take k ++ [zs.getD k 0] := by
  rw [List.take_succ_eq_append_getElem h, List.getD_eq_getElem?_getD, List.getElem?_eq_getElem h]; rfl
theorem drop_at (zs : List Int) (k : Nat) (h : k < zs.length) : zs.drop k = zs.getD k 0 :: zs.drop (k + 1) := by
  rw [List.drop_eq_getElem_cons h, List.getD_eq_getElem?_getD, List.getElem?_eq_getElem h]; rfl
theorem V_take (l : List Int) (k : Nat) : V (l.take (k + 1)) = V (l.take k) + Bp k * l.getD k 0 := by
  rcases Nat.lt_or_ge k l.length with h | h
  · rw [take_snoc l k h, V_snoc, List.length_take]
    rw [show min k l.length = k by omega]
  · rw [List.take_of_length_le (by omega), List.take_of_length_le h, List.getD_eq_getElem?_getD, List.getElem?_eq_none h]
    simp
theorem V_split (l : List Int) (k : Nat) (h : k ≤ l.length) : V l = V (l.take k) + Bp k * V (l.drop k) := by
  have := V_append (l.take k) (l.drop k)
  rw [List.take_append_drop, List.length_take, show min k l.length = k by omega] at this
  exact this
theorem V_drop (l : List Int) (k : Nat) (h : k < l.length) : V (l.drop k) = l.getD k 0 + 4294967296 * V (l.drop (k + 1)) := by
  rw [drop_at l k h, V]

/-! ### without zeros at the end -/
def trm : List Int → List Int
  | [] => []
  | x :: t => match trm t with
    | [] => if x = 0 then [] else [x]
    | y :: r => x :: y :: r
theorem trm_nil : trm [] = [] := rfl
theorem V_trm (l : List Int) : V (trm l) = V l := by
  induction l with
  | nil => rfl
  | cons x t ih =>
    rw [trm]
    cases e : trm t with
    | nil =>
      rw [e] at ih
      by_cases h : x = 0
      · subst h; simp only [if_true, V] at ih ⊢; omega
      · simp only [if_neg h, V] at ih ⊢; omega
    | cons y r => rw [e] at ih; simp only [V] at ih ⊢; omega
theorem trm_len (l : List Int) : (trm l).length ≤ l.length := by
  induction l with
  | nil => simp [trm]
  | cons x t ih =>
    rw [trm]
    cases e : trm t with
    | nil => by_cases h : x = 0 <;> simp [h]
    | cons y r => rw [e] at ih; simp at ih ⊢; omega
theorem trm_take (l : List Int) : trm l = l.take (trm l).length := by
  induction l with
  | nil => rfl
  | cons x t ih =>
    rw [trm]
    cases e : trm t with
    | nil => by_cases h : x = 0 <;> simp [h]
    | cons y r =>
      rw [e] at ih
      simp only [List.length_cons] at ih ⊢
      rw [List.take_succ_cons, ← ih]
theorem Dg.trm {l : List Int} (h : Dg l) : Dg (trm l) := by rw [trm_take]; exact h.take _
theorem trm_trm (l : List Int) : trm (trm l) = trm l := by
  induction l with
  | nil => rfl
  | cons x t ih =>
    rw [trm]
    cases e : trm t with
    | nil => by_cases h : x = 0 <;> simp [h, trm]
    | cons y r => rw [e] at ih; simp only; rw [trm, ih]
theorem trm_zero (l : List Int) : trm (l ++ [0]) = trm l := by
  induction l with
  | nil => rfl
  | cons x t ih => rw [List.cons_append, trm, trm, ih]
theorem trm_last (l : List Int) (x : Int) (h : x ≠ 0) : trm (l ++ [x]) = l ++ [x] := by
  induction l with
  | nil => simp [trm, h]
  | cons y t ih =>
    rw [List.cons_append, trm, ih]
    cases e : t ++ [x] with
    | nil => simp at e
    | cons z r => rfl
/-- limbs of a number: no zero at the end -/
structure Can (l : List Int) : Prop where
  dg : Dg l
  fix : trm l = l
theorem Can.mk' {l : List Int} (h : Dg l) : Can (trm l) := ⟨h.trm, trm_trm l⟩
theorem Can.nil : Can [] := ⟨Dg.nil, rfl⟩
theorem Can.tail {x : Int} {t : List Int} (h : Can (x :: t)) : Can t := by
  refine ⟨(Dg.cons.1 h.dg).2, ?_⟩
  have := h.fix
  rw [trm] at this
  cases e : trm t with
  | nil =>
    rw [e] at this
    by_cases hx : x = 0
    · simp [hx] at this
    · simp [hx] at this; exact this.symm ▸ rfl
  | cons y r => rw [e] at this; simpa using this
theorem Can.pos {l : List Int} (h : Can l) (hl : l ≠ []) : 0 < V l := by
  induction l with
  | nil => exact absurd rfl hl
  | cons x t ih =>
    have h0 := (Dg.cons.1 h.dg).1
    rw [V]
    by_cases e : t = []
    · subst e
      have := h.fix
      by_cases hx : x = 0
      · subst hx; simp [trm] at this
      · simp only [V]; omega
    · have := ih h.tail e
      omega
theorem Can.inj {a b : List Int} (ha : Can a) (hb : Can b) (h : V a = V b) : a = b := by
  induction a generalizing b with
  | nil =>
    cases b with
    | nil => rfl
    | cons y s => have := hb.pos (by simp); rw [← h] at this; simp [V] at this
  | cons x t ih =>
    cases b with
    | nil => have := ha.pos (by simp); rw [h] at this; simp [V] at this
    | cons y s =>
      have h0 := (Dg.cons.1 ha.dg).1
      have h1 := (Dg.cons.1 hb.dg).1
      rw [V, V] at h
      have e : x = y := by omega
      have e2 : V t = V s := by omega
      rw [e, ih ha.tail hb.tail e2]
theorem Can.len {l : List Int} (h : Can l) (hl : l ≠ []) : Bp (l.length - 1) ≤ V l := by
  induction l with
  | nil => exact absurd rfl hl
  | cons x t ih =>
    have h0 := (Dg.cons.1 h.dg).1
    by_cases e : t = []
    · subst e
      have := h.pos hl
      simp only [List.length_cons, List.length_nil, Nat.zero_add, Nat.sub_self, Bp]; omega
    · have := ih h.tail e
      obtain ⟨k, hk⟩ : ∃ k, t.length = k + 1 := ⟨t.length - 1, by have := List.length_pos_iff.2 e; omega⟩
      rw [hk] at this
      rw [V, List.length_cons, hk]
      simp only [Nat.add_sub_cancel] at this ⊢
      rw [Bp]; omega
theorem Can.len_iff {l : List Int} (h : Can l) (n : Nat) : l.length ≤ n ↔ V l < Bp n := by
  constructor
  · intro hn
    have := V_lt h.dg
    have := Bp_le hn
    omega
  · intro hv
    by_cases e : l = []
    · subst e; simp
    · have := h.len e
      have : l.length - 1 < n := Bp_lt_iff.1 (by omega)
      omega
theorem Can.nil_iff {l : List Int} (h : Can l) : l = [] ↔ V l = 0 := by
  constructor
  · rintro rfl; rfl
  · intro h0
    by_cases e : l = []
    · exact e
    · have := h.pos e; omega
theorem Can.last {l : List Int} (h : Can l) (hl : 0 < l.length) : l.getD (l.length - 1) 0 ≠ 0 := by
  intro h0
  have e := take_snoc l (l.length - 1) (by omega)
  rw [h0, show l.length - 1 + 1 = l.length by omega, List.take_length] at e
  have h1 := h.fix
  rw [e, trm_zero] at h1
  have h2 := trm_len (l.take (l.length - 1))
  rw [h1, List.length_append, List.length_take, List.length_singleton] at h2
  omega
theorem Can.of_last {l : List Int} (h : Dg l) (hl : l ≠ [] → l.getD (l.length - 1) 0 ≠ 0) : Can l := by
  refine ⟨h, ?_⟩
  by_cases e : l = []
  · subst e; rfl
  · have hp := List.length_pos_iff.2 e
    have e2 := take_snoc l (l.length - 1) (by omega)
    rw [show l.length - 1 + 1 = l.length by omega, List.take_length] at e2
    rw [e2]
    exact trm_last _ _ (hl e)

/-- is it a right number? -/
def rgt (l : List Int) : Bool := decide (l.length = 0 ∨ (l.length ≤ 1024 ∧ l.getD (l.length - 1) 0 ≠ 0))
theorem rgt_iff {l : List Int} (h : Dg l) : rgt l = true ↔ Can l ∧ l.length ≤ 1024 := by
  rw [rgt, decide_eq_true_eq]
  constructor
  · rintro (h0 | ⟨h1, h2⟩)
    · have : l = [] := List.eq_nil_of_length_eq_zero h0
      subst this
      exact ⟨Can.nil, by simp⟩
    · exact ⟨Can.of_last h fun _ => h2, h1⟩
  · rintro ⟨h1, h2⟩
    by_cases e : l.length = 0
    · exact .inl e
    · exact .inr ⟨h2, h1.last (by omega)⟩
theorem Can.rgt {l : List Int} (h : Can l) (hl : l.length ≤ 1024) : rgt l = true := (rgt_iff h.dg).2 ⟨h, hl⟩

end Go.Proofs.Ytgbifcfdbelfpaa.Na
