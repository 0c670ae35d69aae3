/-
  Plain mathematics of decimal texts: what digits are worth, and that the numeral has no zero ahead; no program in sight.
-/
import Derived.Lib.ItoaNum
import Derived.Lib.TrimByte
import Derived.Lib.UnsafeStr
import GoSem.Core.Value
namespace Go.Proofs.YtgcfmkelanhdhaaDoor.Na
set_option linter.unusedVariables false

/-- what a digit is worth, and what digits are -/
def d1 (c : UInt8) : Nat := c.toNat - 48
def dn : List UInt8 → Nat
  | [] => 0
  | c :: t => d1 c * 10 ^ t.length + dn t
def DgT (l : List UInt8) : Prop := ∀ c ∈ l, 48 ≤ c.toNat ∧ c.toNat ≤ 57
theorem DgT.nil : DgT [] := fun c h => by simp at h
theorem DgT.cons {c : UInt8} {t : List UInt8} : DgT (c :: t) ↔ (48 ≤ c.toNat ∧ c.toNat ≤ 57) ∧ DgT t := by simp [DgT]
theorem DgT.append {a b : List UInt8} : DgT (a ++ b) ↔ DgT a ∧ DgT b := by
  unfold DgT
  constructor
  · exact fun h => ⟨fun x hx => h x (List.mem_append_left _ hx), fun x hx => h x (List.mem_append_right _ hx)⟩
  · rintro ⟨h1, h2⟩ x hx
    rcases List.mem_append.1 hx with hx | hx
    · exact h1 x hx
    · exact h2 x hx
theorem DgT.take {l : List UInt8} (h : DgT l) (k : Nat) : DgT (l.take k) := fun x hx => h x (List.mem_of_mem_take hx)
theorem DgT.drop {l : List UInt8} (h : DgT l) (k : Nat) : DgT (l.drop k) := fun x hx => h x (List.mem_of_mem_drop hx)
theorem dn_append (a b : List UInt8) : dn (a ++ b) = dn a * 10 ^ b.length + dn b := by
  induction a with
  | nil => simp [dn]
  | cons c t ih =>
    simp only [List.cons_append, dn, ih, List.length_append, Nat.pow_add]; grind
theorem dn_snoc (a : List UInt8) (c : UInt8) : dn (a ++ [c]) = 10 * dn a + d1 c := by rw [dn_append]; simp [dn]; omega
theorem dn_lt {l : List UInt8} (h : DgT l) : dn l < 10 ^ l.length := by
  induction l with
  | nil => simp [dn]
  | cons c t ih =>
    rw [DgT.cons] at h
    have := ih h.2
    have h1 : d1 c + 1 ≤ 10 := by unfold d1; omega
    have h2 : (d1 c + 1) * 10 ^ t.length ≤ 10 * 10 ^ t.length := Nat.mul_le_mul_right _ h1
    rw [dn, List.length_cons, Nat.pow_succ]
    rw [Nat.add_mul] at h2; omega
def dig (n : Nat) : UInt8 := UInt8.ofNat (48 + n)
theorem dig_nat {n : Nat} (h : n < 10) : (dig n).toNat = 48 + n := by unfold dig; rw [UInt8.toNat_ofNat']; omega
theorem dig_d1 {n : Nat} (h : n < 10) : d1 (dig n) = n := by unfold d1; rw [dig_nat h]; omega
theorem dig_DgT {n : Nat} (h : n < 10) : DgT [dig n] := by rw [DgT.cons, dig_nat h]; exact ⟨by omega, DgT.nil⟩
theorem dig_of {c : UInt8} (h : 48 ≤ c.toNat ∧ c.toNat ≤ 57) : dig (d1 c) = c := by
  apply UInt8.toNat_inj.1
  rw [dig_nat (by unfold d1; omega)]; unfold d1; omega

theorem dec_small {n : Nat} (h : n < 10) : Lib.decDigits n = [dig n] := Lib.decDigits_one h
theorem dec_big {n : Nat} (h : 10 ≤ n) : Lib.decDigits n = Lib.decDigits (n / 10) ++ [dig (n % 10)] := by rw [Lib.decDigits, dif_neg (by omega)]; rfl
theorem dec_DgT (n : Nat) : DgT (Lib.decDigits n) := by
  induction n using Nat.strongRecOn with
  | _ n ih =>
    by_cases h : n < 10
    · rw [dec_small h]; exact dig_DgT h
    · rw [dec_big (by omega), DgT.append]; exact ⟨ih _ (by omega), dig_DgT (by omega)⟩
theorem dec_dn (n : Nat) : dn (Lib.decDigits n) = n := by
  induction n using Nat.strongRecOn with
  | _ n ih =>
    by_cases h : n < 10
    · rw [dec_small h]; simp [dn, dig_d1 h]
    · rw [dec_big (by omega), dn_snoc, ih _ (by omega), dig_d1 (by omega)]; omega
theorem dec_ne (n : Nat) : Lib.decDigits n ≠ [] := by
  by_cases h : n < 10
  · rw [dec_small h]; simp
  · rw [dec_big (by omega)]; simp
theorem dec_head {n : Nat} (h : 0 < n) : (Lib.decDigits n).head? ≠ some 48 := by
  induction n using Nat.strongRecOn with
  | _ n ih =>
    by_cases h1 : n < 10
    · rw [dec_small h1]
      intro e
      have e2 : dig n = 48 := by simpa using e
      have := dig_nat h1
      rw [e2] at this
      have h3 : (48 : UInt8).toNat = 48 := rfl
      omega
    · rw [dec_big (by omega)]
      have h2 := ih (n / 10) (by omega) (by omega)
      have h3 := dec_ne (n / 10)
      cases e : Lib.decDigits (n / 10) with
      | nil => exact absurd e h3
      | cons x t => rw [e] at h2; simpa using h2
/-- digits without their zeros ahead are the numeral of what they are worth -/
theorem trim_dec {l : List UInt8} (h : DgT l) : (dn l = 0 → l.dropWhile (· == 48) = []) ∧ (0 < dn l → l.dropWhile (· == 48) = Lib.decDigits (dn l)) := by
  generalize hn : l.length = n
  induction n generalizing l with
  | zero =>
    have : l = [] := List.eq_nil_of_length_eq_zero hn
    subst this
    exact ⟨fun _ => rfl, fun h => by simp [dn] at h⟩
  | succ n ih =>
    have hne : l ≠ [] := by intro e; subst e; simp at hn
    obtain ⟨a, c, rfl⟩ : ∃ a c, l = a ++ [c] := ⟨l.dropLast, l.getLast hne, (List.dropLast_concat_getLast hne).symm⟩
    rw [DgT.append, DgT.cons] at h
    have hc := dig_of h.2.1
    have hd : d1 c < 10 := by unfold d1; omega
    obtain ⟨i1, i2⟩ := ih h.1 (by simpa using hn)
    rw [dn_snoc]
    have hap : ∀ (a : List UInt8), a.dropWhile (· == 48) = [] → (a ++ [c]).dropWhile (· == 48) = [c].dropWhile (· == 48) := by
      intro a ha
      induction a with
      | nil => rfl
      | cons x t ih =>
        rw [List.dropWhile_cons] at ha
        by_cases hx : (x == 48) = true
        · rw [if_pos hx] at ha
          rw [List.cons_append, List.dropWhile_cons, if_pos hx]; exact ih ha
        · rw [if_neg hx] at ha; cases ha
    have hap2 : ∀ (a : List UInt8), a.dropWhile (· == 48) ≠ [] → (a ++ [c]).dropWhile (· == 48) = a.dropWhile (· == 48) ++ [c] := by
      intro a ha
      induction a with
      | nil => exact absurd rfl ha
      | cons x t ih =>
        rw [List.dropWhile_cons] at ha
        rw [List.cons_append, List.dropWhile_cons, List.dropWhile_cons]
        by_cases hx : (x == 48) = true
        · rw [if_pos hx] at ha
          rw [if_pos hx, if_pos hx]; exact ih ha
        · rw [if_neg hx, if_neg hx]; rfl
    by_cases h0 : dn a = 0
    · have e := i1 h0
      rw [hap a e, h0]
      constructor
      · intro hz
        have : c = 48 := by rw [← hc, show d1 c = 0 by omega]; rfl
        subst this; rfl
      · intro hz
        have hb : (c == 48) = false := by
          rw [beq_eq_false_iff_ne]
          rintro rfl
          have : d1 48 = 0 := rfl
          omega
        rw [List.dropWhile_cons, if_neg (by simp [hb]), show 10 * 0 + d1 c = d1 c by omega, dec_small hd, hc]
    · have e := i2 (by omega)
      refine ⟨fun hz => by omega, fun _ => ?_⟩
      rw [hap2 a (by rw [e]; exact dec_ne _), e, dec_big (n := 10 * dn a + d1 c) (by omega), show (10 * dn a + d1 c) / 10 = dn a by omega, show (10 * dn a + d1 c) % 10 = d1 c by omega, hc]

/-! ### is it a text of a number? -/
def isD (c : UInt8) : Bool := decide (48 ≤ c.toNat ∧ c.toNat ≤ 57)
def isT (l : List UInt8) : Bool := l.all isD && (l == [48] || (l != [] && l.head? != some 48))
theorem isT_iff (l : List UInt8) : isT l = true ↔ DgT l ∧ (l = [48] ∨ l ≠ [] ∧ l.head? ≠ some 48) := by
  simp only [isT, Bool.and_eq_true, Bool.or_eq_true, List.all_eq_true, beq_iff_eq, bne_iff_ne, isD, decide_eq_true_eq, DgT]
theorem isT_dec (n : Nat) : isT (Lib.decDigits n) = true := by
  rw [isT_iff]
  refine ⟨dec_DgT n, ?_⟩
  by_cases h : n = 0
  · subst h; exact .inl (dec_small (by omega))
  · exact .inr ⟨dec_ne n, dec_head (by omega)⟩
/-- a text is the numeral of what it is worth -/
theorem isT_is {l : List UInt8} (h : isT l = true) : l = Lib.decDigits (dn l) := by
  obtain ⟨h1, h2⟩ := (isT_iff l).1 h
  rcases h2 with rfl | ⟨h2, h3⟩
  · exact (dec_small (n := 0) (by omega)).symm
  · have e : l.dropWhile (· == 48) = l := by
      cases l with
      | nil => rfl
      | cons c t =>
        have : (c == 48) = false := by rw [beq_eq_false_iff_ne]; rintro rfl; exact h3 rfl
        rw [List.dropWhile_cons, if_neg (by simp [this])]
    obtain ⟨i1, i2⟩ := trim_dec h1
    rw [e] at i1 i2
    rcases Nat.eq_zero_or_pos (dn l) with c | c
    · exact absurd (i1 c) h2
    · exact i2 c

/-! ### the order of texts -/
theorem dec_len_le {m n : Nat} (h : m ≤ n) : (Lib.decDigits m).length ≤ (Lib.decDigits n).length := by
  induction n using Nat.strongRecOn generalizing m with
  | _ n ih =>
    by_cases h1 : n < 10
    · rw [dec_small h1, dec_small (by omega)]; simp
    · rw [dec_big (n := n) (by omega)]
      by_cases h2 : m < 10
      · rw [dec_small h2]; simp
      · rw [dec_big (n := m) (by omega)]
        have := ih (n / 10) (by omega) (show m / 10 ≤ n / 10 by omega)
        simpa using this
theorem dec_len_lt {m n : Nat} (h : (Lib.decDigits m).length < (Lib.decDigits n).length) : m < n := by
  rcases Nat.lt_or_ge m n with c | c
  · exact c
  · have := dec_len_le c; omega
theorem dec_len_pow {n k : Nat} (h : n < 10 ^ k) (hk : 0 < k) : (Lib.decDigits n).length ≤ k := by
  induction k generalizing n with
  | zero => omega
  | succ k ih =>
    by_cases h1 : n < 10
    · rw [dec_small h1]; simp
    · rw [dec_big (by omega), List.length_append, List.length_singleton]
      rcases Nat.eq_zero_or_pos k with rfl | hk
      · simp at h; omega
      · have := ih (n := n / 10) (by rw [Nat.pow_succ] at h; omega) hk
        omega
theorem dn_cons_lt {c e : UInt8} {s t : List UInt8} (hs : DgT (c :: s)) (ht : DgT (e :: t)) (h : s.length = t.length) (hlt : c.toNat < e.toNat) : dn (c :: s) < dn (e :: t) := by
  rw [DgT.cons] at hs ht
  have h1 := dn_lt hs.2
  have h2 : (d1 c + 1) * 10 ^ s.length ≤ d1 e * 10 ^ s.length := Nat.mul_le_mul_right _ (by unfold d1; omega)
  rw [dn, dn, ← h]
  rw [Nat.add_mul] at h2; omega
theorem less_dn {l m : List UInt8} (hl : DgT l) (hm : DgT m) (h : l.length = m.length) : Op.bytesLess l m = decide (dn l < dn m) := by
  induction l generalizing m with
  | nil =>
    have : m = [] := List.eq_nil_of_length_eq_zero h.symm
    subst this; simp [Op.bytesLess]
  | cons c s ih =>
    cases m with
    | nil => simp at h
    | cons e t =>
      have h' : s.length = t.length := by simpa using h
      have i := ih (DgT.cons.1 hl).2 (DgT.cons.1 hm).2 h'
      rw [Op.bytesLess, i]
      rcases Nat.lt_trichotomy c.toNat e.toNat with k | k | k
      · have := dn_cons_lt hl hm h' k
        rw [decide_eq_true (show c < e from k), decide_eq_true this]; rfl
      · have : c = e := UInt8.toNat_inj.1 k
        subst this
        have e1 : (c == c) = true := by simp
        have e2 : decide (c < c) = false := decide_eq_false (UInt8.lt_irrefl c)
        rw [e1, e2, dn, dn, h']
        simp
      · have := dn_cons_lt hm hl h'.symm k
        have e1 : (c == e) = false := by rw [beq_eq_false_iff_ne]; rintro rfl; omega
        have e2 : decide (c < e) = false := decide_eq_false (fun x => by have : c.toNat < e.toNat := x; omega)
        rw [e1, e2, decide_eq_false (show ¬ dn (c :: s) < dn (e :: t) by omega)]; rfl
theorem dec_inj {m n : Nat} (h : Lib.decDigits m = Lib.decDigits n) : m = n := by rw [← dec_dn m, h, dec_dn]
theorem dec_ten {n : Nat} (h : 0 < n) : Lib.decDigits (10 * n) = Lib.decDigits n ++ [48] := by
  rw [dec_big (by omega), show 10 * n / 10 = n by omega, show 10 * n % 10 = 0 by omega]; rfl

end Go.Proofs.YtgcfmkelanhdhaaDoor.Na
