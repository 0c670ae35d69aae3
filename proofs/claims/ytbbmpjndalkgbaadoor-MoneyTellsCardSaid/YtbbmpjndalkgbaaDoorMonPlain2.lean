/-
  Plain mathematics of the texts of amounts: no program in sight.
-/
import Derived.Test.YtbbmpjndalkgbaaDoorMonPlain
import Derived.Lib.AtoiAll
import Derived.Lib.ItoaMem
namespace Go.Proofs.YtbbmpjndalkgbaaDoor.Mo
open Go.Lib
set_option linter.unusedVariables false

/-- the digit of a number's last place -/
def dgt (n : Nat) : UInt8 := UInt8.ofNat (48 + n % 10)
theorem dgt_nat (n : Nat) : (dgt n).toNat = 48 + n % 10 := by unfold dgt; rw [UInt8.toNat_ofNat']; omega
/-- the text of an amount -/
def body (n : Nat) : List UInt8 := decDigits (n / 100) ++ 46 :: [dgt (n / 10), dgt n]
def tx (a : Int) : List UInt8 := if a < 0 then 45 :: body a.natAbs else body a.natAbs
def txE (a : Int) : Int := if rt a = true then 0 else 2
def txV (a : Int) : List UInt8 := if rt a = true then tx a else []
/-- without the first point -/
def rm1 : List UInt8 → List UInt8
  | [] => []
  | c :: t => if c = 46 then t else c :: rm1 t

theorem dec_dig (n : Nat) : ∀ c ∈ decDigits n, 48 ≤ c.toNat ∧ c.toNat ≤ 57 := by
  induction n using Nat.strongRecOn with
  | _ n ih =>
    intro c hc
    rw [decDigits] at hc
    split at hc
    · rename_i h
      have hc := List.mem_singleton.1 hc; subst hc
      rw [UInt8.toNat_ofNat']; omega
    · rename_i h
      rcases List.mem_append.1 hc with hc | hc
      · exact ih (n / 10) (by omega) c hc
      · have hc := List.mem_singleton.1 hc; subst hc
        rw [UInt8.toNat_ofNat']; omega
theorem dec_ne (n : Nat) : ∃ c t, decDigits n = c :: t := by
  cases h : decDigits n with
  | nil => have := decDigits_length n; have := nDigits_pos n; rw [h] at *; simp at *; omega
  | cons c t => exact ⟨c, t, rfl⟩
theorem rm1_no (l t : List UInt8) (h : ∀ c ∈ l, c ≠ 46) : rm1 (l ++ 46 :: t) = l ++ t := by
  induction l with
  | nil => simp [rm1]
  | cons a l ih =>
    simp only [List.cons_append, rm1]
    rw [if_neg (h a (by simp)), ih (fun c hc => h c (by simp [hc]))]
theorem parse_snoc (l : List UInt8) (c : UInt8) (acc u : Nat) (h : parseUint10 acc l = .ok u) (hc : 48 ≤ c.toNat ∧ c.toNat ≤ 57) (hu : u < 100000000000000000) :
    parseUint10 acc (l ++ [c]) = .ok (u * 10 + (c.toNat - 48)) := by
  induction l generalizing acc with
  | nil =>
    simp only [parseUint10] at h
    injection h with h
    subst h
    simp only [List.nil_append, parseUint10]
    rw [if_pos hc, if_neg (by omega), if_neg (by omega)]
  | cons a t ih =>
    simp only [parseUint10, List.cons_append] at h ⊢
    split at h
    · rename_i h1
      rw [if_pos h1]
      split at h
      · cases h
      · rename_i h2
        rw [if_neg h2]
        split at h
        · cases h
        · rename_i h3
          rw [if_neg h3]
          exact ih _ h
    · cases h
theorem parse_dec (n : Nat) (h : n < 100000000000000000) : parseUint10 0 (decDigits n) = .ok n := by
  induction n using Nat.strongRecOn with
  | _ n ih =>
    rw [decDigits]
    split
    · rename_i h1
      simp only [parseUint10]
      have e : (UInt8.ofNat (48 + n)).toNat = 48 + n := by rw [UInt8.toNat_ofNat']; omega
      rw [e, if_pos (by omega), if_neg (by omega), if_neg (by omega)]
      congr 1; omega
    · rename_i h1
      have e : (UInt8.ofNat (48 + n % 10)).toNat = 48 + n % 10 := by rw [UInt8.toNat_ofNat']; omega
      have := parse_snoc (decDigits (n / 10)) (UInt8.ofNat (48 + n % 10)) 0 (n / 10) (ih (n / 10) (by omega) (by omega)) (by omega) (by omega)
      rw [this, e]; congr 1; omega
theorem parse_body (n : Nat) (h : n < 100000000000000000) : parseUint10 0 (decDigits (n / 100) ++ [dgt (n / 10), dgt n]) = .ok n := by
  have h1 := parse_snoc (decDigits (n / 100)) (dgt (n / 10)) 0 _ (parse_dec (n / 100) (by omega)) (by rw [dgt_nat]; omega) (by omega)
  have h2 := parse_snoc _ (dgt n) 0 _ h1 (by rw [dgt_nat]; omega) (by rw [dgt_nat]; omega)
  rw [List.append_assoc] at h2
  rw [show [dgt (n / 10), dgt n] = [dgt (n / 10)] ++ [dgt n] from rfl, h2, dgt_nat, dgt_nat]
  congr 1; omega
theorem rm1_body (n : Nat) : rm1 (body n) = decDigits (n / 100) ++ [dgt (n / 10), dgt n] :=
  rm1_no _ _ fun c hc e => by have := dec_dig _ c hc; subst e; revert this; decide
/-- the number of a text is found -/
theorem atoi_tx (a : Int) (h : rt a = true) : atoiAll (rm1 (tx a)) = .ok a := by
  have h := (rt_iff a).1 h
  have hp := parse_body a.natAbs (by omega)
  obtain ⟨c, t, hd⟩ := dec_ne (a.natAbs / 100)
  have hc := dec_dig (a.natAbs / 100) c (by rw [hd]; simp)
  rw [tx]
  split
  · rename_i hn
    rw [rm1, if_neg (by decide), rm1_body]
    simp only [atoiAll]
    rw [if_pos (.inr (by decide))]
    unfold parseMag
    rw [if_neg (by rw [hd]; simp), hp]
    simp only
    rw [if_neg (fun x => x.1 (by decide)), if_neg (fun x => absurd x.2 (by omega)), if_pos (by decide)]
    congr 1; omega
  · rename_i hn
    rw [rm1_body]
    have e : decDigits (a.natAbs / 100) ++ [dgt (a.natAbs / 10), dgt a.natAbs] = c :: (t ++ [dgt (a.natAbs / 10), dgt a.natAbs]) := by rw [hd]; rfl
    rw [e] at hp ⊢
    simp only [atoiAll]
    rw [if_neg (by omega)]
    unfold parseMag
    rw [if_neg (by simp), hp]
    simp only
    rw [if_neg (fun x => absurd x.2 (by omega)), if_neg (fun x => absurd x.1 (by omega)), if_neg (by omega)]
    congr 1; omega
theorem tx_inj {a b : Int} (ha : rt a = true) (hb : rt b = true) (h : tx a = tx b) : a = b := by
  have h1 := atoi_tx a ha
  rw [h, atoi_tx b hb] at h1
  injection h1 with h1; exact h1.symm

/-- what a text is read as -/
def RdIs (l : List UInt8) (v e : Int) : Prop := (e = 0 ∧ rt v = true ∧ tx v = l) ∨ (e = 20 ∧ v = 0 ∧ ∀ a, rt a = true → tx a ≠ l)
theorem rdIs_one {l : List UInt8} {v e v' e' : Int} (h : RdIs l v e) (h' : RdIs l v' e') : v = v' ∧ e = e' := by
  rcases h with ⟨rfl, h1, h2⟩ | ⟨rfl, rfl, h1⟩ <;> rcases h' with ⟨rfl, g1, g2⟩ | ⟨rfl, rfl, g1⟩
  · exact ⟨tx_inj h1 g1 (h2.trans g2.symm), rfl⟩
  · exact absurd h2 (g1 v h1)
  · exact absurd g2 (h1 v' g1)
  · exact ⟨rfl, rfl⟩
/-- the program's way: a number that is found, whose text is the text -/
theorem rdIs_of_atoi (l : List UInt8) (v : Int) (h : atoiAll (rm1 l) = .ok v) : (rt v = true ∧ tx v = l → RdIs l v 0) ∧ (¬ (rt v = true ∧ tx v = l) → RdIs l 0 20) := by
  refine ⟨fun x => .inl ⟨rfl, x.1, x.2⟩, fun x => .inr ⟨rfl, rfl, fun a ha e => ?_⟩⟩
  have := atoi_tx a ha
  rw [e, h] at this
  injection this with this
  subst this
  exact x ⟨ha, e⟩
theorem rdIs_of_bad (l : List UInt8) (h : ∀ v, atoiAll (rm1 l) ≠ .ok v) : RdIs l 0 20 :=
  .inr ⟨rfl, rfl, fun a ha e => h a (by rw [← e]; exact atoi_tx a ha)⟩

/-! ### the reference's way -/
def dv (n : Int) : List UInt8 → Int
  | [] => n
  | c :: t => if 48 ≤ c.toNat ∧ c.toNat ≤ 57 then dv (10 * n + ((c.toNat : Int) - 48)) t else dv n t
theorem dv_append (l t : List UInt8) (n : Int) : dv n (l ++ t) = dv (dv n l) t := by
  induction l generalizing n with
  | nil => rfl
  | cons c l ih => simp only [List.cons_append, dv]; split <;> exact ih _
def mn (l : List UInt8) : Bool := l.any fun c => c == 45
theorem dv_dec (n : Nat) : dv 0 (decDigits n) = n := by
  induction n using Nat.strongRecOn with
  | _ n ih =>
    rw [decDigits]
    split
    · rename_i h1
      have e : (UInt8.ofNat (48 + n)).toNat = 48 + n := by rw [UInt8.toNat_ofNat']; omega
      simp only [dv]
      rw [e, if_pos (by omega)]; omega
    · rename_i h1
      have e : (UInt8.ofNat (48 + n % 10)).toNat = 48 + n % 10 := by rw [UInt8.toNat_ofNat']; omega
      rw [dv_append, ih (n / 10) (by omega)]
      simp only [dv]
      rw [e, if_pos (by omega)]; omega
theorem dv_body (n : Nat) : dv 0 (body n) = n := by
  unfold body
  rw [dv_append, dv_dec]
  simp only [dv]
  rw [if_neg (by decide), dgt_nat, dgt_nat, if_pos (by omega), if_pos (by omega)]; omega
theorem mn_body (n : Nat) : mn (body n) = false := by
  unfold mn
  rw [List.any_eq_false]
  intro c hc e
  have e : c = 45 := by simpa using e
  subst e
  unfold body at hc
  rcases List.mem_append.1 hc with hc | hc
  · have := dec_dig _ _ hc; revert this; decide
  · simp only [List.mem_cons, List.not_mem_nil, or_false] at hc
    rcases hc with hc | hc | hc
    · revert hc; decide
    · have := dgt_nat (n / 10); rw [← hc] at this; have : (45 : UInt8).toNat = 45 := rfl; omega
    · have := dgt_nat n; rw [← hc] at this; have : (45 : UInt8).toNat = 45 := rfl; omega
def rn (l : List UInt8) : Int := if mn l = true then - dv 0 l else dv 0 l
theorem rn_tx (a : Int) : rn (tx a) = a := by
  unfold rn tx
  split
  · rename_i h
    have e : mn (45 :: body a.natAbs) = true := by simp [mn]
    rw [if_pos e]
    have : dv 0 (45 :: body a.natAbs) = dv 0 (body a.natAbs) := by
      simp only [dv]
      rw [if_neg (by decide)]
    rw [this, dv_body]; omega
  · rename_i h
    rw [mn_body, if_neg (by simp), dv_body]; omega
theorem dec_len (n : Nat) : ∀ k : Nat, n < 10 ^ k → 1 ≤ k → (decDigits n).length ≤ k := by
  induction n using Nat.strongRecOn with
  | _ n ih =>
    intro k h hk
    rw [decDigits]
    split
    · simp; omega
    · rename_i h1
      rw [List.length_append]
      obtain ⟨j, rfl⟩ : ∃ j, k = j + 1 := ⟨k - 1, by omega⟩
      rw [Nat.pow_succ] at h
      have hj : 1 ≤ j := by
        rcases j with _ | j
        · simp at h; omega
        · omega
      have := ih (n / 10) (by omega) j (by omega) hj
      simp; omega
theorem tx_len (a : Int) (h : rt a = true) : (tx a).length ≤ 18 := by
  have h := (rt_iff a).1 h
  have hd : (decDigits (a.natAbs / 100)).length ≤ 14 := dec_len _ 14 (by omega) (by omega)
  unfold tx body
  split <;> simp <;> omega
theorem rdIs_of_ref (l : List UInt8) (h : l.length ≤ 18) : (rt (rn l) = true ∧ tx (rn l) = l → RdIs l (rn l) 0) ∧ (¬ (rt (rn l) = true ∧ tx (rn l) = l) → RdIs l 0 20) := by
  refine ⟨fun x => .inl ⟨rfl, x.1, x.2⟩, fun x => .inr ⟨rfl, rfl, fun a ha e => x ?_⟩⟩
  subst e
  rw [rn_tx]; exact ⟨ha, rfl⟩
theorem rdIs_of_long (l : List UInt8) (h : 18 < l.length) : RdIs l 0 20 :=
  .inr ⟨rfl, rfl, fun a ha e => by have := tx_len a ha; rw [e] at this; omega⟩
end Go.Proofs.YtbbmpjndalkgbaaDoor.Mo
