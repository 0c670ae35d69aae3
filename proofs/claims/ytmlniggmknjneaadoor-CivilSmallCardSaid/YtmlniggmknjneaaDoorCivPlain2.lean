/-
  Plain mathematics of working days: no program in sight.
-/
import Derived.Test.YtmlniggmknjneaaDoorCivPlain
namespace Go.Proofs.YtmlniggmknjneaaDoor.Cv
set_option linter.unusedVariables false

/-- strictly increasing days behind a last one -/
def rgt (last : Int) : List Int → Bool
  | [] => true
  | h :: t => decide (last < h) && decide (h ≤ 730484) && rgt h t
def rightB (zs : List Int) : Bool := decide (zs.length ≤ 1000) && rgt (-1) zs
/-- how many holidays that are no weekend are in front of a day, up to the first one that is not -/
def hcnt (day : Int) : List Int → Int
  | [] => 0
  | h :: t => if day ≤ h then 0 else (if h % 7 < 5 then 1 else 0) + hcnt day t
/-- how many working days are in front of a day -/
def wif (zs : List Int) (day : Int) : Int := day / 7 * 5 + min (day % 7) 5 - hcnt day zs
def isW (zs : List Int) (d : Int) : Bool := decide (d % 7 < 5) && !zs.contains d

theorem hcnt_bd (day : Int) (zs : List Int) : 0 ≤ hcnt day zs ∧ hcnt day zs ≤ zs.length := by
  induction zs with
  | nil => simp [hcnt]
  | cons h t ih => simp only [hcnt, List.length_cons]; repeat' split <;> omega

theorem rgt_cons (a h : Int) (t : List Int) : rgt a (h :: t) = true ↔ a < h ∧ h ≤ 730484 ∧ rgt h t = true := by
  simp [rgt, and_assoc]
theorem rgt_mem (a : Int) (zs : List Int) (h : rgt a zs = true) : ∀ x ∈ zs, a < x ∧ x ≤ 730484 := by
  induction zs generalizing a with
  | nil => simp
  | cons z t ih =>
    obtain ⟨h1, h2, h3⟩ := (rgt_cons _ _ _).1 h
    intro x hx
    rcases List.mem_cons.1 hx with rfl | hx
    · exact ⟨h1, h2⟩
    · have := ih z h3 x hx; omega
theorem rgt_sorted (a : Int) (zs : List Int) (h : rgt a zs = true) : zs.Pairwise (· ≤ ·) := by
  induction zs generalizing a with
  | nil => simp
  | cons z t ih =>
    obtain ⟨h1, h2, h3⟩ := (rgt_cons _ _ _).1 h
    refine List.pairwise_cons.2 ⟨fun x hx => ?_, ih z h3⟩
    have := rgt_mem z t h3 x hx; omega
/-- one day on -/
theorem hcnt_step (a d : Int) (zs : List Int) (h : rgt a zs = true) : hcnt (d + 1) zs = hcnt d zs + if d % 7 < 5 ∧ d ∈ zs then 1 else 0 := by
  induction zs generalizing a with
  | nil => simp [hcnt]
  | cons z t ih =>
    obtain ⟨h1, h2, h3⟩ := (rgt_cons _ _ _).1 h
    simp only [hcnt]
    have hm := rgt_mem z t h3
    by_cases c1 : d + 1 ≤ z
    · rw [if_pos c1, if_pos (by omega), if_neg]
      · rfl
      · rintro ⟨_, hx⟩
        rcases List.mem_cons.1 hx with rfl | hx
        · omega
        · have := hm d hx; omega
    · rw [if_neg c1]
      by_cases c2 : d ≤ z
      · have e : d = z := by omega
        subst e
        rw [if_pos (Int.le_refl _)]
        have hz : hcnt (d + 1) t = 0 := by
          cases t with
          | nil => rfl
          | cons y t =>
            have := hm y (by simp)
            simp only [hcnt]; rw [if_pos (by omega)]
        rw [hz]
        by_cases c : d % 7 < 5 <;> simp [c]
      · rw [if_neg c2, ih z h3]
        have : d ≠ z := by omega
        by_cases c : d % 7 < 5 ∧ d ∈ t
        · rw [if_pos c, if_pos (⟨c.1, List.mem_cons_of_mem _ c.2⟩ : d % 7 < 5 ∧ d ∈ z :: t)]; omega
        · rw [if_neg c, if_neg (fun (hx : d % 7 < 5 ∧ d ∈ z :: t) => c ⟨hx.1, (List.mem_cons.1 hx.2).resolve_left this⟩)]; omega
theorem wif_step (a d : Int) (zs : List Int) (h : rgt a zs = true) : wif zs (d + 1) = wif zs d + if isW zs d = true then 1 else 0 := by
  unfold wif isW
  rw [hcnt_step a d zs h]
  by_cases c : d % 7 < 5
  · by_cases g : d ∈ zs
    · rw [if_pos ⟨c, g⟩, if_neg (by simp [g])]; omega
    · rw [if_neg (fun x => g x.2), if_pos (by simp [g, c])]; omega
  · rw [if_neg (fun x => c x.1), if_neg (by simp [c])]; omega
theorem wif_mono (a : Int) (zs : List Int) (h : rgt a zs = true) (x y : Int) (hxy : x ≤ y) : wif zs x ≤ wif zs y ∧ wif zs y ≤ wif zs x + (y - x) := by
  obtain ⟨k, rfl⟩ : ∃ k : Nat, y = x + k := ⟨(y - x).toNat, by omega⟩
  clear hxy
  induction k with
  | zero => simp
  | succ k ih =>
    rw [show x + ((k + 1 : Nat) : Int) = x + k + 1 from by omega, wif_step a _ zs h]
    split <;> omega
theorem wif_zero (zs : List Int) (h : rgt (-1) zs = true) : wif zs 0 = 0 := by
  cases zs with
  | nil => rfl
  | cons z t =>
    have := ((rgt_cons _ _ _).1 h).1
    unfold wif; simp only [hcnt]; rw [if_pos (by omega)]; rfl
theorem wif_bd (zs : List Int) (d : Int) (h0 : 0 ≤ d) : -(zs.length : Int) ≤ wif zs d ∧ wif zs d ≤ d := by
  have := hcnt_bd d zs
  unfold wif; omega

/-- r is the day that is n working days ahead of day (er 0), or there is none (er 3) -/
def AheadIs (zs : List Int) (day n r er : Int) : Prop :=
  (er = 0 ∧ day ≤ r ∧ r ≤ 730484 ∧ isW zs r = true ∧ wif zs r = wif zs day + n) ∨ (er = 3 ∧ r = 0 ∧ wif zs 730485 ≤ wif zs day + n)
theorem ahead_of (zs : List Int) (h : rgt (-1) zs = true) (day n : Int) (h1 : day ≤ 730484) (hn : 0 ≤ n) (k : Nat) (hk : (k : Int) < 730484 - day + 1)
    (a : ∀ t : Nat, t < k → ¬ wif zs day + n < wif zs (day + t + 1)) (b : wif zs day + n < wif zs (day + k + 1)) : AheadIs zs day n (day + k) 0 := by
  refine .inl ⟨rfl, by omega, by omega, ?_⟩
  have s := wif_step (-1) (day + k) zs h
  have hle : wif zs (day + k) ≤ wif zs day + n := by
    rcases k with _ | k
    · simp; omega
    · have := a k (by omega)
      rw [show day + ((k + 1 : Nat) : Int) = day + k + 1 from by omega]; omega
  by_cases c : isW zs (day + k) = true
  · rw [if_pos c] at s; exact ⟨c, by omega⟩
  · rw [if_neg c] at s; omega
theorem ahead_none (zs : List Int) (day n : Int) (h1 : day ≤ 730484) (k : Nat) (hk : (k : Int) = 730484 - day + 1)
    (a : ∀ t : Nat, t < k → ¬ wif zs day + n < wif zs (day + t + 1)) : AheadIs zs day n 0 3 := by
  refine .inr ⟨rfl, rfl, ?_⟩
  have := a (k - 1) (by omega)
  rw [show day + ((k - 1 : Nat) : Int) + 1 = 730485 from by omega] at this
  omega
/-- there is but one such day -/
theorem ahead_one (zs : List Int) (h : rgt (-1) zs = true) (day n r er r2 er2 : Int) (a : AheadIs zs day n r er) (b : AheadIs zs day n r2 er2) : r = r2 ∧ er = er2 := by
  have key : ∀ x y : Int, x < y → isW zs x = true → wif zs x < wif zs y := by
    intro x y hxy hx
    have s := wif_step (-1) x zs h
    rw [if_pos hx] at s
    have := (wif_mono (-1) zs h (x + 1) y (by omega)).1
    omega
  rcases a with ⟨rfl, a1, a2, a3, a4⟩ | ⟨rfl, rfl, a3⟩ <;> rcases b with ⟨rfl, b1, b2, b3, b4⟩ | ⟨rfl, rfl, b3⟩
  · refine ⟨?_, rfl⟩
    rcases Int.lt_trichotomy r r2 with c | c | c
    · have := key _ _ c a3; omega
    · exact c
    · have := key _ _ c b3; omega
  · have := key r 730485 (by omega) a3; omega
  · have := key r2 730485 (by omega) b3; omega
  · exact ⟨rfl, rfl⟩

end Go.Proofs.YtmlniggmknjneaaDoor.Cv
