/-
  A list with weights of 0 between its weights: the same parts at their places (plain).
-/
import Derived.Test.YtbbmpjndalkgbaaDoorMonPlain4
namespace Go.Proofs.YtbbmpjndalkgbaaDoor.Mo
set_option linter.unusedVariables false

theorem getD_left (a b : List Int) (i : Nat) (h : i < a.length) : (a ++ b).getD i 0 = a.getD i 0 := by
  rw [List.getD_eq_getElem?_getD, List.getD_eq_getElem?_getD, List.getElem?_append_left h]

/-- gs holds the weights us at the places ats, and weights of 0 -/
structure Gaps (us gs ats : List Int) : Prop where
  al : ats.length = us.length
  sum : sumZ gs = sumZ us
  bsum : ∀ c T, sumZ (bs c T gs) = sumZ (bs c T us)
  left : ∀ l, lf l gs = lf l us
  small : ∀ x ∈ gs, 0 ≤ x ∧ x ≤ 1000
  at_ : ∀ j, j < us.length → ∃ p : Nat, ats.getD j 0 = p ∧ p < gs.length ∧ ∀ c T l, (spl c T l gs).getD p 0 = (spl c T l us).getD j 0
theorem Gaps.nil : Gaps [] [] [] := ⟨rfl, rfl, fun _ _ => rfl, fun _ => rfl, by simp, by simp⟩
theorem lf_zero (l : Int) : lf l [0] = l := by simp [lf]
theorem bs_zero (c T : Int) : bs c T [0] = [0] := by simp [bs]
theorem bs_append (c T : Int) (a b : List Int) : bs c T (a ++ b) = bs c T a ++ bs c T b := by simp [bs]
theorem Gaps.skip {us gs ats : List Int} (h : Gaps us gs ats) : Gaps us (gs ++ [0]) ats := by
  refine ⟨h.al, ?_, ?_, ?_, ?_, ?_⟩
  · rw [sumZ_append, h.sum]; simp [sumZ]
  · intro c T; rw [bs_append, sumZ_append, h.bsum, bs_zero]; simp [sumZ]
  · intro l; rw [lf_append, h.left, lf_zero]
  · intro x hx
    rcases List.mem_append.1 hx with hx | hx
    · exact h.small x hx
    · simp at hx; subst hx; omega
  · intro j hj
    obtain ⟨p, e, hp, hs⟩ := h.at_ j hj
    refine ⟨p, e, by simp; omega, fun c T l => ?_⟩
    rw [spl_append, getD_left _ _ _ (by rw [spl_len]; exact hp), hs]
theorem Gaps.next {us gs ats : List Int} (h : Gaps us gs ats) (x : Int) (hx : 0 ≤ x ∧ x ≤ 1000) : Gaps (us ++ [x]) (gs ++ [x]) (ats ++ [(gs.length : Int)]) := by
  refine ⟨by simp [h.al], ?_, ?_, ?_, ?_, ?_⟩
  · rw [sumZ_append, sumZ_append, h.sum]
  · intro c T; rw [bs_append, bs_append, sumZ_append, sumZ_append, h.bsum]
  · intro l; rw [lf_append, lf_append, h.left]
  · intro y hy
    rcases List.mem_append.1 hy with hy | hy
    · exact h.small y hy
    · simp at hy; subst hy; exact hx
  · intro j hj
    simp at hj
    by_cases hj2 : j < us.length
    · obtain ⟨p, e, hp, hs⟩ := h.at_ j hj2
      refine ⟨p, by rw [getD_left _ _ _ (by rw [h.al]; exact hj2), e], by simp; omega, fun c T l => ?_⟩
      rw [spl_append, spl_append, getD_left _ _ _ (by rw [spl_len]; exact hp), getD_left _ _ _ (by rw [spl_len]; exact hj2), hs]
    · have hje : j = us.length := by omega
      subst hje
      refine ⟨gs.length, by rw [← h.al]; exact getD_at' ats [] _ _ rfl, by simp, fun c T l => ?_⟩
      rw [spl_append, spl_append, h.left]
      generalize lf l us = m
      have e : ∃ y, spl c T m [x] = [y] := by
        have := spl_len c T m [x]
        match hq : spl c T m [x], this with
        | [y], _ => exact ⟨y, rfl⟩
      obtain ⟨y, e⟩ := e
      rw [e, getD_at' _ [] y _ (by rw [spl_len]), getD_at' _ [] y _ (by rw [spl_len])]
theorem Gaps.lft {us gs ats : List Int} (h : Gaps us gs ats) (c T : Int) : Mo.lft c T gs = Mo.lft c T us := by unfold Mo.lft; rw [h.bsum]
theorem Gaps.wts {us gs ats : List Int} (h : Gaps us gs ats) : Mo.wts gs = true := by
  unfold Mo.wts
  rw [List.all_eq_true]
  intro x hx
  have := h.small x hx
  exact decide_eq_true (by omega)
/-- the law's own part of a split of the weights -/
theorem Gaps.split {us gs ats : List Int} (h : Gaps us gs ats) (c : Int) (j : Nat) (hj : j < us.length) :
    ∃ p : Nat, ats.getD j 0 = p ∧ p < gs.length ∧ (spl c (sumZ gs) (Mo.lft c (sumZ gs) gs) gs).getD p 0 = (spl c (sumZ us) (Mo.lft c (sumZ us) us) us).getD j 0 := by
  obtain ⟨p, e, hp, hs⟩ := h.at_ j hj
  refine ⟨p, e, hp, ?_⟩
  rw [hs, h.lft, h.sum]

theorem small_wts {us : List Int} (k : Int) (h0 : 1 ≤ k) (h1 : k ≤ 1000) (h : ∀ x ∈ us, 0 ≤ x ∧ x ≤ 1000) : Mo.wts (us.map (k * ·)) = true := by
  unfold Mo.wts
  rw [List.all_eq_true]
  intro x hx
  obtain ⟨y, hy, rfl⟩ := List.mem_map.1 hx
  have := h y hy
  have a := Int.mul_nonneg (show 0 ≤ k by omega) this.1
  have b := Int.mul_le_mul h1 this.2 this.1 (by omega)
  exact decide_eq_true ⟨a, by omega⟩

end Go.Proofs.YtbbmpjndalkgbaaDoor.Mo
