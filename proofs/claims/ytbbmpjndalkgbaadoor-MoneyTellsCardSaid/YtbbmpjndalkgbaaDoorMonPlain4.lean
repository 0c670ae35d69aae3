/-
  Plain mathematics of a split's two rounds.
-/
import Derived.Test.YtbbmpjndalkgbaaDoorMonPlain3
namespace Go.Proofs.YtbbmpjndalkgbaaDoor.Mo
set_option linter.unusedVariables false

theorem drop_cons (ws : List Int) (k : Nat) (h : k < ws.length) : ws.drop k = ws.getD k 0 :: ws.drop (k + 1) := by
  rw [List.drop_eq_getElem_cons h, List.getD_eq_getElem?_getD, List.getElem?_eq_getElem h]; rfl
/-- the parts so far, zeros behind -/
def L1 (c T : Int) (ws : List Int) (k : Nat) : List Int := bs c T (ws.take k) ++ List.replicate (ws.length - k) 0
/-- the parts, the first ones with their cent more -/
def L2 (c T l : Int) (ws : List Int) (k : Nat) : List Int := spl c T l (ws.take k) ++ bs c T (ws.drop k)
theorem set_at (a b : List Int) (x y : Int) (k : Nat) (h : a.length = k) : (a ++ x :: b).set k y = a ++ y :: b := by
  rw [List.set_append_right _ _ (by omega)]
  rw [show k - a.length = 0 by omega]; rfl
theorem getD_at' (a b : List Int) (x : Int) (k : Nat) (h : a.length = k) : (a ++ x :: b).getD k 0 = x := by
  rw [List.getD_eq_getElem?_getD, List.getElem?_append_right (by omega)]
  rw [show k - a.length = 0 by omega]; rfl
theorem L1_len (c T : Int) (ws : List Int) (k : Nat) (h : k ≤ ws.length) : (L1 c T ws k).length = ws.length := by
  unfold L1; rw [List.length_append, bs_len, List.length_take, List.length_replicate]; omega
theorem L2_len (c T l : Int) (ws : List Int) (k : Nat) : (L2 c T l ws k).length = ws.length := by
  unfold L2; rw [List.length_append, spl_len, bs_len, List.length_take, List.length_drop]; omega
theorem L1_zero (c T : Int) (ws : List Int) : L1 c T ws 0 = List.replicate ws.length 0 := by simp [L1, bs]
theorem L1_all (c T : Int) (ws : List Int) : L1 c T ws ws.length = bs c T ws := by simp [L1]
theorem L2_zero (c T l : Int) (ws : List Int) : L2 c T l ws 0 = bs c T ws := by simp [L2, spl]
theorem L2_all (c T l : Int) (ws : List Int) : L2 c T l ws ws.length = spl c T l ws := by simp [L2, bs]
theorem L1_set (c T : Int) (ws : List Int) (k : Nat) (h : k < ws.length) : (L1 c T ws k).set k (c * ws.getD k 0 / T) = L1 c T ws (k + 1) := by
  have hk : (bs c T (ws.take k)).length = k := by rw [bs_len, List.length_take]; omega
  unfold L1
  rw [show ws.length - k = (ws.length - (k + 1)) + 1 by omega, List.replicate_succ, set_at _ _ _ _ _ hk, take_snoc ws k h]
  simp [bs]
theorem bs_take_succ (c T : Int) (ws : List Int) (k : Nat) (h : k < ws.length) : sumZ (bs c T (ws.take (k + 1))) = sumZ (bs c T (ws.take k)) + c * ws.getD k 0 / T := by
  rw [take_snoc ws k h]
  have : bs c T (ws.take k ++ [ws.getD k 0]) = bs c T (ws.take k) ++ [c * ws.getD k 0 / T] := by simp [bs]
  rw [this, sumZ_append]; simp [sumZ]
theorem L2_at (c T l : Int) (ws : List Int) (k : Nat) (h : k < ws.length) : (L2 c T l ws k).getD k 0 = c * ws.getD k 0 / T := by
  have hk : (spl c T l (ws.take k)).length = k := by rw [spl_len, List.length_take]; omega
  unfold L2
  rw [drop_cons ws k h]
  exact getD_at' _ _ _ k hk
theorem L1_at (c T : Int) (ws : List Int) (k : Nat) (h : k < ws.length) : (L1 c T ws (k + 1)).getD k 0 = c * ws.getD k 0 / T := by
  rw [← L1_set c T ws k h, List.getD_eq_getElem?_getD, List.getElem?_set_self (by rw [L1_len _ _ _ _ (by omega)]; exact h)]; rfl
theorem L2_set (c T l : Int) (ws : List Int) (k : Nat) (h : k < ws.length) (hl : 0 < lf l (ws.take k)) (hw : 0 < ws.getD k 0) : (L2 c T l ws k).set k (c * ws.getD k 0 / T + 1) = L2 c T l ws (k + 1) := by
  have hk : (spl c T l (ws.take k)).length = k := by rw [spl_len, List.length_take]; omega
  unfold L2
  rw [drop_cons ws k h]
  have : bs c T (ws.getD k 0 :: ws.drop (k + 1)) = c * ws.getD k 0 / T :: bs c T (ws.drop (k + 1)) := rfl
  rw [this, set_at _ _ _ _ _ hk, take_snoc ws k h, spl_append]
  simp only [spl]
  rw [if_pos ⟨hl, hw⟩]; simp
theorem L2_skip (c T l : Int) (ws : List Int) (k : Nat) (h : k < ws.length) (hn : ¬ (0 < lf l (ws.take k) ∧ 0 < ws.getD k 0)) : L2 c T l ws (k + 1) = L2 c T l ws k := by
  unfold L2
  conv => rhs; rw [drop_cons ws k h]
  have : bs c T (ws.getD k 0 :: ws.drop (k + 1)) = c * ws.getD k 0 / T :: bs c T (ws.drop (k + 1)) := rfl
  rw [this, take_snoc ws k h, spl_append]
  simp only [spl]
  rw [if_neg hn]; simp
theorem lf_bd (l : Int) (h : 0 ≤ l) (ws : List Int) : 0 ≤ lf l ws ∧ lf l ws ≤ l := by
  have := pos_nn ws
  rw [lf_eq l h ws]; omega
theorem pos_le (ws : List Int) : pos ws ≤ ws.length := by
  induction ws with
  | nil => simp [pos]
  | cons w t ih => simp only [pos, List.length_cons]; split <;> omega
theorem bs_bd (c T : Int) (hT : 0 < T) (ws : List Int) (h0 : ∀ w ∈ ws, 0 ≤ w ∧ w ≤ T) (c0 : -1000000000000000 ≤ c) (c1 : c ≤ 1000000000000000) :
    -1000000000000000 * ws.length ≤ sumZ (bs c T ws) ∧ sumZ (bs c T ws) ≤ 1000000000000000 * ws.length := by
  induction ws with
  | nil => simp [bs, sumZ]
  | cons w t ih =>
    have h1 := h0 w (by simp)
    have h2 := ih (fun x hx => h0 x (by simp [hx]))
    have h3 := part_bd c w T hT h1.1 h1.2 c0 c1
    have e2 : bs c T (w :: t) = c * w / T :: bs c T t := rfl
    simp only [e2, sumZ, List.length_cons]; omega
theorem getD_mem (ws : List Int) (k : Nat) (h : k < ws.length) : ws.getD k 0 ∈ ws := by
  rw [List.getD_eq_getElem?_getD, List.getElem?_eq_getElem h]; exact List.getElem_mem h

end Go.Proofs.YtbbmpjndalkgbaaDoor.Mo
