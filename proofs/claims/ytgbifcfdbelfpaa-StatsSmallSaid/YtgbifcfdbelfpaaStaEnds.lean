/-
  The walk of the law's ends.
-/
import Derived.Test.YtgbifcfdbelfpaaStaTells
import Derived.Test.YtgbifcfdbelfpaaStaRank
namespace Go.Proofs.Ytgbifcfdbelfpaa
open Go.RowKit
set_option linter.unusedVariables false

theorem ex_499_0 : exB 499 500 (9940 ^ 499) = false := by decide +kernel
theorem ex_499_1 : exB 499 500 (9941 ^ 499) = true := by decide +kernel
theorem ex_500_0 : exB 500 500 (9940 ^ 500) = false := by decide +kernel
theorem ex_500_1 : exB 500 500 (9941 ^ 500) = true := by decide +kernel
theorem upc_all (n : Nat) (p : Int) : upc n n p = p ^ n := by
  unfold upc
  rw [Nat.sub_self, Sb.ls, Sb.ls, Sb.cn_first]
  omega
theorem low_end {n : Nat} (h : n = 499 ∨ n = 500) : lowB n n 500 = 9941 := by
  have e : (9941 : Nat) = lowB n n 500 := by
    refine lowB_is (by omega) (.inr ?_) (.inr ?_)
    · rw [upc_all]
      rcases h with rfl | rfl
      · exact ex_499_0
      · exact ex_500_0
    · rw [upc_all]
      rcases h with rfl | rfl
      · exact ex_499_1
      · exact ex_500_1
  exact e.symm
/-- a number that is not 0 -/
def PostPos (W : World) (e : Ending) (w' : World) : Prop := ∃ A cap, ∃ l : Nat, e = .returned (.tuple #[.slice A l cap, .int .i64 0]) ∧ 0 < l ∧ l ≤ 1024 ∧ Below W.heap.size W w'
theorem pos_of {z : Int} (hz : 0 < z) {W w' : World} {e : Ending} (h : PostNumE z W e w') : PostPos W e w' := by
  obtain ⟨A, cap, l, rfl, h1, h2⟩ := h
  refine ⟨A, cap, l.length, rfl, ?_, h1.len, h2⟩
  rcases Nat.eq_zero_or_pos l.length with e | e
  · have := h1.can.nil_iff.1 (List.eq_nil_of_length_eq_zero e)
    rw [h1.val] at this
    omega
  · exact e
def PostNone (W : World) (e : Ending) (w' : World) : Prop := ∃ A cap, e = .returned (.tuple #[.slice A 0 cap, .int .i64 0]) ∧ Below W.heap.size W w'
theorem none_of {W w' : World} {e : Ending} (h : PostNumE 0 W e w') : PostNone W e w' := by
  obtain ⟨A, cap, l, rfl, h1, h2⟩ := h
  have := h1.can.nil_iff.2 h1.val
  subst this
  exact ⟨A, cap, rfl, h2⟩
theorem lwc_none {n : Nat} (h : 0 < n) : lwc n 0 10000 = 0 := by
  unfold lwc
  rw [Sb.ls, Sb.ls, Sb.cn_first]
  obtain ⟨m, rfl⟩ : ∃ m, n = m + 1 := ⟨n - 1, by omega⟩
  rw [Int.pow_succ]
  omega

theorem end_choose (n : Nat) (V : World) (h0 : 250 ≤ n) (h : n ≤ 500) : Calls Try.prog 32 #[.int .i64 n, .int .i64 250] V (PostPos V) := by
  obtain ⟨k, hk⟩ : ∃ k : Nat, k = 250 := ⟨_, rfl⟩
  have c := choose_ok n k V h (by omega)
  rw [show (k : Int) = 250 by omega] at c
  have hp := Sb.bin_pos n k (by omega)
  exact c.mono fun _ _ => pos_of (by omega)
theorem end_upper (n : Nat) (V : World) (h : n ≤ 500) : Calls Try.prog 28 #[.int .i64 n, .int .i64 n, .int .i64 9999] V (PostPos V) := by
  have c := upper_ok n n 9999 V (by omega) (by omega) h (Nat.le_refl _)
  rw [upc_all] at c
  exact c.mono fun _ _ => pos_of (Sb.pow_pos (by omega) n)
theorem end_lower (n : Nat) (V : World) (h0 : 0 < n) (h : n ≤ 500) : Calls Try.prog 29 #[.int .i64 n, .int .i64 0, .int .i64 10000] V (PostNone V) := by
  have c := lower_ok n 0 10000 V (by omega) (by omega) h (by omega)
  rw [lwc_none h0, show ((0 : Nat) : Int) = 0 from rfl] at c
  exact c.mono fun _ _ => none_of
theorem end_least (n : Nat) (V : World) (h : n = 499 ∨ n = 500) : Calls Try.prog 23 #[.int .i64 n, .int .i64 n, .int .i64 500] V (PostIntE 9941 V) := by
  have c := least_ok n n 500 V (by omega) (by omega) (by omega) (Nat.le_refl _)
  rw [low_end h, show ((9941 : Nat) : Int) = 9941 from rfl] at c
  exact c
theorem end_great (n : Nat) (V : World) (h : n ≤ 500) : ∃ z, Calls Try.prog 24 #[.int .i64 n, .int .i64 n, .int .i64 500] V (PostIntE z V) :=
  ⟨_, greatest_ok n n 500 V (by omega) (by omega) h (Nat.le_refl _)⟩

/-! ### a slice that falls -/
theorem cnt_all (m : List Int) (v : Int) (h : ∀ x ∈ m, x ≤ v) : cle m v = m.length := by
  unfold cle
  rw [List.countP_eq_length]
  intro x hx
  simpa using h x hx
theorem cnt_less {m : List Int} {v : Int} (h : v ∈ m) : clt m v < m.length := by
  unfold clt
  have h1 := List.countP_le_length (p := fun x => decide (x < v)) (l := m)
  rcases Nat.lt_or_eq_of_le h1 with h2 | h2
  · exact h2
  · have := (List.countP_eq_length.1 h2) v h
    simp at this
theorem cnt_none (m : List Int) (v : Int) (h : ∀ x ∈ m, v ≤ x) : clt m v = 0 := by
  unfold clt
  rw [List.countP_eq_zero]
  intro x hx
  have := h x hx
  simp; omega
theorem cnt_some {m : List Int} {v : Int} (h : v ∈ m) : 0 < cle m v := by
  unfold cle
  rw [List.countP_pos_iff]
  exact ⟨v, h, by simp⟩
theorem falls_mem {m : List Int} {N : Nat} (hl : m.length = N) (hm : ∀ j, j < N → m.getD j 0 = -(j : Int)) : (∀ x ∈ m, 1 - (N : Int) ≤ x ∧ x ≤ 0) ∧ ∀ j : Nat, j < N → -(j : Int) ∈ m := by
  refine ⟨fun x hx => ?_, fun j hj => ?_⟩
  · obtain ⟨j, hj, rfl⟩ := List.getElem_of_mem hx
    have := hm j (by omega)
    rw [List.getD_eq_getElem?_getD, List.getElem?_eq_getElem hj, Option.getD_some] at this
    omega
  · have := hm j hj
    rw [List.getD_eq_getElem?_getD, List.getElem?_eq_getElem (by omega), Option.getD_some] at this
    rw [← this]
    exact List.getElem_mem _
theorem falls_top {m : List Int} {N : Nat} (hl : m.length = N) (hm : ∀ j, j < N → m.getD j 0 = -(j : Int)) (h0 : 0 < N) : qnt m 10000 = 0 := by
  obtain ⟨h1, h2⟩ := falls_mem hl hm
  have h3 : (0 : Int) ∈ m := h2 0 h0
  have h4 := cnt_all m 0 fun x hx => (h1 x hx).2
  have h5 := cnt_less h3
  refine qnt_of_good (by omega) (by omega) ⟨h3, ?_, .inr ?_⟩
  · unfold Enough; rw [h4]; omega
  · omega
theorem falls_low {m : List Int} {N : Nat} (hl : m.length = N) (hm : ∀ j, j < N → m.getD j 0 = -(j : Int)) (h0 : 0 < N) (hN : N ≤ 10000) : qnt m 1 = 1 - (N : Int) := by
  obtain ⟨h1, h2⟩ := falls_mem hl hm
  have h3 : 1 - (N : Int) ∈ m := by
    have := h2 (N - 1) (by omega)
    rwa [show -((N - 1 : Nat) : Int) = 1 - (N : Int) by omega] at this
  have h5 := cnt_some h3
  refine qnt_of_good (by omega) (by omega) ⟨h3, ?_, .inl (cnt_none m _ fun x hx => (h1 x hx).1)⟩
  unfold Enough
  omega
/-- a slice that is filled, up to k -/
def Fall (w : World) (g N k : Nat) : Prop := ∃ m : List Int, m.length = N ∧ IBlk w g [] m [] ∧ ∀ j, j < k → m.getD j 0 = -(j : Int)
theorem Fall.step {w : World} {g N k : Nat} (h : Fall w g N k) (hk : k < N) : Fall (w.setCell ⟨g, k, none⟩ (.int .i64 (-(k : Int)))) g N (k + 1) ∧ (∃ z, w.cell? ⟨g, k, none⟩ = some (.int .i64 z)) ∧ w.frozen? ⟨g, k, none⟩ = false := by
  obtain ⟨m, h1, h2, h3⟩ := h
  refine ⟨⟨m.set k (-(k : Int)), by rw [List.length_set]; exact h1, h2.set k (by omega) _ (by simp), fun j hj => ?_⟩, ⟨_, h2.cell k (by omega) (by simp)⟩, h2.free _⟩
  rw [set_getD _ _ _ _ (by omega)]
  by_cases e : j = k
  · rw [if_pos e, e]
  · rw [if_neg e]; exact h3 j (by omega)
theorem wpList_mkI {ops : Array Oper} {rest : List Oper} {o : Oper} {a : Act} {Q : Exit → Act → World → Prop} (w : World) (hg : o.guard = none) (l c : Operand) (hop : o.op = Op.makeSlice 24 l c)
    (n : Nat) (L C : Int) (hl : a.eval l = .int .i64 L) (hc : a.eval c = .int .i64 C) (hL : L = n) (hC : C = n) (hn : n ≤ 1000000)
    (hK : ∀ w', IBlk w' w.heap.size [] (List.replicate n 0) [] → w.grownBy w' none → wpList Try.prog ops Q rest (a.put o.dst (.slice (some ⟨w.heap.size, 0, none⟩) n n)) w') : wpList Try.prog ops Q (o :: rest) a w := by
  obtain ⟨i0, hi, hz0, hz1, hz2⟩ := info_parts infoInt
  refine wpList_make_full w hg l c 24 hop w.heap.size 3 i0 (.int .i64 0) 1 Try.underlying24 hi hz0 hz1 _ _ L C n hl hc hL hC ?_ ?_ (Nat.le_refl _) ?_
  · rw [hz2]; omega
  · unfold maxLen; omega
  · intro w' ho hgr
    have e : (madeCells (Value.int .i64 0).cells (n * 1)).toList = (List.replicate n (0 : Int)).map (Value.int .i64) := by
      rw [Nat.mul_one, show (Value.int .i64 0).cells = #[Value.int .i64 0] from rfl, toList_madeCells_one, List.map_replicate]
    rw [e] at ho
    obtain ⟨s, h1, h2, h3, h4, h5⟩ := own_iblk ho
    have : s = [] := List.eq_nil_of_length_eq_zero (by omega)
    subst this
    exact hK w' h1 hgr
/-- the quantiles of what falls -/
theorem fall_ok {w : World} {g N : Nat} (h : Fall w g N N) (hN : N ≤ 10000) (h0 : 0 < N) :
    (∀ V, Below w.heap.size w V → Calls Try.prog 37 #[.slice (some ⟨g, 0, none⟩) N N, .int .i64 10000] V (PostIntE 0 V)) ∧ (∀ V, Below w.heap.size w V → Calls Try.prog 37 #[.slice (some ⟨g, 0, none⟩) N N, .int .i64 1] V (PostIntE (1 - (N : Int)) V)) := by
  obtain ⟨m, h1, h2, h3⟩ := h
  have hne : m ≠ [] := fun e => by rw [e] at h1; simp at h1; omega
  have hc : ∀ V, Below w.heap.size w V → ∀ j, j < m.length → V.cell? ⟨g, 0 + j, none⟩ = some (.int .i64 (m.getD j 0)) := fun V hV j hj => by
    rw [Nat.zero_add]
    exact (bcell hV g j h2.lt).trans (h2.cell j hj (by simp))
  refine ⟨fun V hV => ?_, fun V hV => ?_⟩
  · have q := quantile_ok g 0 N m 10000 V (by omega) hne (by omega) (by omega) (Nat.lt_of_lt_of_le h2.lt hV.size) (hc V hV)
    rw [h1, falls_top h1 h3 h0] at q
    exact q
  · have q := quantile_ok g 0 N m 1 V (by omega) hne (by omega) (by omega) (Nat.lt_of_lt_of_le h2.lt hV.size) (hc V hV)
    rw [h1, falls_low h1 h3 h0 hN] at q
    exact q

end Go.Proofs.Ytgbifcfdbelfpaa
