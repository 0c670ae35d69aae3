/-
  The reference's table in memory.
-/
import Derived.Test.YthojojjdamchpaaEdiPath
namespace Go.Proofs.Ythojojjdamchpaa
open Go.RowKit Go.Shelf
set_option linter.unusedVariables false
set_option linter.unusedSimpArgs false

/-- a slice that holds the row i of the distances, in a block from lo to below hi -/
def Rw (c : Ed.Cst) (a b : ByteArray) (lo hi i : Nat) (v : Value) (W : World) : Prop := ∃ blk, v = sl blk (b.size + 1) ∧ lo ≤ blk ∧ blk < hi ∧ ∀ j, j ≤ b.size → W.cell? ⟨blk, j, none⟩ = some (.int .i64 (Dv c a b i j))
/-- the table, when p rows are there -/
def TD (c : Ed.Cst) (a b : ByteArray) (lo hi Bd p : Nat) (W : World) : Prop :=
  ∃ cs : Array Value, W.heap[Bd]? = some (.cells cs 58 (0, 0)) ∧ cs.size = a.size + 1 ∧ ∀ i, i ≤ a.size → a.size < i + p → ∃ v, cs[i]? = some v ∧ Rw c a b lo hi i v W
theorem Rw.below {c : Ed.Cst} {a b : ByteArray} {lo hi i : Nat} {v : Value} {X Y : World} (h : Rw c a b lo hi i v X) (hb : Below X.heap.size X Y) : Rw c a b lo hi i v Y := by
  obtain ⟨blk, h1, h2, h3, h4⟩ := h
  exact ⟨blk, h1, h2, h3, fun j hj => cell_keep (h4 j hj) hb⟩
theorem Rw.set {c : Ed.Cst} {a b : ByteArray} {lo hi i : Nat} {v : Value} {X : World} (h : Rw c a b lo hi i v X) (R j : Nat) (u : Value) (hR : R < lo ∨ hi ≤ R) : Rw c a b lo hi i v (X.setCell ⟨R, j, none⟩ u) := by
  obtain ⟨blk, h1, h2, h3, h4⟩ := h
  exact ⟨blk, h1, h2, h3, fun j' hj => set_cell_other (h4 j' hj) (by omega)⟩
theorem Rw.mono {c : Ed.Cst} {a b : ByteArray} {lo hi hi2 i : Nat} {v : Value} {X : World} (h : Rw c a b lo hi i v X) (hh : hi ≤ hi2) : Rw c a b lo hi2 i v X := by
  obtain ⟨blk, h1, h2, h3, h4⟩ := h
  exact ⟨blk, h1, h2, by omega, h4⟩
theorem TD.below {c : Ed.Cst} {a b : ByteArray} {lo hi Bd p : Nat} {X Y : World} (h : TD c a b lo hi Bd p X) (hb : Below X.heap.size X Y) : TD c a b lo hi Bd p Y := by
  obtain ⟨cs, h1, h2, h3⟩ := h
  refine ⟨cs, (hb.block _ (Array.getElem?_eq_some_iff.1 h1).1).trans h1, h2, fun i hi h4 => ?_⟩
  obtain ⟨v, h5, h6⟩ := h3 i hi h4
  exact ⟨v, h5, h6.below hb⟩
theorem TD.mono {c : Ed.Cst} {a b : ByteArray} {lo hi hi2 Bd p : Nat} {X : World} (h : TD c a b lo hi Bd p X) (hh : hi ≤ hi2) : TD c a b lo hi2 Bd p X := by
  obtain ⟨cs, h1, h2, h3⟩ := h
  refine ⟨cs, h1, h2, fun i hi h4 => ?_⟩
  obtain ⟨v, h5, h6⟩ := h3 i hi h4
  exact ⟨v, h5, h6.mono hh⟩
/-- a store into a row that is being made -/
theorem TD.set {c : Ed.Cst} {a b : ByteArray} {lo hi Bd p : Nat} {X : World} (h : TD c a b lo hi Bd p X) (R j : Nat) (u : Value) (hR : hi ≤ R) (hB : Bd < R) : TD c a b lo hi Bd p (X.setCell ⟨R, j, none⟩ u) := by
  obtain ⟨cs, h1, h2, h3⟩ := h
  refine ⟨cs, (heap_set_other X R j Bd u (by omega)).trans h1, h2, fun i hi h4 => ?_⟩
  obtain ⟨v, h5, h6⟩ := h3 i hi h4
  exact ⟨v, h5, h6.set R j u (.inr hR)⟩
/-- a row's slice is stored -/
theorem TD.put {c : Ed.Cst} {a b : ByteArray} {lo hi Bd p i : Nat} {X : World} (h : TD c a b lo hi Bd p X) (hip : i + p = a.size) (hB : Bd < lo) (u : Value) : TD c a b lo hi Bd p (X.setCell ⟨Bd, i, none⟩ u) ∧ (X.setCell ⟨Bd, i, none⟩ u).cell? ⟨Bd, i, none⟩ = some u := by
  obtain ⟨cs, h1, h2, h3⟩ := h
  have hs := heap_setCell_same X Bd i cs _ u h1
  refine ⟨⟨cs.setIfInBounds i u, hs, by simpa using h2, fun i' hi' h4 => ?_⟩, ?_⟩
  · obtain ⟨v, h5, h6⟩ := h3 i' hi' h4
    exact ⟨v, by rw [Array.getElem?_setIfInBounds_ne (by omega)]; exact h5, h6.set Bd i u (.inl hB)⟩
  · rw [cell_of_row _ Bd i _ _ _ hs]
    have : i < cs.size := by omega
    simp [this]
/-- the row is done -/
theorem TD.done {c : Ed.Cst} {a b : ByteArray} {lo hi Bd p i R : Nat} {X : World} {g : Nat → Int} (h : TD c a b lo hi Bd p X) (hi' : i + p = a.size) (hc : X.cell? ⟨Bd, i, none⟩ = some (sl R (b.size + 1))) (hR : RowI X R (b.size + 1) g) (hl : lo ≤ R) (hh : hi ≤ R) (hg : ∀ j, j ≤ b.size → g j = Dv c a b i j) : TD c a b lo (R + 1) Bd (p + 1) X := by
  obtain ⟨cs, h1, h2, h3⟩ := h
  refine ⟨cs, h1, h2, fun i' hi2 h4 => ?_⟩
  by_cases e : i' = i
  · subst e
    rw [cell_of_row X Bd i' cs _ _ h1] at hc
    exact ⟨_, hc, R, rfl, hl, by omega, fun j hj => by rw [hR.cell j (by omega), hg j hj]⟩
  · obtain ⟨v, h5, h6⟩ := h3 i' hi2 (by omega)
    exact ⟨v, h5, h6.mono (by omega)⟩
theorem TD.get {c : Ed.Cst} {a b : ByteArray} {lo hi Bd p i : Nat} {X : World} (h : TD c a b lo hi Bd p X) (hi' : i ≤ a.size) (h2 : a.size < i + p) : ∃ blk, X.cell? ⟨Bd, i, none⟩ = some (sl blk (b.size + 1)) ∧ blk < hi ∧ ∀ j, j ≤ b.size → X.cell? ⟨blk, j, none⟩ = some (.int .i64 (Dv c a b i j)) := by
  obtain ⟨cs, h1, _, h3⟩ := h
  obtain ⟨v, h5, blk, rfl, h6, h7, h8⟩ := h3 i hi' h2
  exact ⟨blk, by rw [cell_of_row X Bd i cs _ _ h1]; exact h5, h7, h8⟩
/-- 'make([][]int, n)' -/
theorem wpList_make_tab {ops : Array Oper} {rest : List Oper} {o : Oper} {a : Act} {Q : Exit → Act → World → Prop} (w : World)
    (hg : o.guard = none) (l c : Operand) (hop : o.op = Op.makeSlice 59 l c) (n : Nat) (hl : a.eval l = .int .i64 (n : Int)) (hc : a.eval c = .int .i64 (n : Int)) (hn : n ≤ 100000)
    (hK : ∀ w', (∃ cs : Array Value, w'.heap[w.heap.size]? = some (.cells cs 58 (0, 0)) ∧ cs.size = n) → Below w.heap.size w w' → w'.heap.size = w.heap.size + 1 → wpList Try.prog ops Q rest (a.put o.dst (sl w.heap.size n)) w') :
    wpList Try.prog ops Q (o :: rest) a w := by
  refine wpList_plain hg fun K hK' => ?_
  obtain ⟨i, hi, hz0, hz1, hz2⟩ := info_parts infoInts
  have hr := run_make (P := Try.prog) w 59 58 i (.slice none 0 0) Try.underlying59 hi hz0 .i64 .i64 (n : Int) (n : Int) (by omega) (Int.le_refl _) (by rw [hz2]; omega) (by omega)
  simp only [Int.toNat_natCast] at hr
  rw [hz1, Nat.mul_one] at hr
  unfold Oper.wp
  simp [execOp, hop, hl, hc, hr, Result.andThen]
  exact hK' _ _ (hK _ ⟨_, heap_alloc_new w _, by rw [size_madeCells]⟩ (below_new w _) (by simp))
theorem wpList_make_rowR {ops : Array Oper} {rest : List Oper} {o : Oper} {a : Act} {Q : Exit → Act → World → Prop} (w : World)
    (hg : o.guard = none) (l c : Operand) (hop : o.op = Op.makeSlice 58 l c) (n : Nat) (hl : a.eval l = .int .i64 (n : Int)) (hc : a.eval c = .int .i64 (n : Int)) (hn : n ≤ 100000)
    (hK : ∀ w', RowI w' w.heap.size n (fun _ => 0) → Below w.heap.size w w' → w'.heap.size = w.heap.size + 1 → wpList Try.prog ops Q rest (a.put o.dst (sl w.heap.size n)) w') :
    wpList Try.prog ops Q (o :: rest) a w := by
  refine wpList_plain hg fun K hK' => ?_
  obtain ⟨i, hi, hz0, hz1, hz2⟩ := info_parts infoInt
  have hr := run_make (P := Try.prog) w 58 3 i (.int .i64 0) Try.underlying58 hi hz0 .i64 .i64 (n : Int) (n : Int) (by omega) (Int.le_refl _) (by rw [hz2]; omega) (by omega)
  simp only [Int.toNat_natCast] at hr
  rw [hz1, Nat.mul_one] at hr
  have hrow : RowI (w.alloc (.cells (madeCells (Value.int .i64 0).cells n) 3)) w.heap.size n (fun _ => 0) := by
    refine ⟨_, heap_alloc_new w _, by rw [size_madeCells], fun j hj => ?_⟩
    have e : (madeCells (Value.int .i64 0).cells n).toList = List.replicate n (.int .i64 0) := toList_madeCells_one _ _
    rw [← Array.getElem?_toList, e]
    simp [hj]
  unfold Oper.wp
  simp [execOp, hop, hl, hc, hr, Result.andThen]
  exact hK' _ _ (hK _ hrow (below_new w _) (by simp))
end Go.Proofs.Ythojojjdamchpaa
