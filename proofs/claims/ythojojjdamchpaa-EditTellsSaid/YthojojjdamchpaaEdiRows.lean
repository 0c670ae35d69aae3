/-
  The rows of distances: the iterator, and what it tells.
-/
import Derived.Test.YthojojjdamchpaaEdiTold
import Derived.Laws.MakeOwn
namespace Go.Proofs.Ythojojjdamchpaa
open Go.RowKit Go.Shelf
set_option linter.unusedVariables false
set_option linter.unusedSimpArgs false
attribute [local go_sem] Oper.semAt_some

theorem rows_any (a b : ByteArray) (c : Ed.Cst) (w : World) :
    Calls Try.prog 19 #[.string a, .string b, cstV c] w fun e w' => e = .returned (.func (.func 27) #[] #[.pointer (some ⟨w.heap.size + 1, 0, none⟩), .pointer (some ⟨w.heap.size, 0, none⟩), .pointer (some ⟨w.heap.size + 2, 0, none⟩)]) ∧
      Caps w' w.heap.size (w.heap.size + 1) (w.heap.size + 2) a b c ∧ Below w.heap.size w w' ∧ w'.heap.size = w.heap.size + 3 := by
  unfold cstV
  go_enter Try.func19, Try.ntmps19
  go_wp2
  go_ret
  refine ⟨rfl, ⟨?_, ?_, ?_, ?_, ?_, ?_⟩, ?_, ?_⟩
  iterate 6 go_simp
  · exact ((((Below.refl _ w).alloc (Nat.le_refl _) _).alloc (by simp) _).alloc (by simp <;> omega) _)
  · simp

/-- a row of numbers that fills its block -/
def RowI (W : World) (R n : Nat) (g : Nat → Int) : Prop := ∃ cs : Array Value, W.heap[R]? = some (.cells cs 3 (0, 0)) ∧ cs.size = n ∧ ∀ j, j < n → cs[j]? = some (.int .i64 (g j))
theorem RowI.cell {W : World} {R n : Nat} {g : Nat → Int} (h : RowI W R n g) (j : Nat) (hj : j < n) : W.cell? ⟨R, j, none⟩ = some (.int .i64 (g j)) := by
  obtain ⟨cs, h1, h2, h3⟩ := h
  rw [cell_of_row W R j cs _ _ h1]; exact h3 j hj
theorem RowI.frozen {W : World} {R n : Nat} {g : Nat → Int} (h : RowI W R n g) (j : Nat) : W.frozen? ⟨R, j, none⟩ = false := by
  obtain ⟨cs, h1, h2, h3⟩ := h
  exact blk_frozen h1 j
theorem RowI.keep {W W' : World} {R n : Nat} {g : Nat → Int} (h : RowI W R n g) (hk : ∀ o : Obj, o.isCells = true → W.heap[R]? = some o → W'.heap[R]? = some o) : RowI W' R n g := by
  obtain ⟨cs, h1, h2, h3⟩ := h
  exact ⟨cs, hk _ rfl h1, h2, h3⟩
theorem heap_set_other (W : World) (R j k : Nat) (v : Value) (h : k ≠ R) : (W.setCell ⟨R, j, none⟩ v).heap[k]? = W.heap[k]? := by
  simp [World.setCell, Array.getElem?_modify]; omega
theorem RowI.store {W : World} {R n : Nat} {g : Nat → Int} (h : RowI W R n g) (j : Nat) (v : Int) (hj : j < n) : RowI (W.setCell ⟨R, j, none⟩ (.int .i64 v)) R n (fun x => if x = j then v else g x) := by
  obtain ⟨cs, h1, h2, h3⟩ := h
  refine ⟨cs.setIfInBounds j (.int .i64 v), heap_setCell_same W R j cs _ _ h1, by simpa using h2, fun x hx => ?_⟩
  by_cases e : x = j
  · subst e; simp [h2, hx]
  · simp only [e, if_false]; rw [Array.getElem?_setIfInBounds_ne (by omega)]; exact h3 x hx
theorem RowI.lt {W : World} {R n : Nat} {g : Nat → Int} (h : RowI W R n g) : R < W.heap.size := by
  obtain ⟨cs, h1, _⟩ := h
  exact (Array.getElem?_eq_some_iff.1 h1).1

/-- 'make([]int, n)': the world is told exactly -/
theorem wpListIn_make_row {F : Fence} {m : Nat} (w : World) {ops : Array Oper} {rest : List Oper} {o : Oper} {a : Act} {Q : Exit → Act → World → Prop}
    (hg : o.guard = none) (l c : Operand) (hop : o.op = Op.makeSlice 58 l c) (n : Nat) (hl : a.eval l = .int .i64 (n : Int)) (hc : a.eval c = .int .i64 (n : Int)) (hn : n ≤ 100000)
    (hK : ∀ w', RowI w' w.heap.size n (fun _ => 0) → Below w.heap.size w w' → w'.heap.size = w.heap.size + 1 → wpListIn F m Try.prog ops Q rest (a.put o.dst (sl w.heap.size n)) w') :
    wpListIn F m Try.prog ops Q (o :: rest) a w := by
  refine wpListIn_plain hg fun K hK' => ?_
  obtain ⟨i, hi, hz0, hz1, hz2⟩ := info_parts infoInt
  have hr := run_make (P := Try.prog) w 58 3 i (.int .i64 0) Try.underlying58 hi hz0 .i64 .i64 (n : Int) (n : Int) (by omega) (Int.le_refl _) (by rw [hz2]; omega) (by omega)
  simp only [Int.toNat_natCast] at hr
  rw [hz1, Nat.mul_one] at hr
  have hrow : RowI (w.alloc (.cells (madeCells (Value.int .i64 0).cells n) 3)) w.heap.size n (fun _ => 0) := by
    refine ⟨_, heap_alloc_new w _, by rw [size_madeCells], fun j hj => ?_⟩
    have e : (madeCells (Value.int .i64 0).cells n).toList = List.replicate n (.int .i64 0) := toList_madeCells_one _ _
    rw [← Array.getElem?_toList, e]
    simp [hj]
  unfold Oper.wpIn
  refine ⟨?_, ?_⟩
  · simp [Oper.about, hop]
  · rw [Oper.semAt_plain F _ _ (by rw [hop]; intro c hc'; cases hc')]
    simp [execOp, hop, hl, hc, hr, Result.andThen]
    exact hK' _ _ (hK _ hrow (below_new w _) (by simp))
end Go.Proofs.Ythojojjdamchpaa
