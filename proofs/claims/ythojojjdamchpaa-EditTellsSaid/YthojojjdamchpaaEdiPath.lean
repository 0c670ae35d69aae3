/-
  Path: the table of all distances, and the walk of its range.
-/
import Derived.Test.YthojojjdamchpaaEdiDist
import Derived.Stop.RegionWithIn
namespace Go.Proofs.Ythojojjdamchpaa
open Go.RowKit Go.Shelf
set_option linter.unusedVariables false
set_option linter.unusedSimpArgs false
attribute [local go_sem] Oper.semAt_some

/-- blocks of cells stay, but for those from p to below q -/
structure KC (p q : Nat) (X Y : World) : Prop where
  size : X.heap.size ≤ Y.heap.size
  same : ∀ (k : Nat) (o : Obj), X.heap[k]? = some o → o.isCells = true → ¬ (p ≤ k ∧ k < q) → Y.heap[k]? = some o
theorem KC.of_chg {p q : Nat} {X Y : World} (h : Chg p q X Y) : KC p q X Y := ⟨h.size, fun k o ho _ hn => h.keep hn ho⟩
theorem KC.of_below {p q : Nat} {X Y : World} (h : Below X.heap.size X Y) : KC p q X Y := KC.of_chg (Chg.of_below h)
theorem KC.of_grown {p q N : Nat} {W W' : World} {row : Option Nat} (hg : W.grownBy W' row) (hr : ∀ r, row = some r → N ≤ r ∧ ∃ o : Obj, W.heap[r]? = some o ∧ o.isCells = false) : KC p q W W' :=
  ⟨hg.size, fun k o ho hc _ => (hg.block k (Array.getElem?_eq_some_iff.1 ho).1 (fun e => by
    obtain ⟨_, o', h1, h2⟩ := hr k e.symm
    rw [ho] at h1; cases h1; rw [hc] at h2; cases h2)).trans ho⟩
theorem KC.cell {p q b o : Nat} {X Y : World} {v : Value} (h : KC p q X Y) (hn : ¬ (p ≤ b ∧ b < q)) (hc : X.cell? ⟨b, o, none⟩ = some v) : Y.cell? ⟨b, o, none⟩ = some v := by
  obtain ⟨u, hu, hk⟩ := cells_of hc
  have e : Y.heap[b]? = X.heap[b]? := (h.same b u hu hk hn).trans hu.symm
  rw [← hc]; exact World.cell?_of_block e
/-- a slice that holds the row i of the distances -/
def Ent (c : Ed.Cst) (a b : ByteArray) (lo i : Nat) (v : Value) (W : World) : Prop := ∃ blk cap, v = .slice (some ⟨blk, 0, none⟩) (b.size + 1) cap ∧ lo ≤ blk ∧ ∀ j, j ≤ b.size → W.cell? ⟨blk, j, none⟩ = some (.int .i64 (Dv c a b i j))
/-- the table, when p rows are there -/
def DT (c : Ed.Cst) (a b : ByteArray) (lo Bd p : Nat) (W : World) : Prop :=
  ∃ cs : Array Value, W.heap[Bd]? = some (.cells cs 58 (0, 0)) ∧ cs.size = a.size + 1 ∧ ∀ i, i ≤ a.size → ∃ v, cs[i]? = some v ∧ (a.size < i + p → Ent c a b lo i v W) ∧ (i + p ≤ a.size → v = .slice none 0 0)
theorem Ent.kc {c : Ed.Cst} {a b : ByteArray} {lo i p q : Nat} {v : Value} {X Y : World} (h : Ent c a b lo i v X) (hk : KC p q X Y) (hq : q ≤ lo) : Ent c a b lo i v Y := by
  obtain ⟨blk, cap, h1, h2, h3⟩ := h
  exact ⟨blk, cap, h1, h2, fun j hj => hk.cell (by omega) (h3 j hj)⟩
theorem DT.kc {c : Ed.Cst} {a b : ByteArray} {lo Bd n p q : Nat} {X Y : World} (h : DT c a b lo Bd n X) (hk : KC p q X Y) (hq : q ≤ lo) (hB : ¬ (p ≤ Bd ∧ Bd < q)) : DT c a b lo Bd n Y := by
  obtain ⟨cs, h1, h2, h3⟩ := h
  refine ⟨cs, hk.same _ _ h1 rfl hB, h2, fun i hi => ?_⟩
  obtain ⟨v, h4, h5, h6⟩ := h3 i hi
  exact ⟨v, h4, fun h => (h5 h).kc hk hq, h6⟩
theorem DT.store {c : Ed.Cst} {a b : ByteArray} {lo Bd n i : Nat} {X : World} {v : Value} (h : DT c a b lo Bd n X) (hi : i + n = a.size) (hl : Bd < lo) (hv : Ent c a b lo i v X) : DT c a b lo Bd (n + 1) (X.setCell ⟨Bd, i, none⟩ v) := by
  obtain ⟨cs, h1, h2, h3⟩ := h
  have hkeep : ∀ i' u, Ent c a b lo i' u X → Ent c a b lo i' u (X.setCell ⟨Bd, i, none⟩ v) := by
    rintro i' u ⟨blk, cap, g1, g2, g3⟩
    exact ⟨blk, cap, g1, g2, fun j hj => set_cell_other (g3 j hj) (by omega)⟩
  refine ⟨cs.setIfInBounds i v, heap_setCell_same X Bd i cs _ _ h1, by simpa using h2, fun i' hi' => ?_⟩
  by_cases e : i' = i
  · subst e
    refine ⟨v, ?_, fun _ => hkeep _ _ hv, fun h => by omega⟩
    have hlt : i' < cs.size := by omega
    simp [hlt]
  · obtain ⟨u, h4, h5, h6⟩ := h3 i' hi'
    exact ⟨u, by rw [Array.getElem?_setIfInBounds_ne (by omega)]; exact h4, fun h => hkeep _ _ (h5 (by omega)), fun h => h6 (by omega)⟩
theorem DT.at {c : Ed.Cst} {a b : ByteArray} {lo Bd n i : Nat} {X : World} (h : DT c a b lo Bd n X) (hi : i + n = a.size) : X.cell? ⟨Bd, i, none⟩ = some (.slice none 0 0) ∧ X.frozen? ⟨Bd, i, none⟩ = false := by
  obtain ⟨cs, h1, h2, h3⟩ := h
  obtain ⟨v, h4, _, h6⟩ := h3 i (by omega)
  refine ⟨?_, blk_frozen h1 i⟩
  rw [cell_of_row X Bd i cs _ _ h1, h4, h6 (by omega)]
theorem DT.get {c : Ed.Cst} {a b : ByteArray} {lo Bd i : Nat} {X : World} (h : DT c a b lo Bd (a.size + 1) X) (hi : i ≤ a.size) : ∃ v, X.cell? ⟨Bd, i, none⟩ = some v ∧ Ent c a b lo i v X := by
  obtain ⟨cs, h1, h2, h3⟩ := h
  obtain ⟨v, h4, h5, _⟩ := h3 i hi
  exact ⟨v, by rw [cell_of_row X Bd i cs _ _ h1, h4], h5 (by omega)⟩
theorem infoInts : (Try.prog.info? 58).map (fun i => (i.zero, i.size, i.bytes)) = some (some (.slice none 0 0), 1, 24) := by kernel_rfl
/-- 'make([][]int, n)' -/
theorem wpListIn_make_tab {F : Fence} {m : Nat} (w : World) {ops : Array Oper} {rest : List Oper} {o : Oper} {a : Act} {Q : Exit → Act → World → Prop}
    (hg : o.guard = none) (l c : Operand) (hop : o.op = Op.makeSlice 59 l c) (n : Nat) (hl : a.eval l = .int .i64 (n : Int)) (hc : a.eval c = .int .i64 (n : Int)) (hn : n ≤ 100000)
    (hK : ∀ w', (∃ cs : Array Value, w'.heap[w.heap.size]? = some (.cells cs 58 (0, 0)) ∧ cs.size = n ∧ ∀ i, i < n → cs[i]? = some (.slice none 0 0)) → Below w.heap.size w w' → w'.heap.size = w.heap.size + 1 → wpListIn F m Try.prog ops Q rest (a.put o.dst (sl w.heap.size n)) w') :
    wpListIn F m Try.prog ops Q (o :: rest) a w := by
  refine wpListIn_plain hg fun K hK' => ?_
  obtain ⟨i, hi, hz0, hz1, hz2⟩ := info_parts infoInts
  have hr := run_make (P := Try.prog) w 59 58 i (.slice none 0 0) Try.underlying59 hi hz0 .i64 .i64 (n : Int) (n : Int) (by omega) (Int.le_refl _) (by rw [hz2]; omega) (by omega)
  simp only [Int.toNat_natCast] at hr
  rw [hz1, Nat.mul_one] at hr
  have hrow : ∃ cs : Array Value, (w.alloc (.cells (madeCells (Value.slice none 0 0).cells n) 58)).heap[w.heap.size]? = some (.cells cs 58 (0, 0)) ∧ cs.size = n ∧ ∀ i, i < n → cs[i]? = some (.slice none 0 0) := by
    refine ⟨_, heap_alloc_new w _, by rw [size_madeCells], fun j hj => ?_⟩
    have e : (madeCells (Value.slice none 0 0).cells n).toList = List.replicate n (.slice none 0 0) := toList_madeCells_one _ _
    rw [← Array.getElem?_toList, e]
    simp [hj]
  unfold Oper.wpIn
  refine ⟨?_, ?_⟩
  · simp [Oper.about, hop]
  · rw [Oper.semAt_plain F _ _ (by rw [hop]; intro c hc'; cases hc')]
    simp [execOp, hop, hl, hc, hr, Result.andThen]
    exact hK' _ _ (hK _ hrow (below_new w _) (by simp))
end Go.Proofs.Ythojojjdamchpaa
