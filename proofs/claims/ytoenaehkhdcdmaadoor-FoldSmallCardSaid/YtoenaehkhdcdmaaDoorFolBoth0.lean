/-
  The rows in memory; what the law says of each row, for the walk of FoldBoth.
-/
import Derived.Test.YtoenaehkhdcdmaaDoorFolTable
namespace Go.Proofs.YtoenaehkhdcdmaaDoor
open Go.RowKit
set_option linter.unusedVariables false
set_option linter.unusedSimpArgs false

theorem flat_at : ∀ (l : List Fo.Row) (k : Nat) (r : Fo.Row), l[k]? = some r → ∀ j, j < 3 → (l.flatMap rowCells)[k * 3 + j]? = (rowCells r)[j]?
  | [], k, r, h, _, _ => by simp at h
  | x :: l, 0, r, h, j, hj => by
    simp at h; subst h
    have hl : (rowCells x).length = 3 := rfl
    rw [List.flatMap_cons, Nat.zero_mul, Nat.zero_add, List.getElem?_append_left (by rw [hl]; exact hj)]
  | x :: l, k + 1, r, h, j, hj => by
    have ih := flat_at l k r (by simpa using h) j hj
    have hl : (rowCells x).length = 3 := rfl
    rw [List.flatMap_cons, List.getElem?_append_right (by rw [hl]; omega), hl, ← ih]
    congr 1; omega
theorem tab_cells {w : World} {g t : Nat} {fr : Nat × Nat} (h : w.heap[g]? = some (.cells rowsCells.toArray t fr)) (k : Nat) (hk : k < 40) :
    w.cell? ⟨g, k * 3, none⟩ = some (.int .u8 (rowAt k).1) ∧ w.cell? ⟨g, k * 3 + 1, none⟩ = some (.string ⟨(rowAt k).2.1.toArray⟩) ∧ w.cell? ⟨g, k * 3 + 2, none⟩ = some (.string ⟨(rowAt k).2.2.toArray⟩) := by
  have hr := rowAt_get k hk
  have f := flat_at Fo.T k _ hr
  refine ⟨?_, ?_, ?_⟩
  · have := cell_of_row _ _ (k * 3) _ t fr h
    rw [this]
    have h0 := f 0 (by omega)
    simpa [rowsCells, rowCells] using h0
  · have := cell_of_row _ _ (k * 3 + 1) _ t fr h
    rw [this]
    have h0 := f 1 (by omega)
    simpa [rowsCells, rowCells, strV] using h0
  · have := cell_of_row _ _ (k * 3 + 2) _ t fr h
    rw [this]
    have h0 := f 2 (by omega)
    simpa [rowsCells, rowCells, strV] using h0
theorem rowAt_mem (k : Nat) (h : k < 40) : rowAt k ∈ Fo.T := List.mem_of_getElem? (rowAt_get k h)
/-- a boxed row -/
def Box3 (V : World) (g a : Nat) (x y : ByteArray) : Prop := V.cell? ⟨g, 0, none⟩ = some (.int .u8 a) ∧ V.cell? ⟨g, 1, none⟩ = some (.string x) ∧ V.cell? ⟨g, 2, none⟩ = some (.string y)
theorem Box3.below {V V' : World} {g a : Nat} {x y : ByteArray} (h : Box3 V g a x y) (hb : Below V.heap.size V V') : Box3 V' g a x y := ⟨cell_keep h.1 hb, cell_keep h.2.1 hb, cell_keep h.2.2 hb⟩
theorem Box3.drew {V : World} {g a : Nat} {x y : ByteArray} (h : Box3 V g a x y) : Box3 V.drew g a x y := h
/-- the facts of one row, as the walk's contracts ask them -/
theorem rowOK_of {x : Nat} {lx ly : List UInt8} (h : rowOK (x, lx, ly) = true) :
    (Fo.longs x ly).contains lx = true ∧ (Fo.longs x lx).contains lx = true ∧ (Fo.longs 0 ly).contains lx = true ∧ Fo.same x lx ly = true ∧ Fo.same 0 ly lx = true ∧
    Fo.kinds lx / 2 ^ x % 2 = 1 ∧ Fo.kinds ly / 2 ^ x % 2 = 1 ∧ (Fo.fold lx == lx) = true ∧ (Fo.fold ly == ly) = true ∧ lx.length ≤ 100 ∧ ly.length ≤ 100 := by
  unfold rowOK at h
  simp only [Bool.and_eq_true, beq_iff_eq, decide_eq_true_eq] at h
  obtain ⟨⟨⟨⟨⟨⟨⟨⟨⟨⟨h1, h2⟩, h3⟩, h4⟩, h5⟩, h6⟩, h7⟩, h8⟩, h9⟩, h10⟩, h11⟩ := h
  exact ⟨h1, h2, h3, h4, h5, h6, h7, beq_iff_eq.2 h8, beq_iff_eq.2 h9, h10, h11⟩
/-- Longs with what has is asked of its list -/
def PostHas (x : ByteArray) (w : World) (e : Ending) (w' : World) : Prop :=
  ∃ A n c, e = .returned (.slice A n c) ∧ Below w.heap.size w w' ∧ Calls Tryd.prog 21 #[.slice A n c, .string x] w' fun e w'' => e = .returned (.bool true) ∧ w' = w''
theorem longsHas_any (k : Nat) (z x : ByteArray) (w : World) (hw : Rdy w) (h : (Fo.longs k z.data.toList).contains x.data.toList = true) :
    Calls Tryd.prog 22 #[.int .u8 k, .string z] w (PostHas x w) := by
  refine (longs_any k z w hw).mono ?_
  rintro e w' ⟨A, n, c, rfl, hs, hb⟩
  have hq := has_any A n c _ x w' hs.len (hs.le (longs_len _ _)) hs.rd
  rw [h] at hq
  exact ⟨A, n, c, rfl, hb, hq⟩
theorem par_fact (n x : Nat) (h : n / 2 ^ x % 2 = 1) : ((((n : Int) / 2 ^ x).tmod 2) != 1) = false := by
  have e : (n : Int) / 2 ^ x = ((n / 2 ^ x : Nat) : Int) := by simp
  rw [e, bne_eq_false_iff_eq]
  generalize n / 2 ^ x = m at *
  rw [show (2 : Int) = ((2 : Nat) : Int) from rfl, ← Int.ofNat_tmod, h]; rfl
theorem kinds_le (z : List UInt8) : Fo.kinds z ≤ 62 := by
  have := Fo.upTo_le z 5
  rw [Fo.kinds_upTo]; omega
structure BothS (w wr : World) (g : Nat) : Prop where
  bel : Below w.heap.size w wr
  tab : wr.heap[g]? = some (.cells rowsCells.toArray 45 (0, 0))
end Go.Proofs.YtoenaehkhdcdmaaDoor
