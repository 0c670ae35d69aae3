/-
  What the walk of FoldSmall asks beside the contracts: two bytes, cells of two rows, a row more.
-/
import Derived.Test.YtoenaehkhdcdmaaDoorFolFolds
import Derived.ArgAppend
namespace Go.Proofs.YtoenaehkhdcdmaaDoor
open Go.RowKit
set_option linter.unusedVariables false
set_option linter.unusedSimpArgs false

theorem conv_two8 (W : World) (i : Nat) (hi : i < 65536) : ∃ S : ByteArray, S.size = 2 ∧ (convert 23 9 (.slice (some ⟨W.heap.size, 0, none⟩) 2 2)).run Tryd.prog (W.alloc (.cells #[.int .u8 ((i : Int) % 256), .int .u8 ((i : Int) / 256)] 5)) = .ok (.string S) (W.alloc (.cells #[.int .u8 ((i : Int) % 256), .int .u8 ((i : Int) / 256)] 5)) := by
  refine ⟨⟨[UInt8.ofNat (i % 256), UInt8.ofNat (i / 256)].toArray⟩, rfl, ?_⟩
  refine run_convert_bytes_back (P := Tryd.prog) _ 23 9 5 ⟨W.heap.size, 0, none⟩ 2 [UInt8.ofNat (i % 256), UInt8.ofNat (i / 256)] Tryd.underlying23 Tryd.underlying5 Tryd.underlying9 (fun j hj => ?_)
  have h : j = 0 ∨ j = 1 := by simp at hj; omega
  rcases h with rfl | rfl
  · show (W.alloc _).cell? ⟨W.heap.size, 0, none⟩ = some (.int .u8 ((UInt8.ofNat (i % 256)).toNat : Int))
    rw [show ((UInt8.ofNat (i % 256)).toNat : Int) = (i : Int) % 256 by rw [UInt8.toNat_ofNat']; omega]
    exact cell_of_row _ _ 0 _ _ _ (heap_alloc_new W _)
  · show (W.alloc _).cell? ⟨W.heap.size, 1, none⟩ = some (.int .u8 ((UInt8.ofNat (i / 256)).toNat : Int))
    rw [show ((UInt8.ofNat (i / 256)).toNat : Int) = (i : Int) / 256 by rw [UInt8.toNat_ofNat']; omega]
    exact cell_of_row _ _ 1 _ _ _ (heap_alloc_new W _)
/-- the words of two rows of a table -/
def Q4 (V : World) (g i k : Nat) (a b c d : ByteArray) : Prop :=
  V.cell? ⟨g, i * 3 + 1, none⟩ = some (.string a) ∧ V.cell? ⟨g, i * 3 + 2, none⟩ = some (.string b) ∧ V.cell? ⟨g, k * 3 + 1, none⟩ = some (.string c) ∧ V.cell? ⟨g, k * 3 + 2, none⟩ = some (.string d)
theorem Q4.below {V V' : World} {g i k : Nat} {a b c d : ByteArray} (h : Q4 V g i k a b c d) (hb : Below V.heap.size V V') : Q4 V' g i k a b c d :=
  ⟨cell_keep h.1 hb, cell_keep h.2.1 hb, cell_keep h.2.2.1 hb, cell_keep h.2.2.2 hb⟩
structure SmS (w wr : World) (g : Nat) : Prop where
  bel : Below w.heap.size w wr
  tab : wr.heap[g]? = some (.cells rowsCells.toArray 45 (0, 0))
  gw : w.heap.size ≤ g
theorem SmS.next {w wr V : World} {g : Nat} (h : SmS w wr g) (hb : Below wr.heap.size wr V) : SmS w V g :=
  ⟨below_next h.bel hb, (hb.block g (lt_of_heap h.tab)).trans h.tab, h.gw⟩
theorem SmS.quad {w wr : World} {g : Nat} (h : SmS w wr g) (i k : Nat) (hi : i < 40) (hk : k < 40) :
    Q4 wr g i k ⟨(rowAt i).2.1.toArray⟩ ⟨(rowAt i).2.2.toArray⟩ ⟨(rowAt k).2.1.toArray⟩ ⟨(rowAt k).2.2.toArray⟩ :=
  ⟨(tab_cells h.tab i hi).2.1, (tab_cells h.tab i hi).2.2, (tab_cells h.tab k hk).2.1, (tab_cells h.tab k hk).2.2⟩
theorem res_facts0 {w : World} {g : Nat} {t : TypeId} (h : w.heap[g]? = some (.cells rowsCells.toArray t (0, 0))) :
    (w.cell? ⟨g, 0, none⟩ = some (.int .u8 (rowAt 0).1) ∧ w.cell? ⟨g, 1, none⟩ = some (.string ⟨(rowAt 0).2.1.toArray⟩) ∧ w.cell? ⟨g, 2, none⟩ = some (.string ⟨(rowAt 0).2.2.toArray⟩)) ∧ w.frozen? ⟨g, 0, none⟩ = false ∧ w.frozen? ⟨g, 1, none⟩ = false ∧ w.frozen? ⟨g, 2, none⟩ = false :=
  ⟨by simpa using tab_cells h 0 (by omega), blk_frozen h 0, blk_frozen h 1, blk_frozen h 2⟩
theorem infoRow : (Tryd.prog.info? 30).map (fun i => (i.zero, i.size, i.bytes)) = some (some (.agg #[.int .u8 0, .string ⟨#[]⟩, .string ⟨#[]⟩]), 3, 40) := by kernel_rfl
theorem rowsLen : rowsCells.length = 120 := by decide
theorem wpList_app1r {ops : Array Oper} {rest : List Oper} {o : Oper} {a : Act} {Q : Exit → Act → World → Prop} (w : World) (hg : o.guard = none) (s x : Operand)
    (hop : o.op = .call { callee := .builtin .append, args := #[s, x], argTypes := #[25, 25] }) (g t : Nat) (hv : a.eval s = .slice (some ⟨g, 0, none⟩) 40 40)
    (hown : w.heap[g]? = some (.cells rowsCells.toArray t (0, 0))) (h : Nat) (x0 y0 z0 : Value) (hx : a.eval x = .slice (some ⟨h, 0, none⟩) 1 1) (hc : w.heap[h]? = some (.cells #[x0, y0, z0] 30 (0, 0)))
    (o0 : x0.oneCell' = true) (o1 : y0.oneCell' = true) (o2 : z0.oneCell' = true)
    (hK : ∀ g' c' w', 41 ≤ c' → Tab w' g' → w.grownBy w' none → wpList Tryd.prog ops Q rest (a.put o.dst (.slice (some ⟨g', 0, none⟩) 41 c')) w') :
    wpList Tryd.prog ops Q (o :: rest) a w := by
  obtain ⟨i0, hi, hz0, hz1, hz2⟩ := info_parts infoRow
  have add0 : ∀ (b j : Nat), (⟨b, 0, none⟩ : Addr).add j = ⟨b, j, none⟩ := fun b j => by unfold Addr.add; split <;> simp [*]
  refine wpList_append_grows w hg s x 25 hop 30 i0 _ 3 40 Tryd.underlying25 hi hz0 hz1 hz2 rfl (by decide) (some ⟨g, 0, none⟩) 40 40 rowsCells hv (fun h => by cases h) (by rw [rowsLen]) ?_
    ⟨h, 0, none⟩ 1 1 [x0, y0, z0] hx rfl ?_ ?_ (by decide) (by unfold maxLen; omega) (by omega) ?_
  · intro b hb j u hu
    obtain rfl := Option.some.inj hb
    rw [add0, cell_of_row _ _ j _ _ _ hown]
    simpa using hu
  · intro j u hu
    rw [add0, cell_of_row _ _ j _ _ _ hc]
    simpa using hu
  · intro u hu
    simp at hu
    rcases hu with rfl | rfl | rfl <;> assumption
  · intro v' w' h1 h2
    rcases h1.2 with ⟨hv, h4⟩ | ⟨g', cap, cur, rfl, h5, h6, h7⟩
    · omega
    · refine hK g' cap w' h7.1 ⟨lt_of_heap h6, fun k hk => ?_⟩ h2
      have f := flat_at Fo.T k _ (rowAt_get k hk)
      have hc' : ∀ j, j < 3 → w'.cell? ⟨g', k * 3 + j, none⟩ = (rowCells (rowAt k))[j]? := by
        intro j hj
        have hl : k * 3 + j < rowsCells.length := by rw [rowsLen]; omega
        rw [h1.cellAt (k * 3 + j) (by omega), List.getElem?_append_left hl]
        exact f j hj
      exact ⟨hc' 0 (by omega), hc' 1 (by omega), hc' 2 (by omega)⟩
end Go.Proofs.YtoenaehkhdcdmaaDoor
