/-
  What is kept along a law whose costs are boxed.
-/
import Derived.Test.YthojojjdamchpaaEdiAwake
import Derived.Test.YthojojjdamchpaaEdiPlain3
namespace Go.Proofs.Ythojojjdamchpaa
open Go.RowKit Go.Shelf
set_option linter.unusedVariables false
set_option linter.unusedSimpArgs false

theorem run_max4b (a b c d : Int) : ∃ m, (∀ W, (Builtin.max_ #[3, 3, 3, 3] 3 #[.int .i64 a, .int .i64 b, .int .i64 c, .int .i64 d]).run Try.prog W = .ok (.int .i64 m) W) ∧ (m ≤ 30 ↔ a ≤ 30 ∧ b ≤ 30 ∧ c ≤ 30 ∧ d ≤ 30) := by
  refine ⟨mx2 (mx2 (mx2 a b) c) d, fun W => rfl, ?_⟩
  unfold mx2; repeat' split
  all_goals omega
/-- Distance, where nothing is wrong -/
theorem dist_in {c : Ed.Cst} (hc : c.ok) (a b : ByteArray) (ha : a.size ≤ 60) (hb : b.size ≤ 60) {n : Int} (hn : Ed.D c (tx a) (tx b) = n) (V : World) :
    Calls Try.prog 8 #[.string a, .string b, cstV c] V fun e w' => e = .returned (.tuple #[.int .i64 n, .int .i64 0]) ∧ Below V.heap.size V w' := by
  have he : errOf c a b = 0 := by unfold errOf; rw [if_pos hc, if_neg (by omega)]
  refine (distance_any c a b V).mono ?_
  rintro e w' ⟨rfl, h⟩
  refine ⟨?_, h⟩
  unfold distOf
  rw [if_pos he, hn, he]
theorem tx_cat (a b : ByteArray) : tx (a ++ b) = tx a ++ tx b := by simp [tx]
theorem cat_size (a b : ByteArray) : (a ++ b).size = a.size + b.size := ByteArray.size_append
theorem tx_inj {a b : ByteArray} (h : tx a = tx b) : a = b := by
  apply ByteArray.ext; apply Array.ext'
  exact h
theorem dbound {c : Ed.Cst} (hc : c.ok) (a b : ByteArray) (ha : a.size ≤ 60) (hb : b.size ≤ 60) : 0 ≤ Ed.D c (tx a) (tx b) ∧ Ed.D c (tx a) (tx b) ≤ 120000 := dv_bound hc a b ha hb 0 0
/-- the box of the costs -/
theorem cbox (w : World) (c : Ed.Cst) : ∃ W, W = w.alloc (.cells #[.int .i64 c.ins, .int .i64 c.del, .int .i64 c.chg, .int .i64 c.swp] 23) ∧ Below w.heap.size w W ∧ w.heap.size < W.heap.size ∧ (W.cell? ⟨w.heap.size, 0, none⟩ = some (.int .i64 c.ins) ∧ W.cell? ⟨w.heap.size, 1, none⟩ = some (.int .i64 c.del) ∧ W.cell? ⟨w.heap.size, 2, none⟩ = some (.int .i64 c.chg) ∧ W.cell? ⟨w.heap.size, 3, none⟩ = some (.int .i64 c.swp)) :=
  ⟨_, rfl, below_new w _, by simp, box4 (heap_alloc_new w _)⟩
/-- the costs' cells -/
def CB (W : World) (q : Nat) (c : Ed.Cst) : Prop := W.cell? ⟨q, 0, none⟩ = some (.int .i64 c.ins) ∧ W.cell? ⟨q, 1, none⟩ = some (.int .i64 c.del) ∧ W.cell? ⟨q, 2, none⟩ = some (.int .i64 c.chg) ∧ W.cell? ⟨q, 3, none⟩ = some (.int .i64 c.swp)
theorem CB.below {W W' : World} {q : Nat} {c : Ed.Cst} (h : CB W q c) (hb : Below W.heap.size W W') : CB W' q c :=
  ⟨cell_keep h.1 hb, cell_keep h.2.1 hb, cell_keep h.2.2.1 hb, cell_keep h.2.2.2 hb⟩
/-- what is kept along a law -/
structure LS (w W : World) (q : Nat) (c : Ed.Cst) : Prop where
  bel : Below w.heap.size w W
  cb : CB W q c
theorem LS.next {w W W' : World} {q : Nat} {c : Ed.Cst} (h : LS w W q c) (hb : Below W.heap.size W W') : LS w W' q c := ⟨h.bel.trans (hb.mono h.bel.size), h.cb.below hb⟩
end Go.Proofs.Ythojojjdamchpaa
