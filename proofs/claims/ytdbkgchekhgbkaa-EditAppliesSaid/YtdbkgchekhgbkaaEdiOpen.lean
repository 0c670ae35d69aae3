/-
  A slice of steps that comes in, opened.
-/
import Derived.Test.YtdbkgchekhgbkaaEdiLaw
import Derived.Deep.SlicePairs
import Derived.OpenShut
namespace Go.Proofs.Ytdbkgchekhgbkaa
open Go.RowKit Go.Shelf Go.ChangeShapes Go.WideShapes Go.Deep
set_option linter.unusedVariables false
set_option linter.unusedSimpArgs false

theorem open_ops {H : Type} {enc : TypeId × Value → H} {W : World} {sp : Nat → Bool} {hd : Bool} {A : Option Addr} {len cap : Nat} {d : DataW H} {p : List MemPlace} (h : DataW.Trod enc Try.prog W 0 sp hd 22 (.slice A len cap) d p) :
    ∃ l : List (Nat × Nat), l.length = len ∧ (∀ o, o ∈ l → o.2 < 256) ∧ RdO W A l ∧ len ≤ maxLen := by
  obtain ⟨fuel, hf⟩ := h
  rcases open_slice_pairs Try.underlying22 Try.underlying52 (by kernel_rfl) rfl rfl (by kernel_rfl) (by kernel_rfl) hf with ⟨hcs, _⟩ | ⟨a, l', c', m, n, V0, V1, D0, D1, P0, P1, hcs, _, hl, hmx, hm, _, hx⟩
  · simp [Value.cells] at hcs
    obtain ⟨rfl, rfl, rfl⟩ := hcs
    exact ⟨[], rfl, by simp, fun h => absurd h (by simp), by omega⟩
  · simp [Value.cells] at hcs
    obtain ⟨rfl, rfl, rfl⟩ := hcs
    have hle : len ≤ m := by rw [hm]; split <;> omega
    have hv : ∀ i, i < len → ∃ q : Nat × Nat, q.2 < 256 ∧ W.cell? (a.add (i * 2)) = some (.int .u8 q.1) ∧ W.cell? (a.add (i * 2 + 1)) = some (.int .u8 q.2) := by
      intro i hi
      obtain ⟨c0, c1, t0, t1⟩ := hx i (by omega)
      obtain ⟨x, hx0, _, wx⟩ := DataW.trod_int (t := 5) Try.underlying5 t0
      obtain ⟨y, hy0, _, wy⟩ := DataW.trod_int (t := 5) Try.underlying5 t1
      have ex := (List.cons.inj hx0).1
      have ey := (List.cons.inj hy0).1
      obtain ⟨x0, x1⟩ := bounds_u8 wx
      obtain ⟨y0, y1⟩ := bounds_u8 wy
      refine ⟨(x.toNat, y.toNat), by simp only; omega, ?_, ?_⟩
      · rw [c0, ex]; simp only; rw [Int.toNat_of_nonneg x0]
      · rw [c1, ey]; simp only; rw [Int.toNat_of_nonneg y0]
    obtain ⟨q, hq⟩ := choose_lt hv
    refine ⟨(List.range len).map q, by simp, ?_, ?_, by omega⟩
    · intro o ho
      obtain ⟨i, hi, rfl⟩ := List.mem_map.1 ho
      exact (hq i (List.mem_range.1 hi)).1
    · intro h0
      have h0 : 0 < len := by simpa using h0
      obtain ⟨b, off, spot⟩ := a
      have hspot : spot = none := by simpa [Addr.add] using World.cell?_spot (hq 0 h0).2.1
      subst hspot
      refine ⟨b, off, rfl, ?_, ?_⟩
      · have := (hq 0 h0).2.1
        rw [add_plain] at this
        exact lt_of_cell this
      · intro i hi
        have hi2 : i < len := by simpa using hi
        obtain ⟨_, e1, e2⟩ := hq i hi2
        rw [add_plain] at e1 e2
        simpa using And.intro e1 e2
end Go.Proofs.Ytdbkgchekhgbkaa
