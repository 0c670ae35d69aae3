/-
  Lists of texts in memory: read, one more.
-/
import Derived.Test.YtcponhdeffnndaaGreatDoorTokIdx
import Derived.Laws.Rows
import Derived.Lib.SlicesS
namespace Go.Proofs.YtcponhdeffnndaaGreatDoor
open Go.RowKit
set_option linter.unusedVariables false
set_option linter.unusedSimpArgs false

theorem below_new (w : World) (o : Obj) : Below w.heap.size w (w.alloc o) := (Below.refl _ w).alloc (Nat.le_refl _) o
theorem row_new (w : World) (a : Nat) (X Y : ByteArray) : (w.alloc (.cells #[.int .u8 a, .string X, .string Y] 143)).cell? ⟨w.heap.size, 0, none⟩ = some (.int .u8 a) ∧
    (w.alloc (.cells #[.int .u8 a, .string X, .string Y] 143)).cell? ⟨w.heap.size, 1, none⟩ = some (.string X) ∧ (w.alloc (.cells #[.int .u8 a, .string X, .string Y] 143)).cell? ⟨w.heap.size, 2, none⟩ = some (.string Y) := by
  refine ⟨?_, ?_, ?_⟩ <;> go_simp
theorem blk_frozen {w : World} {g : Nat} {cs : Array Value} {t : TypeId} (h : w.heap[g]? = some (.cells cs t (0, 0))) (i : Nat) : w.frozen? ⟨g, i, none⟩ = false := by
  simp [World.frozen?, h]
theorem T_len : Fo.T.length = 40 := by decide
theorem drop_T (k : Nat) (h : k < 40) : Fo.T.drop k = rowAt k :: Fo.T.drop (k + 1) := by
  have hl := T_len
  rw [List.drop_eq_getElem_cons (by omega)]
  congr 1
  have := rowAt_get k h
  rw [List.getElem?_eq_getElem (by omega)] at this
  exact Option.some.inj this
theorem own_keep {W W' : World} {B e size n : Nat} {v : Value} {xs : List Value} (h : W.ownsRow B e size v n xs) (hb : Below W.heap.size W W') : W'.ownsRow B e size v n xs :=
  h.kept (row := none) ⟨hb.os, hb.tape, hb.output, hb.size, fun k hk _ => hb.block k hk⟩ (Classical.em _)
/-- a slice that reads as the texts l -/
def RdS (w : World) (A : Option Addr) (l : List (List UInt8)) : Prop :=
  0 < l.length → ∃ b off, A = some ⟨b, off, none⟩ ∧ b < w.heap.size ∧ ∀ i, i < l.length → w.cell? ⟨b, off + i, none⟩ = some (.string ⟨(l.getD i []).toArray⟩)
theorem RdS.below {w w' : World} {A : Option Addr} {l : List (List UInt8)} (h : RdS w A l) (hb : Below w.heap.size w w') : RdS w' A l := by
  intro h0
  obtain ⟨b, off, e, hlt, hc⟩ := h h0
  exact ⟨b, off, e, by have := hb.size; omega, fun i hi => cell_keep (hc i hi) hb⟩
theorem Strs.rd {base : Nat} {w : World} {A : Option Addr} {n c : Nat} {l : List (List UInt8)} (h : Strs base w A n c l) : RdS w A l := by
  obtain ⟨hl, ho⟩ := h
  intro h0
  rcases ho.2 with ⟨hv, h2⟩ | ⟨g, cap, cur, hv, hb, hh, h3⟩
  · have : n = 0 := by injection hv
    omega
  · have hA : A = some ⟨g, 0, none⟩ := by injection hv
    subst hA
    refine ⟨g, 0, rfl, lt_of_heap hh, fun i hi => ?_⟩
    have hc := ho.cells (g := g) rfl i (strV (l.getD i [])) (by rw [List.getElem?_map, List.getElem?_eq_getElem hi, List.getD_eq_getElem?_getD, List.getElem?_eq_getElem hi]; rfl)
    have e : (⟨g, 0, none⟩ : Addr).add i = ⟨g, 0 + i, none⟩ := by unfold Addr.add; split <;> simp [*]
    rw [e] at hc; exact hc
theorem Strs.nil (base : Nat) (w : World) : Strs base w none 0 0 [] := ⟨rfl, World.ownsRow_nil _ _ _ _⟩
theorem Strs.below {base : Nat} {w w' : World} {A : Option Addr} {n c : Nat} {l : List (List UInt8)} (h : Strs base w A n c l) (hb : Below w.heap.size w w') : Strs base w' A n c l :=
  ⟨h.1, own_keep h.2 hb⟩
theorem Strs.mono {base base' : Nat} {w : World} {A : Option Addr} {n c : Nat} {l : List (List UInt8)} (h : Strs base w A n c l) (hb : base' ≤ base) : Strs base' w A n c l := by
  refine ⟨h.1, h.2.1, ?_⟩
  rcases h.2.2 with h | ⟨g, cap, cur, hv, h4, h5⟩
  · exact .inl h
  · exact .inr ⟨g, cap, cur, hv, by omega, h5⟩
theorem wpList_app1s {ops : Array Oper} {rest : List Oper} {o : Oper} {a : Act} {Q : Exit → Act → World → Prop} (w : World) (hg : o.guard = none) (s x : Operand)
    (hop : o.op = .call { callee := .builtin .append, args := #[s, x], argTypes := #[23, 23] }) (base n c : Nat) (A : Option Addr) (l : List (List UInt8)) (hv : a.eval s = .slice A n c)
    (hown : Strs base w A n c l) (g : Nat) (y : List UInt8) (Y : ByteArray) (hY : Y = ⟨y.toArray⟩) (hx : a.eval x = .slice (some ⟨g, 0, none⟩) 1 1) (hc : w.cell? ⟨g, 0, none⟩ = some (.string Y)) (hl : n + 1 ≤ 1000000000) (hb : base ≤ w.heap.size)
    (hK : ∀ A' n' c' w', n' = n + 1 → Strs base w' A' n' c' (l ++ [y]) → w.grownBy w' (Value.slice A n c).ownBlock → wpList Tryz.prog ops Q rest (a.put o.dst (.slice A' n' c')) w') :
    wpList Tryz.prog ops Q (o :: rest) a w := by
  obtain ⟨i0, hi, hz0, hz1, hz2⟩ := info_parts infoStr
  subst hY
  refine wpList_append_own _ hg _ _ 23 hop base 9 i0 (.string ⟨#[]⟩) 1 16 Tryz.underlying23 hi hz0 hz1 hz2 rfl (by decide) _ _ _ hv hown.2 ⟨g, 0, none⟩ 1 1 [strV y] hx rfl ?_ ?_ ?_ ?_ hb ?_
  · intro j u hj
    match j, hj with
    | 0, hj => simp at hj; subst hj; simpa [Addr.add, strV] using hc
  · intro u hu; simp at hu; subst hu; rfl
  · unfold maxLen; omega
  · omega
  · intro v' w' h1 h2 _
    have hl1 := hown.1
    rcases h1.2 with ⟨rfl, h4⟩ | ⟨g', cap, cur, rfl, h5, h6, h7⟩
    · omega
    · exact hK _ _ cap w' rfl ⟨by simp [hl1], by rw [List.map_append]; exact h1⟩ h2
theorem sel_cons {α : Type} [BEq α] (f : Fo.Row → α) (p : Fo.Row → Bool) (r : Fo.Row) (l : List Fo.Row) (acc : List α) : Fo.sel f p (r :: l) acc = Fo.sel f p l (Fo.more acc (f r) (p r)) := rfl
end Go.Proofs.YtcponhdeffnndaaGreatDoor
