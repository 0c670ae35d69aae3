/-
  Lists of texts in memory: read, searched, one more.
-/
import Derived.Test.YtoenaehkhdcdmaaDoorFolFirst
import Derived.Lib.SlicesS
namespace Go.Proofs.YtoenaehkhdcdmaaDoor
open Go.RowKit
set_option linter.unusedVariables false
set_option linter.unusedSimpArgs false

theorem own_keep {W W' : World} {B e size n : Nat} {v : Value} {xs : List Value} (h : W.ownsRow B e size v n xs) (hb : Below W.heap.size W W') : W'.ownsRow B e size v n xs :=
  h.kept (row := none) ⟨hb.os, hb.tape, hb.output, hb.size, fun k hk _ => hb.block k hk⟩ (Classical.em _)
/-- a slice that reads as the texts l -/
def RdS (w : World) (A : Option Addr) (l : List (List UInt8)) : Prop :=
  0 < l.length → ∃ b off, A = some ⟨b, off, none⟩ ∧ b < w.heap.size ∧ ∀ i, i < l.length → w.cell? ⟨b, off + i, none⟩ = some (.string ⟨(l.getD i []).toArray⟩)
theorem RdS.below {w w' : World} {A : Option Addr} {l : List (List UInt8)} (h : RdS w A l) (hb : Below w.heap.size w w') : RdS w' A l := by
  intro h0
  obtain ⟨b, off, e, hlt, hc⟩ := h h0
  exact ⟨b, off, e, by have := hb.size; omega, fun i hi => cell_keep (hc i hi) hb⟩
theorem Strs.rd {base : Nat} {w : World} {A : Option Addr} {n c : Nat} {l : List (List UInt8)} (h : Strs base w A n c l) : RdS w A l := by
  obtain ⟨hl, ho⟩ := h
  intro h0
  rcases ho.2 with ⟨hv, h2⟩ | ⟨g, cap, cur, hv, hb, hh, h3⟩
  · have : n = 0 := by injection hv
    omega
  · have hA : A = some ⟨g, 0, none⟩ := by injection hv
    subst hA
    refine ⟨g, 0, rfl, lt_of_heap hh, fun i hi => ?_⟩
    have hc := ho.cells (g := g) rfl i (strV (l.getD i [])) (by rw [List.getElem?_map, List.getElem?_eq_getElem hi, List.getD_eq_getElem?_getD, List.getElem?_eq_getElem hi]; rfl)
    have e : (⟨g, 0, none⟩ : Addr).add i = ⟨g, 0 + i, none⟩ := by unfold Addr.add; split <;> simp [*]
    rw [e] at hc; exact hc
theorem Strs.nil (base : Nat) (w : World) : Strs base w none 0 0 [] := ⟨rfl, World.ownsRow_nil _ _ _ _⟩
theorem Strs.below {base : Nat} {w w' : World} {A : Option Addr} {n c : Nat} {l : List (List UInt8)} (h : Strs base w A n c l) (hb : Below w.heap.size w w') : Strs base w' A n c l :=
  ⟨h.1, own_keep h.2 hb⟩
theorem Strs.mono {base base' : Nat} {w : World} {A : Option Addr} {n c : Nat} {l : List (List UInt8)} (h : Strs base w A n c l) (hb : base' ≤ base) : Strs base' w A n c l := by
  refine ⟨h.1, h.2.1, ?_⟩
  rcases h.2.2 with h | ⟨g, cap, cur, hv, h4, h5⟩
  · exact .inl h
  · exact .inr ⟨g, cap, cur, hv, by omega, h5⟩

set_option maxHeartbeats 1000000 in
theorem contains_any (A : Option Addr) (n c : Nat) (l : List (List UInt8)) (x : ByteArray) (w : World) (hl : l.length = n) (hn : n ≤ 9223372036854775807) (h : RdS w A l) :
    Calls Tryd.prog 42 #[.slice A n c, .string x] w fun e w' => e = .returned (.bool (l.contains x.data.toList)) ∧ w = w' := by
  rcases Nat.eq_zero_or_pos n with h0 | h0
  · have hnil : l = [] := List.eq_nil_of_length_eq_zero (by omega)
    subst hnil; subst h0
    refine (Tryd.slices_Contains_string_empty A c x w).mono ?_
    rintro e w' ⟨rfl, rfl⟩
    exact ⟨rfl, rfl⟩
  · obtain ⟨b, off, rfl, hlt, hc⟩ := h (by omega)
    refine (Tryd.slices_Contains_string b off n c (l.map fun z => ⟨z.toArray⟩) x w (by simp; omega) hn (fun j hj => ?_)).mono ?_
    · have hj' : j < l.length := by simpa using hj
      rw [hc j hj']
      simp [List.getD_eq_getElem?_getD, hj']
    · rintro e w' ⟨rfl, rfl⟩
      refine ⟨ret_bool ?_, rfl⟩
      rw [Bool.eq_iff_iff, List.contains_iff_mem]
      rw [Lib.containsS_iff, List.take_of_length_le (by simp; omega), List.mem_map]
      constructor
      · rintro ⟨z, hz, rfl⟩
        exact hz
      · intro hz
        exact ⟨_, hz, rfl⟩

theorem wpList_app1s {ops : Array Oper} {rest : List Oper} {o : Oper} {a : Act} {Q : Exit → Act → World → Prop} (w : World) (hg : o.guard = none) (s x : Operand)
    (hop : o.op = .call { callee := .builtin .append, args := #[s, x], argTypes := #[34, 34] }) (base n c : Nat) (A : Option Addr) (l : List (List UInt8)) (hv : a.eval s = .slice A n c)
    (hown : Strs base w A n c l) (g : Nat) (y : List UInt8) (Y : ByteArray) (hY : Y = ⟨y.toArray⟩) (hx : a.eval x = .slice (some ⟨g, 0, none⟩) 1 1) (hc : w.cell? ⟨g, 0, none⟩ = some (.string Y)) (hl : n + 1 ≤ 1000000000) (hb : base ≤ w.heap.size)
    (hK : ∀ A' n' c' w', n' = n + 1 → Strs base w' A' n' c' (l ++ [y]) → w.grownBy w' (Value.slice A n c).ownBlock → wpList Tryd.prog ops Q rest (a.put o.dst (.slice A' n' c')) w') :
    wpList Tryd.prog ops Q (o :: rest) a w := by
  obtain ⟨i0, hi, hz0, hz1, hz2⟩ := info_parts infoStr
  subst hY
  refine wpList_append_own _ hg _ _ 34 hop base 9 i0 (.string ⟨#[]⟩) 1 16 Tryd.underlying34 hi hz0 hz1 hz2 rfl (by decide) _ _ _ hv hown.2 ⟨g, 0, none⟩ 1 1 [strV y] hx rfl ?_ ?_ ?_ ?_ hb ?_
  · intro j u hj
    match j, hj with
    | 0, hj => simp at hj; subst hj; simpa [Addr.add, strV] using hc
  · intro u hu; simp at hu; subst hu; rfl
  · unfold maxLen; omega
  · omega
  · intro v' w' h1 h2 _
    have hl1 := hown.1
    rcases h1.2 with ⟨rfl, h4⟩ | ⟨g', cap, cur, rfl, h5, h6, h7⟩
    · omega
    · exact hK _ _ cap w' rfl ⟨by simp [hl1], by rw [List.map_append]; exact h1⟩ h2
end Go.Proofs.YtoenaehkhdcdmaaDoor
