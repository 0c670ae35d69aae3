/-
  Rows of numbers as digits; the reference's chances.
-/
import Derived.Test.YtgbifcfdbelfpaaStaRef3
namespace Go.Proofs.Ytgbifcfdbelfpaa
open Go.RowKit
set_option linter.unusedVariables false

theorem infoSl : (Try.prog.info? 24).map (fun i => (i.zero, i.size, i.bytes)) = some (some (.slice none 0 0), 1, 24) := by kernel_rfl
/-- a row of n numbers f, each of at most L digits -/
def Tab (w : World) (base : Nat) (v : Value) (n : Nat) (f : Nat → Int) (L : Nat) : Prop :=
  ∃ vs : List Value, vs.length = n ∧ w.ownsRow base 24 1 v n vs ∧ ∀ k, k < n → NumD w (vs.getD k undef) L (f k)
theorem Tab.nil (w : World) (base : Nat) (f : Nat → Int) (L : Nat) : Tab w base (.slice none 0 0) 0 f L := ⟨[], rfl, World.ownsRow_nil _ _ _ _, fun k hk => by omega⟩
theorem Tab.below {w w1 : World} {base : Nat} {v : Value} {n : Nat} {f : Nat → Int} {L : Nat} (h : Tab w base v n f L) (hb : Below w.heap.size w w1) : Tab w1 base v n f L := by
  obtain ⟨vs, h1, h2, h3⟩ := h
  refine ⟨vs, h1, ⟨h2.1, ?_⟩, fun k hk => (h3 k hk).below hb⟩
  rcases h2.2 with h4 | ⟨g, cap, cur, h4, h5, h6, h7⟩
  · exact .inl h4
  · exact .inr ⟨g, cap, cur, h4, h5, (hb.block g (lt_of_block h6)).trans h6, h7⟩
theorem Tab.mono {w : World} {base : Nat} {v : Value} {n : Nat} {f : Nat → Int} {L M : Nat} (h : Tab w base v n f L) (hm : L ≤ M) : Tab w base v n f M := by
  obtain ⟨vs, h1, h2, h3⟩ := h
  exact ⟨vs, h1, h2, fun k hk => (h3 k hk).mono hm⟩
theorem Tab.at {w : World} {base : Nat} {v : Value} {n : Nat} {f : Nat → Int} {L : Nat} (h : Tab w base v n f L) (k : Nat) (hk : v.ownBlock = some k) : base ≤ k := by
  obtain ⟨vs, h1, h2, h3⟩ := h
  rcases h2.2 with ⟨rfl, -⟩ | ⟨g, cap, cur, rfl, h4, h5, h6⟩
  · cases hk
  · cases hk; exact h4
theorem Tab.cell {w : World} {base : Nat} {v : Value} {n : Nat} {f : Nat → Int} {L : Nat} (h : Tab w base v n f L) (k : Nat) (hk : k < n) :
    ∃ g cap A c l, v = .slice (some ⟨g, 0, none⟩) n cap ∧ g < w.heap.size ∧ w.cell? ⟨g, k, none⟩ = some (.slice A l c) ∧ NumD w (.slice A l c) L (f k) := by
  obtain ⟨vs, h1, h2, h3⟩ := h
  rcases h2.2 with ⟨-, h4⟩ | ⟨g, cap, cur, h4, h5, h6, h7, h8, h9, h10⟩
  · omega
  · obtain ⟨A, c, l, e, r⟩ := h3 k hk
    refine ⟨g, cap, A, c, l.length, h4, lt_of_block h6, ?_, by rw [← e]; exact h3 k hk⟩
    have hc := cell_of_row w g k cur 24 (0, 0) h6
    rw [hc]
    have e2 : vs[k]? = cur[k]? := by
      rw [← h10, List.getElem?_take, if_pos (by omega), Array.getElem?_toList]
    rw [← e2, ← e, List.getD_eq_getElem?_getD, List.getElem?_eq_getElem (by omega)]
    rfl
/-- one number more behind a row of one's own -/
theorem wpList_appT {ops : Array Oper} {rest : List Oper} {o : Oper} {a : Act} {Q : Exit → Act → World → Prop} (w : World) (hg : o.guard = none) (s x : Operand)
    (hop : o.op = .call { callee := .builtin .append, args := #[s, x], argTypes := #[26, 26] }) (base : Nat) (v : Value) (n : Nat) (f : Nat → Int) (L : Nat) (hv : a.eval s = v) (ho : Tab w base v n f L) (y : Value) (hy : NumD w y L (f n))
    (hx : a.eval x = .slice (some ⟨w.heap.size, 0, none⟩) 1 1) (hl : n ≤ 100000) (hb : base ≤ w.heap.size)
    (hK : ∀ v' w', Tab w' base v' (n + 1) f L → Below base w w' → wpList Try.prog ops Q rest (a.put o.dst v') w') :
    wpList Try.prog ops Q (o :: rest) a (w.alloc (.cells #[y] 24)) := by
  obtain ⟨i0, hi, hz0, hz1, hz2⟩ := info_parts infoSl
  obtain ⟨vs, h1, h2, h3⟩ := ho
  have hBl : Below w.heap.size w (w.alloc (.cells #[y] 24)) := (Below.refl _ w).alloc (Nat.le_refl _) _
  have hsl : y.oneCell' = true := by
    obtain ⟨A, c, l, rfl, -⟩ := hy
    rfl
  refine wpList_append_own _ hg _ _ 26 hop base 24 i0 (.slice none 0 0) 1 24 Try.underlying26 hi hz0 hz1 hz2 rfl (by decide) _ _ _ hv (World.ownsRow.alloc h2 _) ⟨w.heap.size, 0, none⟩ 1 1 [y] hx rfl (cell_one_new _ _ _) ?_ ?_ ?_ ?_ ?_
  · intro u hu; simp at hu; subst hu; exact hsl
  · unfold maxLen; omega
  · omega
  · simp; omega
  · intro v' w' g1 g2 _
    have hT : ∀ k, v.ownBlock = some k → base ≤ k := fun k hk => Tab.at ⟨vs, h1, h2, h3⟩ k hk
    have hkp : ∀ u z, NumD w u L z → NumD w' u L z := by
      intro u z hu
      have hu2 := hu.below hBl
      rcases h2.2 with ⟨rfl, -⟩ | ⟨g, cap, cur, rfl, h5, h6, -⟩
      · obtain ⟨A, c, l, e1, e2, e3⟩ := hu2
        refine ⟨A, c, l, e1, ?_, e3⟩
        rcases e2 with e2 | ⟨g, s, e4, e5⟩
        · exact .inl e2
        · exact .inr ⟨g, s, e4, e5.kept g2 (by rintro ⟨⟩)⟩
      · exact hu2.kept g2 ((hBl.block g (lt_of_block h6)).trans h6) (by decide)
    refine hK v' w' ⟨vs ++ [y], by simp [h1], g1, fun k hk => ?_⟩ ?_
    · by_cases e : k < n
      · rw [List.getD_eq_getElem?_getD, List.getElem?_append_left (by omega), ← List.getD_eq_getElem?_getD]
        exact hkp _ _ (h3 k e)
      · obtain rfl : k = n := by omega
        rw [List.getD_eq_getElem?_getD, List.getElem?_append_right (by omega)]
        simp only [h1, Nat.sub_self, List.getElem?_cons_zero, Option.getD_some]
        exact hkp _ _ hy
    · exact ((Below.refl base w).alloc hb _).grown g2 (by simp; omega) hT
/-- the literal of one row that holds 1 -/
theorem Tab.one (w : World) (f : Nat → Int) (hf : f 0 = 1) : Tab ((w.alloc (.cells #[.int .i64 1] 3)).alloc (.cells #[.slice (some ⟨w.heap.size, 0, none⟩) 1 1] 24)) w.heap.size (.slice (some ⟨w.heap.size + 1, 0, none⟩) 1 1) 1 f 1 := by
  have hB : IBlk (w.alloc (.cells #[.int .i64 1] 3)) w.heap.size [] [1] [] := heap_alloc_new w _
  have hB2 := hB.alloc (.cells #[.slice (some ⟨w.heap.size, 0, none⟩) 1 1] 24)
  have hs : (w.alloc (.cells #[.int .i64 1] 3)).heap.size = w.heap.size + 1 := by simp
  have hN := heap_alloc_new (w.alloc (.cells #[.int .i64 1] 3)) (.cells #[.slice (some ⟨w.heap.size, 0, none⟩) 1 1] 24)
  rw [hs] at hN
  refine ⟨[.slice (some ⟨w.heap.size, 0, none⟩) 1 1], rfl, ⟨rfl, .inr ⟨w.heap.size + 1, 1, _, rfl, by omega, hN, by omega, by unfold maxLen; omega, rfl, rfl⟩⟩, fun k hk => ?_⟩
  obtain rfl : k = 0 := by omega
  rw [hf]
  refine ⟨_, 1, [1], rfl, .inr ⟨_, [], rfl, hB2⟩, ?_, by simp, by simp [Nd.V], by simp, by omega⟩
  exact Nd.Dg.cons.2 ⟨by omega, Nd.Dg.nil⟩

end Go.Proofs.Ytgbifcfdbelfpaa
