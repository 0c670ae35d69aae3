/-
  Numbers in memory: lists of one's own, one more, a list more.
-/
import Derived.Test.YtioncjnjhmnlaaaLexAt
import Derived.Maps.AppendAt
import Derived.Laws.OwnMore
namespace Go.Proofs.Ytioncjnjhmnlaaa
open Go.RowKit Lx
set_option linter.unusedVariables false
set_option linter.unusedSimpArgs false

theorem add_at (g j : Nat) : (⟨g, 0, none⟩ : Addr).add j = ⟨g, j, none⟩ := by unfold Addr.add; split <;> simp [*]
/-- numbers of one's own: nil, or a block -/
def OwnI (w : World) (base : Nat) (v : Value) (l : List Int) : Prop := w.ownsRow base 3 1 v l.length (l.map (Value.int .i64))
theorem OwnI.nil (w : World) (base : Nat) : OwnI w base (.slice none 0 0) [] := World.ownsRow_nil _ _ _ _
theorem OwnI.of {w : World} {base : Nat} {v : Value} {l : List Int} {n : Nat} (h : w.ownsRow base 3 1 v n (l.map (Value.int .i64))) : OwnI w base v l := by
  have hl := h.1
  simp at hl
  unfold OwnI
  rw [hl]
  exact h
theorem OwnI.keep {w w1 : World} {base : Nat} {v : Value} {l : List Int} (h : OwnI w base v l) (hk : ∀ k o, v.ownBlock = some k → w.heap[k]? = some o → w1.heap[k]? = some o) : OwnI w1 base v l := by
  refine ⟨h.1, ?_⟩
  rcases h.2 with h2 | ⟨g, cap, cur, h3, h4, h5, h6⟩
  · exact .inl h2
  · exact .inr ⟨g, cap, cur, h3, h4, hk _ _ (by rw [h3]; rfl) h5, h6⟩
theorem OwnI.below {w w1 : World} {base : Nat} {v : Value} {l : List Int} (h : OwnI w base v l) (hb : Below w.heap.size w w1) : OwnI w1 base v l :=
  h.keep fun k o _ ho => heap_keep ho hb
theorem OwnI.mono {w : World} {base b2 : Nat} {v : Value} {l : List Int} (h : OwnI w base v l) (hb : b2 ≤ base) : OwnI w b2 v l := by
  refine ⟨h.1, ?_⟩
  rcases h.2 with h2 | ⟨g, cap, cur, h3, h4, h5⟩
  · exact .inl h2
  · exact .inr ⟨g, cap, cur, h3, by omega, h5⟩
theorem OwnI.at {w : World} {base : Nat} {v : Value} {l : List Int} (h : OwnI w base v l) (k : Nat) (hk : v.ownBlock = some k) : base ≤ k ∧ k < w.heap.size := by
  rcases h.2 with ⟨rfl, -⟩ | ⟨g, cap, cur, rfl, h4, h5, h6⟩
  · cases hk
  · cases hk; exact ⟨h4, (Array.getElem?_eq_some_iff.1 h5).1⟩
theorem OwnI.shape {w : World} {base : Nat} {v : Value} {l : List Int} (h : OwnI w base v l) : (v = .slice none 0 0 ∧ l = []) ∨ ∃ g cap cur, v = .slice (some ⟨g, 0, none⟩) l.length cap ∧ base ≤ g ∧ g < w.heap.size ∧ l.length ≤ cap ∧ cap ≤ 9223372036854775807 ∧
    w.heap[g]? = some (.cells cur 3 (0, 0)) ∧ (∀ j u, (l.map (Value.int .i64))[j]? = some u → w.cell? ⟨g, j, none⟩ = some u) := by
  have h0 := h
  rcases h.2 with ⟨rfl, h2⟩ | ⟨g, cap, cur, rfl, h4, h5, h6, h7, h8⟩
  · exact .inl ⟨rfl, List.eq_nil_of_length_eq_zero h2⟩
  · refine .inr ⟨g, cap, cur, rfl, h4, (Array.getElem?_eq_some_iff.1 h5).1, h6, by unfold maxLen at h7; omega, h5, fun j u hj => ?_⟩
    have := World.ownsRow.cells h (g := g) rfl j u hj
    rwa [add_at] at this
theorem OwnI.rd {w : World} {base : Nat} {v : Value} {l : List Int} (h : OwnI w base v l) : ∃ A cap, v = .slice A l.length cap ∧ l.length ≤ cap ∧ Rd w A l := own_rd h

/-- a list more -/
theorem wpList_appI {ops : Array Oper} {rest : List Oper} {o : Oper} {a : Act} {Q : Exit → Act → World → Prop} (w : World) (hg : o.guard = none) (s x : Operand)
    (hop : o.op = .call { callee := .builtin .append, args := #[s, x], argTypes := #[44, 44] }) (base : Nat) (v : Value) (q : List Int) (hv : a.eval s = v) (ho : OwnI w base v q) (b2 : Nat) (v2 : Value) (q2 : List Int)
    (hx : a.eval x = v2) (h2 : OwnI w b2 v2 q2) (hl : q.length + q2.length ≤ 1000000) (hb : base ≤ w.heap.size)
    (hK : ∀ A n c w', OwnI w' base (.slice A n c) (q ++ q2) → w.grownBy w' v.ownBlock → ((Value.slice A n c).ownBlock = v.ownBlock ∨ (Value.slice A n c).ownBlock = some w.heap.size) → wpList Try.prog ops Q rest (a.put o.dst (.slice A n c)) w') :
    wpList Try.prog ops Q (o :: rest) a w := by
  obtain ⟨i0, hi, hz0, hz1, hz2⟩ := info_parts infoInt
  have hK2 : ∀ v' w', OwnI w' base v' (q ++ q2) → w.grownBy w' v.ownBlock → (v'.ownBlock = v.ownBlock ∨ v'.ownBlock = some w.heap.size) → wpList Try.prog ops Q rest (a.put o.dst v') w' := by
    intro v' w' h3 h4 h5
    rcases h3.shape with ⟨rfl, -⟩ | ⟨g, cap, cur, rfl, -⟩
    · exact hK _ _ _ _ h3 h4 h5
    · exact hK _ _ _ _ h3 h4 h5
  rcases h2.shape with ⟨rfl, rfl⟩ | ⟨g, cap, cur, rfl, -, -, -, -, -, hc⟩
  · refine wpList_plain hg fun K hK' => ?_
    have hr := run_append_owned_none (P := Try.prog) (w := w) base 44 o.type 3 i0 1 Try.underlying44 hi v _ _ ho
    unfold Oper.wp execOp
    simp only [hop, resolve, invoke, builtin, Sem.run_bind, Sem.run_pure, Result.andThen_ok, List.map_toArray, List.map_cons, List.map_nil, hv, hx, hr]
    exact hK' _ _ (hK2 v w (by rw [List.append_nil]; exact ho) (World.grownBy.refl _ _) (.inl rfl))
  · refine wpList_append_own_at _ hg _ _ 44 hop base 3 i0 (.int .i64 0) 1 8 Try.underlying44 hi hz0 hz1 hz2 rfl (by decide) _ _ _ hv ho ⟨g, 0, none⟩ q2.length cap (q2.map (Value.int .i64)) hx (by simp) ?_ ?_ ?_ ?_ hb ?_
    · intro j u hj
      rw [add_at]; exact hc j u hj
    · intro u hu; simp at hu; obtain ⟨z, -, rfl⟩ := hu; rfl
    · unfold maxLen; omega
    · omega
    · intro v' w' h1 h3 _ h5
      exact hK2 v' w' (OwnI.of (n := q.length + q2.length) (by rw [List.map_append]; exact h1)) h3 h5
/-- one more -/
theorem wpList_app1I {ops : Array Oper} {rest : List Oper} {o : Oper} {a : Act} {Q : Exit → Act → World → Prop} (w : World) (hg : o.guard = none) (s x : Operand)
    (hop : o.op = .call { callee := .builtin .append, args := #[s, x], argTypes := #[44, 44] }) (base : Nat) (v : Value) (q : List Int) (hv : a.eval s = v) (ho : OwnI w base v q) (y : Int) (g : Nat)
    (hx : a.eval x = .slice (some ⟨g, 0, none⟩) 1 1) (hc : w.cell? ⟨g, 0, none⟩ = some (.int .i64 y)) (hl : q.length ≤ 1000000) (hb : base ≤ w.heap.size)
    (hK : ∀ A n c w', OwnI w' base (.slice A n c) (q ++ [y]) → w.grownBy w' v.ownBlock → ((Value.slice A n c).ownBlock = v.ownBlock ∨ (Value.slice A n c).ownBlock = some w.heap.size) → wpList Try.prog ops Q rest (a.put o.dst (.slice A n c)) w') :
    wpList Try.prog ops Q (o :: rest) a w := by
  obtain ⟨i0, hi, hz0, hz1, hz2⟩ := info_parts infoInt
  refine wpList_append_own_at _ hg _ _ 44 hop base 3 i0 (.int .i64 0) 1 8 Try.underlying44 hi hz0 hz1 hz2 rfl (by decide) _ _ _ hv ho ⟨g, 0, none⟩ 1 1 [.int .i64 y] hx rfl ?_ ?_ ?_ ?_ hb ?_
  · intro j u hj
    match j, hj with
    | 0, hj => simp at hj; subst hj; simpa [Addr.add] using hc
  · intro u hu; simp at hu; subst hu; rfl
  · unfold maxLen; omega
  · omega
  · intro v' w' h1 h3 _ h5
    have h3' := OwnI.of (l := q ++ [y]) (n := q.length + 1) (by rw [List.map_append]; exact h1)
    rcases h3'.shape with ⟨rfl, -⟩ | ⟨g, cap, cur, rfl, -⟩
    · exact hK _ _ _ _ h3' h3 h5
    · exact hK _ _ _ _ h3' h3 h5
end Go.Proofs.Ytioncjnjhmnlaaa
