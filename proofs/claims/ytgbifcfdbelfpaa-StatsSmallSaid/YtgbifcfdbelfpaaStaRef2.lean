/-
  The reference's limbs: digits are divided by 65536 again and again.
-/
import Derived.Test.YtgbifcfdbelfpaaStaRef1
namespace Go.Proofs.Ytgbifcfdbelfpaa
open Go.RowKit
set_option linter.unusedVariables false

/-- a slice of limbs, nil or in a block of the call's own -/
def Own (w : World) (base : Nat) (v : Value) (l : List Int) : Prop :=
  (v = .slice none 0 0 ∧ l = []) ∨ ∃ g s, v = .slice (some ⟨g, 0, none⟩) l.length (l.length + s.length) ∧ Blk w g [] l s ∧ base ≤ g ∧ l.length + s.length ≤ maxLen
theorem own_of {w : World} {base : Nat} {v : Value} {l : List Int} {n : Nat} (h : w.ownsRow base 55 1 v n (l.map (Value.int .u32))) : Own w base v l := by
  rcases own_val h with ⟨h1, h2, -⟩ | ⟨g, s, h1, h2, h3, h4, h5⟩
  · exact .inl ⟨h1, h2⟩
  · exact .inr ⟨g, s, by rw [h1, h3], h2, h4, by omega⟩
theorem Own.row6 {w : World} {base : Nat} {v : Value} {l : List Int} (h : Own w base v l) : w.ownsRow base 55 1 v l.length (l.map (Value.int .u32)) := by
  rcases h with ⟨rfl, rfl⟩ | ⟨g, s, rfl, h2, h3, h4⟩
  · exact World.ownsRow_nil _ _ _ _
  · exact h2.own h3 h4
theorem Own.at6 {w : World} {base : Nat} {v : Value} {l : List Int} (h : Own w base v l) (k : Nat) (hk : v.ownBlock = some k) : base ≤ k := by
  rcases h with ⟨rfl, rfl⟩ | ⟨g, s, rfl, h2, h3, h4⟩
  · cases hk
  · cases hk; exact h3
/-- a block of ints is no block of limbs -/
theorem IBlk.ne {w : World} {g r : Nat} {p s p' s' : List Value} {m l : List Int} (h : IBlk w g p m s) (h2 : Blk w r p' l s') : g ≠ r := by
  rintro rfl
  unfold IBlk at h
  unfold Blk at h2
  rw [h2] at h
  simp at h
theorem Own.set {w : World} {base g i : Nat} {v x : Value} {l m : List Int} {p s : List Value} (h : Own w base v l) (hi : IBlk w g p m s) : Own (w.setCell ⟨g, i, none⟩ x) base v l := by
  rcases h with h | ⟨r, s', h1, h2, h3⟩
  · exact .inl h
  · exact .inr ⟨r, s', h1, h2.kept (grown_set w ⟨g, i, none⟩ x) (fun e => hi.ne h2 (Option.some.inj e).symm), h3⟩
theorem Own.ikept {w w' : World} {base g : Nat} {v : Value} {l m : List Int} {p s : List Value} (h : Own w base v l) (hi : IBlk w g p m s) (hg : w.grownBy w' v.ownBlock) : IBlk w' g p m s := by
  rcases h with ⟨h1, -⟩ | ⟨r, s', h1, h2, h3⟩
  · rw [h1] at hg; exact hi.kept hg (by rintro ⟨⟩)
  · rw [h1] at hg; exact hi.kept hg (fun e => hi.ne h2 (Option.some.inj e))
/-- one limb more behind a slice of one's own -/
theorem wpList_appU {ops : Array Oper} {rest : List Oper} {o : Oper} {a : Act} {Q : Exit → Act → World → Prop} (w : World) (hg : o.guard = none) (s x : Operand)
    (hop : o.op = .call { callee := .builtin .append, args := #[s, x], argTypes := #[29, 29] }) (base : Nat) (v : Value) (q : List Int) (hv : a.eval s = v) (ho : Own w base v q) (y : Int)
    (hx : a.eval x = .slice (some ⟨w.heap.size, 0, none⟩) 1 1) (hl : q.length ≤ 1000000) (hb : base ≤ w.heap.size)
    (hK : ∀ v' w', Own w' base v' (q ++ [y]) → Below base w w' → w.grownBy w' v.ownBlock → wpList Try.prog ops Q rest (a.put o.dst v') w') :
    wpList Try.prog ops Q (o :: rest) a (w.alloc (.cells #[.int .u32 y] 55)) := by
  obtain ⟨i0, hi, hz0, hz1, hz2⟩ := info_parts infoU32
  refine wpList_append_own _ hg _ _ 29 hop base 55 i0 (.int .u32 0) 1 4 Try.underlying29 hi hz0 hz1 hz2 rfl (by decide) _ _ _ hv (World.ownsRow.alloc ho.row6 _) ⟨w.heap.size, 0, none⟩ 1 1 [.int .u32 y] hx rfl (cell_one_new _ _ _) ?_ ?_ ?_ ?_ ?_
  · intro u hu; simp at hu; subst hu; rfl
  · unfold maxLen; omega
  · omega
  · simp; omega
  · intro v' w' h1 h2 _
    refine hK v' w' (own_of (n := q.length + 1) (by simpa using h1)) ?_ ((World.grownBy_alloc w _ _).trans h2)
    exact ((Below.refl base w).alloc hb _).grown h2 (by simp; omega) (fun k hk => ho.at6 k hk)

/-! ### plain: quotient and rest -/
/-- the digits from i on are divided: quotient and rest -/
structure Quo (l q : List Int) (i : Nat) (r : Int) : Prop where
  len : q.length = l.length
  dg : Nd.Dg q
  fore : ∀ j, j < i → q.getD j 0 = l.getD j 0
  val : Nd.V (l.drop i) = 65536 * Nd.V (q.drop i) + r
  r0 : 0 ≤ r
  r1 : r < 65536
theorem Quo.start {l : List Int} (h : Nd.Dg l) : Quo l l l.length 0 := ⟨rfl, h, fun _ _ => rfl, by simp [Nd.V], by omega, by omega⟩
theorem set_getD (l : List Int) (i j : Nat) (v : Int) (h : i < l.length) : (l.set i v).getD j 0 = if j = i then v else l.getD j 0 := by
  rw [List.getD_eq_getElem?_getD, List.getD_eq_getElem?_getD, List.getElem?_set]
  by_cases e : j = i
  · subst e; simp [h]
  · rw [if_neg e, if_neg (fun e2 => e e2.symm)]
theorem set_dg {l : List Int} {i : Nat} {v : Int} (h : Nd.Dg l) (h0 : 0 ≤ v) (h1 : v < 10000) : Nd.Dg (l.set i v) := by
  intro x hx
  rcases List.mem_or_eq_of_mem_set hx with hx | rfl
  · exact h x hx
  · exact ⟨h0, h1⟩
theorem Quo.step {l q : List Int} {i : Nat} {r z n : Int} (h : Quo l q (i + 1) r) (hi : i < l.length) (hd : Nd.Dg l) (hz : q.getD i 0 = z) (hn : r * 10000 + z = n) : Quo l (q.set i (n / 65536)) i (n % 65536) ∧ 0 ≤ n ∧ n / 65536 < 10000 := by
  have h0 := h.r0
  have h1 := h.r1
  have e := h.fore i (by omega)
  rw [hz] at e
  have d := hd.at i
  rw [← e] at d
  have hl := h.len
  refine ⟨⟨by rw [List.length_set]; exact hl, set_dg h.dg (by omega) (by omega), fun j hj => ?_, ?_, by omega, by omega⟩, by omega, by omega⟩
  · rw [set_getD _ _ _ _ (by omega), if_neg (by omega)]
    exact h.fore j (by omega)
  · have hv := h.val
    rw [Nd.V_drop l i hi, Nd.V_drop (q.set i (n / 65536)) i (by rw [List.length_set]; omega), set_getD _ _ _ _ (by omega), if_pos rfl, List.drop_set_of_lt (by omega), ← e, hv]
    omega
/-- so far: limbs m of the number X, and what is left, Y; j rounds more at most -/
structure LimD (X : Int) (m : List Int) (Y : Int) (low : Bool) (j : Nat) : Prop where
  dg : Na.Dg m
  yy : Y < 65536 ^ j
  val : (low = true ∧ X = Na.V m + Na.Bp m.length * Y) ∨ (low = false ∧ ∃ t u, m = t ++ [u] ∧ 0 ≤ u ∧ u < 65536 ∧ X = Na.V m + Na.Bp t.length * (65536 * Y))
theorem LimD.low {X Y Z r : Int} {m : List Int} {j : Nat} (h : LimD X m Y true (j + 1)) (hy : Y = 65536 * Z + r) (h0 : 0 ≤ r) (h1 : r < 65536) : LimD X (m ++ [r]) Z false j := by
  rcases h.val with ⟨-, e⟩ | ⟨e, -⟩
  · have hj := h.yy
    rw [Int.pow_succ] at hj
    refine ⟨h.dg.snoc h0 (by omega), by omega, .inr ⟨rfl, m, r, rfl, h0, h1, ?_⟩⟩
    rw [Na.V_snoc, e, hy, Int.mul_add]
    omega
  · cases e
theorem LimD.high {X Y Z r : Int} {m : List Int} {j : Nat} (h : LimD X m Y false (j + 1)) (hy : Y = 65536 * Z + r) (h0 : 0 ≤ r) (h1 : r < 65536) :
    ∃ n u, m.length = n + 1 ∧ m.getD n 0 = u ∧ 0 ≤ u ∧ u < 65536 ∧ LimD X (m.set n (u + r * 65536)) Z true j := by
  rcases h.val with ⟨e, -⟩ | ⟨-, t, u, rfl, u0, u1, e⟩
  · cases e
  · have hj := h.yy
    rw [Int.pow_succ] at hj
    have hs : (t ++ [u]).set t.length (u + r * 65536) = t ++ [u + r * 65536] := by
      rw [List.set_append_right _ _ (by omega), Nat.sub_self, List.set_cons_zero]
    refine ⟨t.length, u, by simp, by simp [List.getD_eq_getElem?_getD], u0, u1, ?_⟩
    rw [hs]
    refine ⟨(Na.Dg.append.1 h.dg).1.snoc (by omega) (by omega), by omega, .inl ⟨rfl, ?_⟩⟩
    rw [Na.V_snoc] at e ⊢
    rw [List.length_append, List.length_singleton, show Na.Bp (t.length + 1) = 4294967296 * Na.Bp t.length from rfl, e, hy]
    grind
theorem LimD.done {X : Int} {m : List Int} {low : Bool} {j : Nat} (h : LimD X m 0 low j) : Na.V m = X := by
  rcases h.val with ⟨-, e⟩ | ⟨-, t, u, -, -, -, e⟩
  · rw [e]; omega
  · rw [e]; omega
theorem dp_le (n : Nat) : Nd.Bp n ≤ 65536 ^ n := by
  induction n with
  | zero => decide
  | succ n ih =>
    rw [show Nd.Bp (n + 1) = 10000 * Nd.Bp n from rfl, Int.pow_succ]
    have := Nd.Bp_pos n
    omega
theorem LimD.start {l : List Int} {X : Int} (h : Nd.Dg l) (hx : Nd.V l = X) : LimD X [] X true l.length := by
  have h1 := Nd.V_lt h
  have h2 := dp_le l.length
  exact ⟨Na.Dg.nil, by omega, .inl ⟨rfl, by simp [Na.V, Na.Bp]⟩⟩

end Go.Proofs.Ytgbifcfdbelfpaa
