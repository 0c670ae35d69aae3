/-
  Limbs of a block that are rewritten one behind the other while something is carried.
-/
import Derived.Test.YtgbifcfdbelfpaaNatAdd
namespace Go.Proofs.Ytgbifcfdbelfpaa
open Go.RowKit
set_option linter.unusedVariables false

/-- q: the limbs that are rewritten; m: what the limbs were; X: what q and the carried are worth -/
structure AccW (W w : World) (g b : Nat) (p s : List Value) (m q : List Int) (c X : Int) : Prop where
  blk : Blk w g p (q ++ m.drop q.length) s
  one : One w b c
  c0 : 0 ≤ c
  c1 : c < 4294967296
  dg : Na.Dg q
  val : Na.V q + c * Na.Bp q.length = X
  frm : W.grownBy w (some g)
section
variable {W w w1 : World} {g b : Nat} {p s : List Value} {m q : List Int} {c X x : Int}
theorem AccW.start (hb : Blk w g p m s) (hg : W.grownBy w (some g)) (hB : W.heap.size ≤ w.heap.size) (k : Nat) (hk : k ≤ m.length) (hd : Na.Dg (m.take k)) (c0 : 0 ≤ c) (c1 : c < 4294967296) :
    AccW W (w.alloc (.cells #[.int .u32 c] 55)) g w.heap.size p s m (m.take k) c (Na.V (m.take k) + c * Na.Bp k) := by
  have hl : (m.take k).length = k := by rw [List.length_take]; omega
  exact ⟨by rw [hl, List.take_append_drop]; exact hb.alloc _, One.new _ _, c0, c1, hd, by rw [hl], grown_then hg (World.grownBy_alloc _ _ none) (fun j hj => by cases hj)⟩
/-- a limb that is not yet rewritten -/
theorem AccW.cell (h : AccW W w g b p s m q c X) {r : Option Nat} (hg : w.grownBy w1 r) (hne : some g ≠ r) (k : Nat) (hk : q.length ≤ k) (hm : k < m.length) {i : Nat} (hi : i = p.length + k) :
    w1.cell? ⟨g, i, none⟩ = some (.int .u32 (m.getD k 0)) := by
  have := (h.blk.kept hg hne).cell k (by simp; omega) hi
  obtain ⟨j, rfl⟩ := Nat.exists_eq_add_of_le hk
  rw [this, Na.get_win j rfl]
theorem AccW.free (h : AccW W w g b p s m q c X) {r : Option Nat} (hg : w.grownBy w1 r) (hne : some g ≠ r) (i : Nat) : w1.frozen? ⟨g, i, none⟩ = false := (h.blk.kept hg hne).free i
theorem AccW.step (h : AccW W w g b p s m q c X) (hd : q.length < m.length) (h0 : 0 ≤ x) (h1 : x ≤ 18446744069414584320) (hgb : g ≠ b) (hb : W.heap.size ≤ b)
    (ho : One w1 b ((x + c) / 4294967296)) (hgr : w.grownBy w1 (some b)) {i : Nat} (hi : i = p.length + q.length) :
    AccW W (w1.setCell ⟨g, i, none⟩ (.int .u32 ((x + c) % 4294967296))) g b p s m (q ++ [(x + c) % 4294967296]) ((x + c) / 4294967296) (X + Na.Bp q.length * x) := by
  have hb1 := h.blk.kept hgr (by simpa using hgb)
  have hc0 := h.c0
  have hc1 := h.c1
  have hl : q.length < (q ++ m.drop q.length).length := by simp; omega
  refine ⟨?_, ho.kept (grown_set _ _ _) (by simpa using (Ne.symm hgb)), by omega, by omega, h.dg.snoc (by omega) (by omega), ?_, ?_⟩
  · have := hb1.set q.length hl ((x + c) % 4294967296) hi
    rw [Na.set_win rfl hd] at this
    rw [List.length_append, List.length_singleton]
    exact this
  · rw [List.length_append, List.length_singleton]
    exact Na.acc rfl h.val (Na.lohi (x + c))
  · exact grown_then (grown_then h.frm hgr (fun k hk => by cases hk; exact .inl hb)) (grown_set _ _ _) (fun k hk => by cases hk; exact .inr rfl)
/-- once more, with 0: what is carried -/
theorem AccW.last (h : AccW W w g b p s m q c X) (hgb : g ≠ b) (hb : W.heap.size ≤ b) (hgr : w.grownBy w1 (some b)) :
    Blk w1 g p (q ++ m.drop q.length) s ∧ W.grownBy w1 (some g) :=
  ⟨h.blk.kept hgr (by simpa using hgb), grown_then h.frm hgr (fun k hk => by cases hk; exact .inl hb)⟩
end

theorem V_zeros {l : List Int} {k : Nat} (h : ∀ j, k ≤ j → l.getD j 0 = 0) : Na.V (l.drop k) = 0 := by
  rcases Nat.lt_or_ge k l.length with c | c
  · induction hn : l.length - k generalizing k with
    | zero => omega
    | succ n ih =>
      rw [Na.V_drop l k c, h k (Nat.le_refl _)]
      rcases Nat.lt_or_ge (k + 1) l.length with c2 | c2
      · rw [ih (fun j hj => h j (by omega)) c2 (by omega)]; rfl
      · rw [List.drop_of_length_le c2]; rfl
  · rw [List.drop_of_length_le c]; rfl

end Go.Proofs.Ytgbifcfdbelfpaa
