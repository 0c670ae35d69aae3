/-
  Scripts in memory: lists of pairs of bytes; opAt.
-/
import Derived.Test.YthojojjdamchpaaEdiPath
import Derived.Test.YthojojjdamchpaaEdiPlain2
namespace Go.Proofs.Ythojojjdamchpaa
open Go.RowKit Go.Shelf
set_option linter.unusedVariables false
set_option linter.unusedSimpArgs false

/-- a step as a value, a script as cells -/
def opV (o : Nat × Nat) : Value := .agg #[.int .u8 o.1, .int .u8 o.2]
def opsC (l : List (Nat × Nat)) : List Value := l.flatMap fun o => [.int .u8 o.1, .int .u8 o.2]
theorem opsC_length (l : List (Nat × Nat)) : (opsC l).length = l.length * 2 := by
  induction l with
  | nil => rfl
  | cons o l ih => simp only [opsC, List.flatMap_cons, List.length_append, List.length_cons, List.length_nil] at *; omega
theorem opsC_append (l m : List (Nat × Nat)) : opsC (l ++ m) = opsC l ++ opsC m := by simp [opsC, List.flatMap_append]
theorem opsC_at (l : List (Nat × Nat)) (i : Nat) (h : i < l.length) : (opsC l)[2 * i]? = some (.int .u8 (l[i]).1) ∧ (opsC l)[2 * i + 1]? = some (.int .u8 (l[i]).2) := by
  induction l generalizing i with
  | nil => simp at h
  | cons o l ih =>
    cases i with
    | zero => exact ⟨rfl, rfl⟩
    | succ i =>
      have := ih i (by simpa using h)
      exact this
/-- a script of one's own -/
def OwnO (base e : Nat) (w : World) (A : Option Addr) (n c : Nat) (l : List (Nat × Nat)) : Prop := l.length = n ∧ w.ownsRow base e 2 (.slice A n c) n (opsC l)
theorem OwnO.nil (base e : Nat) (w : World) : OwnO base e w none 0 0 [] := ⟨rfl, World.ownsRow_nil _ _ _ _⟩
theorem own_keep {W W' : World} {B e size n : Nat} {v : Value} {xs : List Value} (h : W.ownsRow B e size v n xs) (hb : Below W.heap.size W W') : W'.ownsRow B e size v n xs :=
  h.kept (row := none) ⟨hb.os, hb.tape, hb.output, hb.size, fun k hk _ => hb.block k hk⟩ (Classical.em _)
theorem OwnO.below {base e : Nat} {w w' : World} {A : Option Addr} {n c : Nat} {l : List (Nat × Nat)} (h : OwnO base e w A n c l) (hb : Below w.heap.size w w') : OwnO base e w' A n c l :=
  ⟨h.1, own_keep h.2 hb⟩
theorem OwnO.mono {base base' e : Nat} {w : World} {A : Option Addr} {n c : Nat} {l : List (Nat × Nat)} (h : OwnO base e w A n c l) (hb : base' ≤ base) : OwnO base' e w A n c l := by
  refine ⟨h.1, h.2.1, ?_⟩
  rcases h.2.2 with h | ⟨g, cap, cur, hv, h4, h5⟩
  · exact .inl h
  · exact .inr ⟨g, cap, cur, hv, by omega, h5⟩
/-- a slice that reads as the script l -/
def RdO (w : World) (A : Option Addr) (l : List (Nat × Nat)) : Prop :=
  0 < l.length → ∃ b off, A = some ⟨b, off, none⟩ ∧ b < w.heap.size ∧ ∀ i (h : i < l.length), w.cell? ⟨b, off + i * 2, none⟩ = some (.int .u8 (l[i]).1) ∧ w.cell? ⟨b, off + (i * 2 + 1), none⟩ = some (.int .u8 (l[i]).2)
theorem RdO.below {w w' : World} {A : Option Addr} {l : List (Nat × Nat)} (h : RdO w A l) (hb : Below w.heap.size w w') : RdO w' A l := by
  intro h0
  obtain ⟨b, off, e, hlt, hc⟩ := h h0
  exact ⟨b, off, e, by have := hb.size; omega, fun i hi => ⟨cell_keep (hc i hi).1 hb, cell_keep (hc i hi).2 hb⟩⟩
theorem OwnO.rd {base e : Nat} {w : World} {A : Option Addr} {n c : Nat} {l : List (Nat × Nat)} (h : OwnO base e w A n c l) : RdO w A l := by
  obtain ⟨hl, ho⟩ := h
  intro h0
  rcases ho.2 with ⟨hv, h2⟩ | ⟨g, cap, cur, hv, hb, hh, h3⟩
  · have : n = 0 := by injection hv
    omega
  · have hA : A = some ⟨g, 0, none⟩ := by injection hv
    subst hA
    refine ⟨g, 0, rfl, (Array.getElem?_eq_some_iff.1 hh).1, fun i hi => ?_⟩
    obtain ⟨q1, q2⟩ := opsC_at l i hi
    have hc := ho.cells (g := g) rfl (2 * i) _ q1
    have hd := ho.cells (g := g) rfl (2 * i + 1) _ q2
    have e1 : (⟨g, 0, none⟩ : Addr).add (2 * i) = ⟨g, 0 + i * 2, none⟩ := by unfold Addr.add; split <;> simp <;> omega
    have e2 : (⟨g, 0, none⟩ : Addr).add (2 * i + 1) = ⟨g, 0 + (i * 2 + 1), none⟩ := by unfold Addr.add; split <;> simp <;> omega
    rw [e1] at hc; rw [e2] at hd
    exact ⟨hc, hd⟩
theorem infoOp : (Try.prog.info? 51).map (fun i => (i.zero, i.size, i.bytes)) = some (some (.agg #[.int .u8 0, .int .u8 0]), 2, 2) := by kernel_rfl
/-- one step more -/
theorem wpList_appO {ops : Array Oper} {rest : List Oper} {o : Oper} {a : Act} {Q : Exit → Act → World → Prop} (w : World) (hg : o.guard = none) (s x : Operand)
    (hop : o.op = .call { callee := .builtin .append, args := #[s, x], argTypes := #[27, 27] }) (base n c : Nat) (A : Option Addr) (l : List (Nat × Nat)) (hv : a.eval s = .slice A n c)
    (hown : OwnO base 51 w A n c l) (g : Nat) (p : Nat × Nat) (hx : a.eval x = .slice (some ⟨g, 0, none⟩) 1 1) (hc : w.cell? ⟨g, 0, none⟩ = some (.int .u8 p.1)) (hd : w.cell? ⟨g, 1, none⟩ = some (.int .u8 p.2)) (hl : n + 1 ≤ 1000000000) (hb : base ≤ w.heap.size)
    (hK : ∀ A' n' c' w', n' = n + 1 → OwnO base 51 w' A' n' c' (l ++ [p]) → w.grownBy w' (Value.slice A n c).ownBlock → wpList Try.prog ops Q rest (a.put o.dst (.slice A' n' c')) w') :
    wpList Try.prog ops Q (o :: rest) a w := by
  obtain ⟨i0, hi, hz0, hz1, hz2⟩ := info_parts infoOp
  refine wpList_append_own _ hg _ _ 27 hop base 51 i0 (.agg #[.int .u8 0, .int .u8 0]) 2 2 Try.underlying27 hi hz0 hz1 hz2 rfl (by decide) _ _ _ hv hown.2 ⟨g, 0, none⟩ 1 1 [.int .u8 p.1, .int .u8 p.2] hx rfl ?_ ?_ ?_ ?_ hb ?_
  · intro j u hj
    match j, hj with
    | 0, hj => simp at hj; subst hj; simpa [Addr.add] using hc
    | 1, hj => simp at hj; subst hj; simpa [Addr.add] using hd
  · intro u hu; simp at hu; rcases hu with rfl | rfl <;> rfl
  · unfold maxLen; omega
  · omega
  · intro v' w' h1 h2 _
    have hl1 := hown.1
    rcases h1.2 with ⟨rfl, h4⟩ | ⟨g', cap, cur, rfl, h5, h6, h7⟩
    · omega
    · exact hK _ _ cap w' rfl ⟨by simp [hl1], by rw [opsC_append]; exact h1⟩ h2
/-- a result that is a step -/
def PostOp (o : Nat × Nat) (w : World) (e : Ending) (w' : World) : Prop := e = .returned (opV o) ∧ Below w.heap.size w w'
theorem set2 {w : World} {g : Nat} {x y : Value} {t : TypeId} (h : w.heap[g]? = some (.cells #[x, y] t (0, 0))) (a b : Value) :
    ((w.setCell ⟨g, 0, none⟩ a).setCell ⟨g, 1, none⟩ b).heap[g]? = some (.cells #[a, b] t (0, 0)) := by
  simp [World.setCell, Array.getElem?_modify, h]
theorem tx_head (s : ByteArray) (h : 0 < s.size) : (tx s).headD 0 = s[0] := by
  have := tx_drop s 0 h
  rw [List.drop_zero] at this
  rw [this]; rfl
set_option maxHeartbeats 2000000 in
theorem opAt_any (k : Nat) (h1 : 1 ≤ k) (h5 : k ≤ 5) (s : ByteArray) (hs : k = 2 ∨ k = 5 → 0 < s.size) (w : World) : Calls Try.prog 31 #[.int .u8 k, .string s] w (PostOp (k, Ed.byteOf k (tx s)) w) := by
  have hnew := heap_alloc_new w (.cells #[.int .u8 0, .int .u8 0] 51)
  have HN := Lib.hid hnew
  have HB := Lib.hid (below_new w (.cells #[.int .u8 0, .int .u8 0] 51))
  by_cases hk : k = 2 ∨ k = 5
  · have hp := hs hk
    have e : Ed.byteOf k (tx s) = (s[0]).toNat := by unfold Ed.byteOf; rw [if_pos hk, tx_head s hp]
    rw [e]
    have hp2 : (0 : Int) < s.size := by omega
    obtain ⟨x, hx⟩ : ∃ x, s[0] = x := ⟨_, rfl⟩
    rw [hx]
    clear e hs h1 h5 hnew
    rcases hk with rfl | rfl
    all_goals
      go_enter Try.func31, Try.ntmps31
      go_wp2
      refine bodyPost_ret (results_cell_row (fn := Try.f31) (p := 4) (ty := 51) rfl _ _ w.heap.size 51 _ (0, 0) _ rfl (heap_alloc_new w _) Try.underlying51 rfl (by kernel_rfl)) rfl ⟨rfl, below_new w _⟩
  · have e : Ed.byteOf k (tx s) = 0 := by unfold Ed.byteOf; rw [if_neg hk]
    rw [e]
    clear e hs hnew
    rcases (show k = 1 ∨ k = 3 ∨ k = 4 by omega) with rfl | rfl | rfl
    all_goals
      clear hk h1 h5
      go_enter Try.func31, Try.ntmps31
      go_wp2
      refine bodyPost_ret (results_cell_row (fn := Try.f31) (p := 4) (ty := 51) rfl _ _ w.heap.size 51 _ (0, 0) _ rfl (heap_alloc_new w _) Try.underlying51 rfl (by kernel_rfl)) rfl ⟨rfl, below_new w _⟩
end Go.Proofs.Ythojojjdamchpaa
