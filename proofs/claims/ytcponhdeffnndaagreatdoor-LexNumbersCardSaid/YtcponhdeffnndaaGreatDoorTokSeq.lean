/-
  The library's SplitSeq at line ends: its iterator tells the parts of a text.
-/
import Derived.Test.YtcponhdeffnndaaGreatDoorTokTold
import Derived.Test.YtcponhdeffnndaaGreatDoorTokLines
import Derived.Test.YtcponhdeffnndaaGreatDoorShelf
import Derived.Lib.IndexLaws
namespace Go.Proofs.YtcponhdeffnndaaGreatDoor
open Go.RowKit Go.Shelf
set_option linter.unusedVariables false
set_option linter.unusedSimpArgs false
attribute [local go_sem] Oper.semAt_some

/-! small words on worlds -/
theorem heap_set_other (W : World) (R j k : Nat) (v : Value) (h : k ≠ R) : (W.setCell ⟨R, j, none⟩ v).heap[k]? = W.heap[k]? := by
  simp [World.setCell, Array.getElem?_modify]; omega
theorem heap_keep {w w' : World} {k : Nat} {o : Obj} (h : w.heap[k]? = some o) (hb : Below w.heap.size w w') : w'.heap[k]? = some o := (hb.block k (Array.getElem?_eq_some_iff.1 h).1).trans h
theorem box1 {W : World} {B : Nat} {v : Value} {t : TypeId} (h : W.heap[B]? = some (.cells #[v] t (0, 0))) : W.cell? ⟨B, 0, none⟩ = some v ∧ W.frozen? ⟨B, 0, none⟩ = false :=
  ⟨cell_of_row _ _ 0 _ _ _ h, blk_frozen h 0⟩
theorem new_at (W : World) (o : Obj) (n : Nat) (h : n = W.heap.size) : (W.alloc o).heap[n]? = some o := by subst h; exact heap_alloc_new W o
theorem own_below0 {β : Type} {N n : Nat} {w : World} (hn : n ≤ N) (hnw : n ≤ w.heap.size) : OwnFrom N (fun (_ : β) W => Below n w W) := by
  intro s W W' row hb hg hr
  exact ⟨hg.os.trans hb.os, hg.tape.trans hb.tape, hg.output.trans hb.output, Nat.le_trans hb.size hg.size, fun k hk => (hg.block k (by have := hb.size; omega) (fun e => by have := (hr k e.symm).1; omega)).trans (hb.block k hk)⟩
theorem putObj_below {n D : Nat} {w X : World} (hD : n ≤ D) (o : Obj) (hb : Below n w X) : Below n w (X.putObj D o) :=
  ⟨hb.os, hb.tape, hb.output, by have := hb.size; simpa using this, fun k hk => (World.putObj_heap_other (by omega)).trans (hb.block k hk)⟩
theorem keeps_set {N B j : Nat} {v : Value} {X : World} (hB : B < N) : KeepsFrom N X (X.setCell ⟨B, j, none⟩ v) :=
  ⟨by simp, fun k o hk ho _ => (heap_set_other _ _ _ _ _ (by omega)).trans ho⟩
theorem grown_keep {N : Nat} {W W' : World} {row : Option Nat} (hg : W.grownBy W' row) (hr : ∀ r, row = some r → N ≤ r ∧ ∃ o : Obj, W.heap[r]? = some o ∧ o.isCells = false) (k : Nat) (o : Obj) (hk : k < N) (ho : W.heap[k]? = some o) : W'.heap[k]? = some o :=
  (hg.block k (Array.getElem?_eq_some_iff.1 ho).1 (fun e => by have := (hr k e.symm).1; omega)).trans ho
/-- all blocks but those from p to below q are as they were -/
structure Chg (p q : Nat) (X Y : World) : Prop where
  os : Y.os = X.os
  tape : Y.tape = X.tape
  output : Y.output = X.output
  size : X.heap.size ≤ Y.heap.size
  block : ∀ k, k < X.heap.size → ¬ (p ≤ k ∧ k < q) → Y.heap[k]? = X.heap[k]?
theorem Chg.refl (p q : Nat) (X : World) : Chg p q X X := ⟨rfl, rfl, rfl, Nat.le_refl _, fun _ _ _ => rfl⟩
theorem Chg.trans {p q : Nat} {X Y Z : World} (h : Chg p q X Y) (g : Chg p q Y Z) : Chg p q X Z :=
  ⟨g.os.trans h.os, g.tape.trans h.tape, g.output.trans h.output, Nat.le_trans h.size g.size, fun k hk hn => (g.block k (Nat.lt_of_lt_of_le hk h.size) hn).trans (h.block k hk hn)⟩
theorem Chg.of_below {p q : Nat} {X Y : World} (h : Below X.heap.size X Y) : Chg p q X Y := ⟨h.os, h.tape, h.output, h.size, fun k hk _ => h.block k hk⟩
theorem Chg.keep {p q k : Nat} {o : Obj} {X Y : World} (h : Chg p q X Y) (hn : ¬ (p ≤ k ∧ k < q)) (ho : X.heap[k]? = some o) : Y.heap[k]? = some o :=
  (h.block k (Array.getElem?_eq_some_iff.1 ho).1 hn).trans ho
theorem chg_set {p q B j : Nat} {X : World} {v : Value} (h1 : p ≤ B) (h2 : B < q) : Chg p q X (X.setCell ⟨B, j, none⟩ v) :=
  ⟨rfl, rfl, rfl, by simp, fun k _ hn => heap_set_other _ _ _ _ _ (by omega)⟩
theorem chg_below {p q n : Nat} {w X Y : World} (hp : n ≤ p) (hnw : n ≤ w.heap.size) (hb : Below n w X) (h : Chg p q X Y) : Below n w Y :=
  ⟨h.os.trans hb.os, h.tape.trans hb.tape, h.output.trans hb.output, Nat.le_trans hb.size h.size, fun k hk => (h.block k (by have := hb.size; omega) (by omega)).trans (hb.block k hk)⟩
/-- the blocks of cells from p to below q stay -/
structure KB (p q : Nat) (X Y : World) : Prop where
  size : X.heap.size ≤ Y.heap.size
  same : ∀ (k : Nat) (o : Obj), p ≤ k → k < q → X.heap[k]? = some o → o.isCells = true → Y.heap[k]? = some o
theorem KB.trans {p q : Nat} {X Y Z : World} (h : KB p q X Y) (g : KB p q Y Z) : KB p q X Z :=
  ⟨Nat.le_trans h.size g.size, fun k o h1 h2 ho hc => g.same k o h1 h2 (h.same k o h1 h2 ho hc) hc⟩
theorem KB.below {p q : Nat} {X Y : World} (hb : Below X.heap.size X Y) : KB p q X Y := ⟨hb.size, fun k o _ _ ho _ => heap_keep ho hb⟩
theorem KB.putObj {p q : Nat} (X : World) (k : Nat) (o o' : Obj) (h : X.heap[k]? = some o) (hc : o.isCells = false) : KB p q X (X.putObj k o') := by
  have hne : ∀ j u, X.heap[j]? = some u → u.isCells = true → j ≠ k := fun j u h1 h2 e => by subst e; rw [h] at h1; cases h1; rw [hc] at h2; cases h2
  exact ⟨by simp, fun j u _ _ h1 h2 => (World.putObj_heap_other (hne j u h1 h2)).trans h1⟩
theorem KB.set {p q B j : Nat} {v : Value} {X : World} (hB : ¬ (p ≤ B ∧ B < q)) : KB p q X (X.setCell ⟨B, j, none⟩ v) :=
  ⟨by simp, fun k o h1 h2 ho _ => (heap_set_other _ _ _ _ _ (by omega)).trans ho⟩
theorem KB.grown {p q : Nat} {X Y : World} {row : Option Nat} (hg : X.grownBy Y row) (hr : ∀ r, row = some r → ¬ (p ≤ r ∧ r < q)) : KB p q X Y :=
  ⟨hg.size, fun k o h1 h2 ho _ => (hg.block k (Array.getElem?_eq_some_iff.1 ho).1 (fun e => hr k e.symm ⟨h1, h2⟩)).trans ho⟩

/-- what the iterator has caught: the rest of the text, the separator, no more than that -/
structure CapS (B : Nat) (rest : List UInt8) (w : World) : Prop where
  tx : w.heap[B]? = some (.cells #[strV rest] 9 (0, 0))
  sep : w.heap[B + 1]? = some (.cells #[.string ⟨#[10]⟩] 9 (0, 0))
  sv : w.heap[B + 2]? = some (.cells #[.int .i64 0] 3 (0, 0))
theorem CapS.kb {B : Nat} {rest : List UInt8} {X Y : World} (h : CapS B rest X) (k : KB B (B + 3) X Y) : CapS B rest Y :=
  ⟨k.same _ _ (by omega) (by omega) h.tx rfl, k.same _ _ (by omega) (by omega) h.sep rfl, k.same _ _ (by omega) (by omega) h.sv rfl⟩
theorem CapS.set {B : Nat} {rest rest2 : List UInt8} {X : World} (h : CapS B rest X) : CapS B rest2 (X.setCell ⟨B, 0, none⟩ (strV rest2)) :=
  ⟨heap_setCell_same X B 0 _ _ _ h.tx, (heap_set_other _ _ _ _ _ (by omega)).trans h.sep, (heap_set_other _ _ _ _ _ (by omega)).trans h.sv⟩
set_option maxHeartbeats 1000000 in
theorem splitSeq_any (s : ByteArray) (w : World) : Calls Tryz.prog 39 #[.string s, .string ⟨#[10]⟩] w fun e w' =>
    e = .returned (.func (.func 158) #[] #[.pointer (some ⟨w.heap.size + 1, 0, none⟩), .pointer (some ⟨w.heap.size, 0, none⟩), .pointer (some ⟨w.heap.size + 2, 0, none⟩)]) ∧
    Below w.heap.size w w' ∧ w'.heap.size = w.heap.size + 3 ∧ CapS w.heap.size s.data.toList w' := by
  go_enter Tryz.func39, Tryz.ntmps39
  go_wp2
  all_goals go_ret
  refine ⟨rfl, ((((Below.refl _ w).alloc (Nat.le_refl _) _).alloc (by simp) _).alloc (by simp <;> omega) _), by simp, ?_, ?_, ?_⟩
  · exact heap_keep (heap_keep (new_at w _ _ rfl) (below_new _ _)) (below_new _ _)
  · exact heap_keep (new_at _ _ _ (by simp)) (below_new _ _)
  · exact new_at _ _ _ (by simp)
theorem ten_none {l : List UInt8} (h : Lib.indexByte l 10 = -1) : Tk.parts l = [l] := by
  refine Tk.parts_self l fun x hx => ?_
  rintro rfl
  obtain ⟨k, hk⟩ := List.getElem?_of_mem hx
  exact Lib.indexByte_none h k hk
theorem ten_some {l : List UInt8} {i : Nat} (h : Lib.indexByte l 10 = i) : i < l.length ∧ Tk.parts l = l.take i :: Tk.parts (l.drop (i + 1)) := by
  obtain ⟨h1, h2⟩ := Lib.indexByte_some h
  obtain ⟨hi, he⟩ := List.getElem?_eq_some_iff.1 h1
  refine ⟨hi, ?_⟩
  have e : l = l.take i ++ 10 :: l.drop (i + 1) := by
    conv => lhs; rw [← List.take_append_drop i l, List.drop_eq_getElem_cons hi, he]
  conv => lhs; rw [e]
  refine Tk.parts_mid _ _ fun x hx => ?_
  rintro rfl
  obtain ⟨k, hk⟩ := List.getElem?_of_mem hx
  rw [List.getElem?_take] at hk
  split at hk
  · rename_i hlt
    exact h2 k hlt hk
  · cases hk
end Go.Proofs.YtcponhdeffnndaaGreatDoor
