/-
  What the iterator of the rows tells.
-/
import Derived.Test.YthojojjdamchpaaEdiRows
namespace Go.Proofs.Ythojojjdamchpaa
open Go.RowKit Go.Shelf
set_option linter.unusedVariables false
set_option linter.unusedSimpArgs false
attribute [local go_sem] Oper.semAt_some

/-- the distance from a place to a place -/
def Dv (c : Ed.Cst) (a b : ByteArray) (i j : Nat) : Int := Ed.D c ((tx a).drop i) ((tx b).drop j)
/-- a row that is yielded: its index, its block -/
structure Val where
  i : Nat
  blk : Nat
def Val.encs (n : Nat) (x : Val) : Array Value := #[.int .i64 x.i, sl x.blk n]
/-- what is told of it -/
structure Tl (c : Ed.Cst) (a b : ByteArray) (s0 : Nat) (pre : List Val) (x : Val) (W : World) : Prop where
  idx : x.i + pre.length = a.size
  row : ∀ j, j ≤ b.size → W.cell? ⟨x.blk, j, none⟩ = some (.int .i64 (Dv c a b x.i j))
  lo : s0 ≤ x.blk
  hi : x.blk < W.heap.size
  size : s0 + 6 ≤ W.heap.size
/-- blocks of cells from q on stay -/
structure KQ (q : Nat) (X Y : World) : Prop where
  size : X.heap.size ≤ Y.heap.size
  same : ∀ (k : Nat) (o : Obj), q ≤ k → X.heap[k]? = some o → o.isCells = true → Y.heap[k]? = some o
theorem KQ.trans {q : Nat} {X Y Z : World} (h : KQ q X Y) (g : KQ q Y Z) : KQ q X Z :=
  ⟨Nat.le_trans h.size g.size, fun k o hk ho hc => g.same k o hk (h.same k o hk ho hc) hc⟩
theorem KQ.below {q : Nat} {X Y : World} (hb : Below X.heap.size X Y) : KQ q X Y :=
  ⟨hb.size, fun k o _ ho _ => (hb.block _ (Array.getElem?_eq_some_iff.1 ho).1).trans ho⟩
theorem KQ.putObj {q : Nat} (X : World) (k : Nat) (o o' : Obj) (h : X.heap[k]? = some o) (hc : o.isCells = false) : KQ q X (X.putObj k o') := by
  have hne : ∀ j u, X.heap[j]? = some u → u.isCells = true → j ≠ k := fun j u h1 h2 e => by subst e; rw [h] at h1; cases h1; rw [hc] at h2; cases h2
  exact ⟨by simp, fun j u _ h1 h2 => (World.putObj_heap_other (hne j u h1 h2)).trans h1⟩
theorem cells_of {W : World} {b o : Nat} {v : Value} (h : W.cell? ⟨b, o, none⟩ = some v) : ∃ u : Obj, W.heap[b]? = some u ∧ u.isCells = true := by
  unfold World.cell? at h
  cases ho : W.heap[b]? with
  | none => simp [ho] at h
  | some u => exact ⟨u, rfl, by cases u <;> simp_all [Obj.isCells]⟩
theorem KQ.cell {q b o : Nat} {X Y : World} {v : Value} (h : KQ q X Y) (hq : q ≤ b) (hc : X.cell? ⟨b, o, none⟩ = some v) : Y.cell? ⟨b, o, none⟩ = some v := by
  obtain ⟨u, hu, hk⟩ := cells_of hc
  have e : Y.heap[b]? = X.heap[b]? := (h.same b u hq hu hk).trans hu.symm
  rw [← hc]; exact World.cell?_of_block e
theorem Caps.kq {q : Nat} {X Y : World} {A B C : Nat} {a b : ByteArray} {c : Ed.Cst} (h : Caps X A B C a b c) (hk : KQ q X Y) (hA : q ≤ A) (hB : q ≤ B) (hC : q ≤ C) : Caps Y A B C a b c :=
  ⟨hk.cell hA h.ca, hk.cell hB h.cb, hk.cell hC h.c0, hk.cell hC h.c1, hk.cell hC h.c2, hk.cell hC h.c3⟩
theorem set_cell_other {W : World} {R j b o : Nat} {v u : Value} (hc : W.cell? ⟨b, o, none⟩ = some u) (h : b ≠ R) : (W.setCell ⟨R, j, none⟩ v).cell? ⟨b, o, none⟩ = some u := by
  rw [← hc]; exact World.cell?_of_block (heap_set_other W R j b v h)
theorem Caps.set {W : World} {R j : Nat} {v : Value} {A B C : Nat} {a b : ByteArray} {c : Ed.Cst} (h : Caps W A B C a b c) (hA : A ≠ R) (hB : B ≠ R) (hC : C ≠ R) : Caps (W.setCell ⟨R, j, none⟩ v) A B C a b c :=
  ⟨set_cell_other h.ca hA, set_cell_other h.cb hB, set_cell_other h.c0 hC, set_cell_other h.c1 hC, set_cell_other h.c2 hC, set_cell_other h.c3 hC⟩

/-- three rows are made, one after another -/
def tAt (s k t n : Nat) : Value := if t < k then sl (s + 1 + t) n else .slice none 0 0
structure MkS (W wr : World) (n k : Nat) : Prop where
  bel : Below W.heap.size W wr
  size : wr.heap.size = W.heap.size + 1 + k
  turns : wr.heap[W.heap.size]? = some (.cells #[tAt W.heap.size k 0 n, tAt W.heap.size k 1 n, tAt W.heap.size k 2 n] 70 (0, 0))
  rows : ∀ t, t < k → RowI wr (W.heap.size + 1 + t) n (fun _ => 0)
theorem MkS.next {W wr w2 : World} {n k : Nat} (h : MkS W wr n k) (hk : k < 3) (hr : RowI w2 wr.heap.size n (fun _ => 0)) (hb : Below wr.heap.size wr w2) (hs : w2.heap.size = wr.heap.size + 1) :
    MkS W (w2.setCell ⟨W.heap.size, k, none⟩ (sl wr.heap.size n)) n (k + 1) := by
  have hsz := h.size
  have h2 : w2.heap[W.heap.size]? = some (.cells #[tAt W.heap.size k 0 n, tAt W.heap.size k 1 n, tAt W.heap.size k 2 n] 70 (0, 0)) := (hb.block _ (by omega)).trans h.turns
  refine ⟨(h.bel.trans (hb.mono (by omega))).setCell (Nat.le_refl _) _, by simp; omega, ?_, fun t ht => ?_⟩
  · rw [heap_setCell_same w2 W.heap.size k _ _ _ h2, hsz]
    rcases (show k = 0 ∨ k = 1 ∨ k = 2 by omega) with rfl | rfl | rfl <;> rfl
  · have hne : W.heap.size + 1 + t ≠ W.heap.size := by omega
    by_cases e : t = k
    · subst e
      rw [hsz] at hr
      exact hr.keep fun o _ ho => (heap_set_other _ _ _ _ _ hne).trans ho
    · exact (h.rows t (by omega)).keep fun o _ ho => (heap_set_other _ _ _ _ _ hne).trans ((hb.block _ (by omega)).trans ho)

theorem MkS.cells {W wr w2 : World} {n k : Nat} (h : MkS W wr n k) (hk : k < 3) (hb : Below wr.heap.size wr w2) : w2.cell? ⟨W.heap.size, k, none⟩ = some (.slice none 0 0) ∧ w2.frozen? ⟨W.heap.size, k, none⟩ = false := by
  have h2 := (hb.block _ (by have := h.size; omega)).trans h.turns
  obtain ⟨⟨p0, p1, p2⟩, f0, f1, f2⟩ := res_facts h2
  rcases (show k = 0 ∨ k = 1 ∨ k = 2 by omega) with rfl | rfl | rfl
  · exact ⟨p0, f0⟩
  · exact ⟨p1, f1⟩
  · exact ⟨p2, f2⟩

/-- the iterator's memory: the turns, the closures, the rows -/
structure It (c : Ed.Cst) (a b : ByteArray) (q0 s O A B C : Nat) (W : World) (g : Nat → Nat → Int) : Prop where
  cap0 : Caps W q0 (q0 + 1) (q0 + 2) a b c
  cap1 : Caps W A B C a b c
  turns : W.heap[s]? = some (.cells #[sl (s + 1) (b.size + 1), sl (s + 2) (b.size + 1), sl (s + 3) (b.size + 1)] 70 (0, 0))
  ord : W.heap[O]? = some (.cells #[.nilFunc, fn1 A B, fn2 A B C, fn3 A B C, fn4 A C, fn5 B C] 73 (0, 0))
  rows : ∀ t, t < 3 → RowI W (s + 1 + t) (b.size + 1) (g t)
/-- where its blocks lie -/
structure Lie (q0 s O A B C : Nat) : Prop where
  hs : q0 + 5 = s
  ho : s + 4 ≤ O
  ha : s + 4 ≤ A
  hb : s + 4 ≤ B
  hc : s + 4 ≤ C
theorem It.kq {c : Ed.Cst} {a b : ByteArray} {q0 s O A B C : Nat} {X Y : World} {g : Nat → Nat → Int} (h : It c a b q0 s O A B C X g) (l : Lie q0 s O A B C) (hk : KQ q0 X Y) : It c a b q0 s O A B C Y g := by
  have := l.hs; have := l.ho; have := l.ha; have := l.hb; have := l.hc
  exact ⟨h.cap0.kq hk (by omega) (by omega) (by omega), h.cap1.kq hk (by omega) (by omega) (by omega), hk.same _ _ (by omega) h.turns rfl, hk.same _ _ (by omega) h.ord rfl,
    fun t ht => (h.rows t ht).keep fun o ho hh => hk.same _ _ (by omega) hh ho⟩
theorem It.size {c : Ed.Cst} {a b : ByteArray} {q0 s O A B C : Nat} {X : World} {g : Nat → Nat → Int} (h : It c a b q0 s O A B C X g) : s + 4 ≤ X.heap.size := by
  have := (h.rows 2 (by omega)).lt; omega
theorem It.set {c : Ed.Cst} {a b : ByteArray} {q0 s O A B C : Nat} {X : World} {g : Nat → Nat → Int} (h : It c a b q0 s O A B C X g) (l : Lie q0 s O A B C) (t j : Nat) (v : Int) (ht : t < 3) (hj : j < b.size + 1) :
    It c a b q0 s O A B C (X.setCell ⟨s + 1 + t, j, none⟩ (.int .i64 v)) (fun t' x => if t' = t ∧ x = j then v else g t' x) := by
  have := l.hs; have := l.ho; have := l.ha; have := l.hb; have := l.hc
  refine ⟨h.cap0.set (by omega) (by omega) (by omega), h.cap1.set (by omega) (by omega) (by omega), (heap_set_other _ _ _ _ _ (by omega)).trans h.turns, (heap_set_other _ _ _ _ _ (by omega)).trans h.ord, fun t' ht' => ?_⟩
  by_cases e : t' = t
  · subst e
    have := (h.rows t' ht').store j v hj
    simpa using this
  · have := (h.rows t' ht').keep (W' := X.setCell ⟨s + 1 + t, j, none⟩ (.int .i64 v)) fun o _ ho => (heap_set_other _ _ _ _ _ (by omega)).trans ho
    simpa [e] using this
theorem chg_set {s t j n : Nat} {X : World} {v : Value} (ht : t < 3) : Chg s (s + 4) X (X.setCell ⟨s + 1 + t, j, none⟩ v) :=
  ⟨rfl, rfl, rfl, by simp, fun k _ hn => heap_set_other _ _ _ _ _ (by omega)⟩
/-- what the rows hold ahead of the row i = a.size - p -/
def OutP (c : Ed.Cst) (a b : ByteArray) (p : Nat) (g : Nat → Nat → Int) : Prop := ∀ i' j, a.size < i' + p → i' + p ≤ a.size + 2 → i' ≤ a.size → j ≤ b.size → g (i' % 3) j = Dv c a b i' j
/-- .. and in the row i, when q of its cells are filled -/
def InP (c : Ed.Cst) (a b : ByteArray) (i q : Nat) (g : Nat → Nat → Int) : Prop :=
  (∀ i' j, i < i' → i' ≤ i + 2 → i' ≤ a.size → j ≤ b.size → g (i' % 3) j = Dv c a b i' j) ∧ ∀ j, b.size < j + q → j ≤ b.size → g (i % 3) j = Dv c a b i j
theorem InP.start {c : Ed.Cst} {a b : ByteArray} {p i : Nat} {g : Nat → Nat → Int} (h : OutP c a b p g) (hp : i + p = a.size) : InP c a b i 0 g :=
  ⟨fun i' j h1 h2 h3 h4 => h i' j (by omega) (by omega) h3 h4, fun j h1 h2 => by omega⟩
theorem InP.stop {c : Ed.Cst} {a b : ByteArray} {p i : Nat} {g : Nat → Nat → Int} (h : InP c a b i (b.size + 1) g) (hp : i + p = a.size) : OutP c a b (p + 1) g := by
  intro i' j h1 h2 h3 h4
  by_cases e : i' = i
  · subst e; exact h.2 j (by omega) h4
  · exact h.1 i' j (by omega) (by omega) h3 h4
theorem InP.next {c : Ed.Cst} {a b : ByteArray} {i q j : Nat} {g : Nat → Nat → Int} (h : InP c a b i q g) (hj : j + q = b.size) (v : Int) (hv : v = Dv c a b i j) : InP c a b i (q + 1) (fun t' x => if t' = i % 3 ∧ x = j then v else g t' x) := by
  refine ⟨fun i' j' h1 h2 h3 h4 => ?_, fun j' h1 h2 => ?_⟩
  · have : i' % 3 ≠ i % 3 := by omega
    simp only [this, false_and, if_false]
    exact h.1 i' j' h1 h2 h3 h4
  · by_cases e : j' = j
    · subst e; simp [hv]
    · simp only [e, and_false, if_false]
      exact h.2 j' (by omega) h2
/-- the distance at a place, by those that the steps lead to -/
theorem dv_lst (c : Ed.Cst) (a b : ByteArray) (i j : Nat) : (Ed.lst (fun k => Ed.cst c k + Dv c a b (i + Ed.tk k) (j + Ed.wr k)) ((tx a).drop i) ((tx b).drop j) 5).getD 0 = Dv c a b i j := by
  have h := Ed.D_eq c ((tx a).drop i) ((tx b).drop j)
  unfold Dv
  rw [h]
  simp only [List.drop_drop]
theorem dv_bound {c : Ed.Cst} (h : c.ok) (a b : ByteArray) (ha : a.size ≤ 60) (hb : b.size ≤ 60) (i j : Nat) : 0 ≤ Dv c a b i j ∧ Dv c a b i j ≤ 120000 := by
  have h1 := Ed.D_nonneg h ((tx a).drop i) ((tx b).drop j)
  have h2 := Ed.D_max h ((tx a).drop i) ((tx b).drop j)
  rw [List.length_drop, List.length_drop, tx_len, tx_len] at h2
  exact ⟨h1, by unfold Dv; omega⟩
/-- the facts that the walk of least asks for -/
theorem It.facts {c : Ed.Cst} {a b : ByteArray} {q0 s O A B C i q j : Nat} {X : World} {g : Nat → Nat → Int} (h : It c a b q0 s O A B C X g) (hc : c.ok) (ha : a.size ≤ 60) (hb : b.size ≤ 60) (hp : InP c a b i q g) (hi : i ≤ a.size) (hj : j + q = b.size)
    (k : Nat) (h1 : 1 ≤ k) (h5 : k ≤ 5) (hf : Ed.fit k ((tx a).drop i) ((tx b).drop j) = true) :
    X.cell? ⟨s + 1 + (i + Ed.tk k) % 3, j + Ed.wr k, none⟩ = some (.int .i64 (Dv c a b (i + Ed.tk k) (j + Ed.wr k))) ∧ 0 ≤ Dv c a b (i + Ed.tk k) (j + Ed.wr k) ∧ Dv c a b (i + Ed.tk k) (j + Ed.wr k) ≤ 200000 := by
  obtain ⟨l1, l2, l3⟩ := Ed.fit_len hf
  rw [List.length_drop, tx_len] at l1 l2
  have hb2 := dv_bound hc a b ha hb (i + Ed.tk k) (j + Ed.wr k)
  have ht : Ed.tk k ≤ 2 := by unfold Ed.tk; repeat' split
                              all_goals omega
  refine ⟨?_, hb2.1, by omega⟩
  rw [(h.rows ((i + Ed.tk k) % 3) (by omega)).cell (j + Ed.wr k) (by omega)]
  by_cases e : Ed.tk k = 0
  · rw [e, Nat.add_zero, hp.2 (j + Ed.wr k) (by omega) (by omega)]
  · rw [hp.1 (i + Ed.tk k) (j + Ed.wr k) (by omega) (by omega) (by omega) (by omega)]
theorem It.turn {c : Ed.Cst} {a b : ByteArray} {q0 s O A B C : Nat} {X : World} {g : Nat → Nat → Int} (h : It c a b q0 s O A B C X g) (t : Nat) (ht : t < 3) : X.cell? ⟨s, t, none⟩ = some (.slice (some ⟨s + 1 + t, 0, none⟩) (b.size + 1) (b.size + 1)) := by
  obtain ⟨⟨p0, p1, p2⟩, _⟩ := res_facts h.turns
  rcases (show t = 0 ∨ t = 1 ∨ t = 2 by omega) with rfl | rfl | rfl
  · exact p0
  · exact p1
  · exact p2
theorem It.least {c : Ed.Cst} {a b : ByteArray} {q0 s O A B C i q j : Nat} {X : World} {g : Nat → Nat → Int} (h : It c a b q0 s O A B C X g) (hc : c.ok) (ha : a.size ≤ 60) (hb : b.size ≤ 60) (hp : InP c a b i q g) (hi : i ≤ a.size) (hj : j + q = b.size) :
    Calls Try.prog 30 #[ordV A B C, .agg #[sl (s + 1) (b.size + 1), sl (s + 2) (b.size + 1), sl (s + 3) (b.size + 1)], .int .i64 i, .int .i64 j] X (PostI (Dv c a b i j) X) := by
  have L := least_any c A B C a b (fun t => s + 1 + t) (b.size + 1) i j (fun k => Dv c a b (i + Ed.tk k) (j + Ed.wr k)) X hc ha hb hi (by omega) rfl h.cap1 (fun k h1 h5 hf => h.facts hc ha hb hp hi hj k h1 h5 hf)
  rw [dv_lst] at L
  exact L
/-- the memory when the rows begin -/
theorem It.start {c : Ed.Cst} {a b : ByteArray} {q0 : Nat} {W wr w1 w2 : World} {A B C : Nat} (hm : MkS W wr (b.size + 1) 3) (hcap : Caps W q0 (q0 + 1) (q0 + 2) a b c) (hq : q0 + 5 = W.heap.size) (hb1 : Below wr.heap.size wr w1) (hc1 : Caps w1 A B C a b c) (hb2 : Below w1.heap.size w1 w2) :
    It c a b q0 W.heap.size w2.heap.size A B C (w2.alloc (.cells #[.nilFunc, fn1 A B, fn2 A B C, fn3 A B C, fn4 A C, fn5 B C] 73)) (fun _ _ => 0) ∧
      Chg W.heap.size (W.heap.size + 4) W (w2.alloc (.cells #[.nilFunc, fn1 A B, fn2 A B C, fn3 A B C, fn4 A C, fn5 B C] 73)) := by
  obtain ⟨w3, hw3⟩ : ∃ w3, w3 = w2.alloc (.cells #[.nilFunc, fn1 A B, fn2 A B C, fn3 A B C, fn4 A C, fn5 B C] 73) := ⟨_, rfl⟩
  have hb3 : Below w2.heap.size w2 w3 := by rw [hw3]; exact below_new w2 _
  have ho : w3.heap[w2.heap.size]? = some (.cells #[.nilFunc, fn1 A B, fn2 A B C, fn3 A B C, fn4 A C, fn5 B C] 73 (0, 0)) := by rw [hw3]; exact heap_alloc_new w2 _
  rw [← hw3]
  have s1 := hb1.size; have s2 := hb2.size; have s0 := hm.size
  have hb13 : Below wr.heap.size wr w3 := (hb1.trans (hb2.mono s1)).trans (hb3.mono (by omega))
  have hb03 : Below W.heap.size W w3 := hm.bel.trans (hb13.mono (by omega))
  refine ⟨⟨hcap.below hb03, hc1.below (hb2.trans (hb3.mono s2)), (hb13.block _ (by omega)).trans hm.turns, ho, fun t ht => ?_⟩, Chg.of_below hb03⟩
  exact (hm.rows t ht).keep fun o _ hh => (hb13.block _ (by have := (Array.getElem?_eq_some_iff.1 hh).1; omega)).trans hh
end Go.Proofs.Ythojojjdamchpaa
