/-
  Lists of hits of one's own; the library's sort of them.
-/
import Derived.Test.YtioncjnjhmnlaaaLexCmp
import Derived.Shelf.SlSortCmp.NoneTotal
namespace Go.Proofs.Ytioncjnjhmnlaaa
open Go.RowKit Go.Lib Go.Sort Lx
set_option linter.unusedVariables false
set_option linter.unusedSimpArgs false

def hitC (l : List (Int × Int)) : List Value := l.flatMap hitV
theorem hitC_cons (x : Int × Int) (l : List (Int × Int)) : hitC (x :: l) = .int .i64 x.1 :: .int .i64 x.2 :: hitC l := rfl
theorem hitC_length (l : List (Int × Int)) : (hitC l).length = l.length * 2 := by
  induction l with
  | nil => rfl
  | cons x l ih => rw [hitC_cons, List.length_cons, List.length_cons, ih, List.length_cons]; omega
theorem hitC_append (l m : List (Int × Int)) : hitC (l ++ m) = hitC l ++ hitC m := by simp [hitC, List.flatMap_append]
theorem hitC_at (l : List (Int × Int)) (i : Nat) (h : i < l.length) : (hitC l)[2 * i]? = some (.int .i64 (l[i]).1) ∧ (hitC l)[2 * i + 1]? = some (.int .i64 (l[i]).2) := by
  induction l generalizing i with
  | nil => simp at h
  | cons x l ih =>
    cases i with
    | zero => exact ⟨rfl, rfl⟩
    | succ i => exact ih i (by simpa using h)
/-- hits of one's own: nil, or a block -/
def OwnH (w : World) (base : Nat) (v : Value) (l : List (Int × Int)) : Prop := w.ownsRow base 38 2 v l.length (hitC l)
theorem OwnH.nil (w : World) (base : Nat) : OwnH w base (.slice none 0 0) [] := World.ownsRow_nil _ _ _ _
theorem OwnH.of {w : World} {base : Nat} {v : Value} {l : List (Int × Int)} {n : Nat} (h : w.ownsRow base 38 2 v n (hitC l)) : OwnH w base v l := by
  have hl := h.1
  rw [hitC_length] at hl
  unfold OwnH
  rw [show l.length = n by omega]
  exact h
theorem OwnH.keep {w w1 : World} {base : Nat} {v : Value} {l : List (Int × Int)} (h : OwnH w base v l) (hk : ∀ k o, v.ownBlock = some k → w.heap[k]? = some o → w1.heap[k]? = some o) : OwnH w1 base v l := by
  refine ⟨h.1, ?_⟩
  rcases h.2 with h2 | ⟨g, cap, cur, h3, h4, h5, h6⟩
  · exact .inl h2
  · exact .inr ⟨g, cap, cur, h3, h4, hk _ _ (by rw [h3]; rfl) h5, h6⟩
theorem OwnH.below {w w1 : World} {base : Nat} {v : Value} {l : List (Int × Int)} (h : OwnH w base v l) (hb : Below w.heap.size w w1) : OwnH w1 base v l :=
  h.keep fun k o _ ho => heap_keep ho hb
theorem OwnH.mono {w : World} {base b2 : Nat} {v : Value} {l : List (Int × Int)} (h : OwnH w base v l) (hb : b2 ≤ base) : OwnH w b2 v l := by
  refine ⟨h.1, ?_⟩
  rcases h.2 with h2 | ⟨g, cap, cur, h3, h4, h5⟩
  · exact .inl h2
  · exact .inr ⟨g, cap, cur, h3, by omega, h5⟩
theorem OwnH.at {w : World} {base : Nat} {v : Value} {l : List (Int × Int)} (h : OwnH w base v l) (k : Nat) (hk : v.ownBlock = some k) : base ≤ k ∧ k < w.heap.size := by
  rcases h.2 with ⟨rfl, -⟩ | ⟨g, cap, cur, rfl, h4, h5, h6⟩
  · cases hk
  · cases hk; exact ⟨h4, (Array.getElem?_eq_some_iff.1 h5).1⟩
/-- a slice that reads as these hits -/
def RdH (w : World) (A : Option Addr) (l : List (Int × Int)) : Prop :=
  0 < l.length → ∃ b off, A = some ⟨b, off, none⟩ ∧ b < w.heap.size ∧ ∀ i (h : i < l.length), w.cell? ⟨b, off + i * 2, none⟩ = some (.int .i64 (l[i]).1) ∧ w.cell? ⟨b, off + i * 2 + 1, none⟩ = some (.int .i64 (l[i]).2)
theorem RdH.below {w w' : World} {A : Option Addr} {l : List (Int × Int)} (h : RdH w A l) (hb : Below w.heap.size w w') : RdH w' A l := by
  intro h0
  obtain ⟨b, off, e, hlt, hc⟩ := h h0
  exact ⟨b, off, e, by have := hb.size; omega, fun i hi => ⟨(bcell hb b _ hlt).trans (hc i hi).1, (bcell hb b _ hlt).trans (hc i hi).2⟩⟩
theorem OwnH.shape {w : World} {base : Nat} {v : Value} {l : List (Int × Int)} (h : OwnH w base v l) : ∃ A c, v = .slice A l.length c ∧ l.length ≤ c ∧ c ≤ 9223372036854775807 ∧ RdH w A l := by
  rcases h.2 with ⟨rfl, h2⟩ | ⟨g, cap, cur, rfl, h4, h5, h6, h7, h8⟩
  · rw [h2]; exact ⟨none, 0, rfl, Nat.le_refl _, by omega, fun h0 => by omega⟩
  · refine ⟨_, cap, rfl, h6, by unfold maxLen at h7; omega, fun h0 => ⟨g, 0, rfl, (Array.getElem?_eq_some_iff.1 h5).1, fun i hi => ?_⟩⟩
    obtain ⟨q1, q2⟩ := hitC_at l i hi
    have a1 := World.ownsRow.cells h (g := g) rfl (2 * i) _ q1
    have a2 := World.ownsRow.cells h (g := g) rfl (2 * i + 1) _ q2
    rw [add_at] at a1 a2
    rw [show 0 + i * 2 = 2 * i by omega]
    exact ⟨a1, a2⟩
/-- the flat row -/
theorem flat_hit (l : List (Int × Int)) : flatK hitV 2 l.toArray = (hitC l).toArray := by
  refine ext_get! (by simp [hitC_length]) fun t ht => ?_
  have ht' : t < l.toArray.size * 2 := by simpa using ht
  have ht2 : t < l.length * 2 := by simpa using ht
  rw [get_flatK _ _ _ t ht']
  have hi : t / 2 < l.length := by omega
  obtain ⟨q1, q2⟩ := hitC_at l (t / 2) hi
  have e1 : (l.toArray)[t / 2]! = l[t / 2] := by simp [hi]
  rw [e1]
  rcases Nat.mod_two_eq_zero_or_one t with h | h
  · have e : t = 2 * (t / 2) := by omega
    rw [h]
    conv => rhs; rw [e]
    simp [q1, hitV]
  · have e : t = 2 * (t / 2) + 1 := by omega
    rw [h]
    conv => rhs; rw [e]
    simp [q2, hitV]
theorem holds_hit {w : World} {g : Nat} {cur : Array Value} {e : TypeId} {l : List (Int × Int)} (hb : w.heap[g]? = some (.cells cur e (0, 0))) (ht : cur.toList.take (l.length * 2) = hitC l) : HoldsK hitV 2 w g 0 l.toArray := by
  unfold HoldsK
  rw [flat_hit]
  intro j hj
  have hj' : j < (hitC l).length := by simpa using hj
  have hj2 : j < l.length * 2 := by rwa [hitC_length] at hj'
  refine ⟨?_, by simp [World.frozen?, hb]⟩
  have h1 : (cur.toList.take (l.length * 2))[j]? = (hitC l)[j]? := by rw [ht]
  rw [List.getElem?_take_of_lt hj2] at h1
  simp only [World.cell?, hb, Nat.zero_add]
  simp only [Option.isSome_none, Bool.false_eq_true, if_false]
  rw [← Array.getElem?_toList, h1]
  simp [hj']
theorem heap_sortedH {w : World} {g n : Nat} {os : Array Obj} {cur : Array Value} {e : TypeId} {fr : Nat × Nat} (d : Array Value) (hb : w.heap[g]? = some (.cells cur e fr)) :
    (grow (putRow id (Sort.ahead w n) g 0 d) os).heap[g]? = some (.cells (putCells id 0 d cur) e fr) := by
  have hg : g < w.heap.size := (Array.getElem?_eq_some_iff.1 hb).1
  rw [heap_grow_old _ _ (by simpa using hg)]
  simp [putRow, mapBlock, Sort.ahead, Array.getElem?_modify, hb, onCells]
theorem grownBy_sortedH {w : World} {g n : Nat} {os : Array Obj} (d : Array Value) : w.grownBy (grow (putRow id (Sort.ahead w n) g 0 d) os) (some g) := by
  refine ⟨rfl, rfl, rfl, by simp, fun k hk hne => ?_⟩
  rw [heap_grow_old _ _ (by simpa using hk)]
  have : g ≠ k := fun e => hne (by rw [e])
  simp [putRow, mapBlock, Sort.ahead, Array.getElem?_modify, this]
theorem take_putCellsH (cur : Array Value) (ts : List Value) (h : ts.length ≤ cur.size) : (putCells id 0 ts.toArray cur).toList.take ts.length = ts := by
  apply List.ext_getElem?
  intro j
  by_cases hj : j < ts.length
  · rw [List.getElem?_take_of_lt hj, Array.getElem?_toList]
    simp [putCells, hj, show j < cur.size by omega]
  · rw [List.getElem?_take_eq_none (by omega), List.getElem?_eq_none (by omega)]
/-- in order: none comes ahead of an earlier one -/
def InH (l : List (Int × Int)) : Prop := l.Pairwise fun a b => ltOf hcmp b a = false
theorem sortHits_any (base : Nat) (A : Option Addr) (n c : Nat) (l : List (Int × Int)) (w : World) (h : OwnH w base (.slice A n c) l) (hl : l.length ≤ 1000000) :
    Calls Try.prog 25 #[.slice A n c, .func (.func 26) #[] #[]] w fun e w' => e = .returned (.tuple #[]) ∧ ∃ l', l'.Perm l ∧ InH l' ∧ OwnH w' base (.slice A n c) l' ∧ w.grownBy w' (Value.slice A n c).ownBlock := by
  have hlen := h.1
  rw [hitC_length] at hlen
  rcases h.2 with ⟨h1, h2⟩ | ⟨g, cap, cur, hv, h4, h5, r1, r2, r3, r4⟩
  · have hnil : l = [] := List.eq_nil_of_length_eq_zero h2
    subst hnil
    cases h1
    refine (AnyF.slices_SortFunc_none { Try.sortHit with } none 0 _ w).mono ?_
    rintro e w' ⟨rfl, rfl⟩
    exact ⟨rfl, [], List.Perm.refl _, List.Pairwise.nil, h, World.grownBy.refl _ _⟩
  · cases hv
    have hH := holds_hit h5 (by simpa using r4)
    have hgl := (Array.getElem?_eq_some_iff.1 h5).1
    have eg : ∀ args w, (callFunc 26 args).run Try.prog w = .ok (.enter 26 args) w := enters_of Try.func26 (by kernel_rfl) rfl
    have hcon := AnyQ.slices_SortFunc Try.sortHit 2 Try.isAgg38 Try.sizeOf38 hitV (fun _ => rfl) (fun x v hv => by simp [hitV] at hv; rcases hv with rfl | rfl <;> rfl) hcmp hcmp_swo 26 #[] g 0 c l.toArray w eg (fun _ _ _ _ x y => closure_any x y _) hH hgl (by simp; omega)
    change Calls _ 25 _ _ _ at hcon
    refine Calls.mono hcon ?_
    rintro e w' ⟨rfl, d', nn, os, hp, hs, rfl⟩
    obtain ⟨l', rfl⟩ : ∃ l', d' = List.toArray l' := ⟨d'.toList, by simp⟩
    have hpl : l'.length = l.length := by simpa using hp.1
    refine ⟨rfl, l', ?_, ?_, ?_, ?_⟩
    · have := hp.2.2
      simpa [hpl, List.take_of_length_le] using this
    · unfold InH
      rw [List.pairwise_iff_getElem]
      intro i j hi hj hij
      have := hs i j (Nat.zero_le _) hij (by simpa [hpl] using hj)
      simpa [hi, hj] using this
    · unfold sortWorldK putRowK
      rw [flat_hit]
      refine ⟨by rw [hitC_length], .inr ⟨g, c, _, by rw [hpl], h4, heap_sortedH _ h5, by omega, r2, by simp [putCells, r3], ?_⟩⟩
      rw [← hitC_length]
      exact take_putCellsH cur (hitC l') (by rw [hitC_length]; omega)
    · unfold sortWorldK putRowK
      exact grownBy_sortedH _
end Go.Proofs.Ytioncjnjhmnlaaa
