/-
  A region that draws its order, of two slices that are made and appended to: whatever the order.
-/
import Derived.Test.YtgcfmkelanhdhaaDoorNatWrong0
import Derived.Deep.RegionLawGrows
import Derived.RegionTactic
namespace Go.Proofs.YtgcfmkelanhdhaaDoor
open Go.RowKit
set_option linter.unusedVariables false

/-- a slice that fills its block -/
def Full (w : World) (v : Value) (l : List Int) : Prop := ∃ g, v = .slice (some ⟨g, 0, none⟩) l.length l.length ∧ Blk w g [] l []
theorem Full.grow {w w' : World} {v : Value} {l : List Int} (h : Full w v l) (hg : w.grownBy w' none) : Full w' v l := by
  obtain ⟨g, h1, h2⟩ := h
  exact ⟨g, h1, h2.kept hg (by simp)⟩
theorem Own.grow {w w' : World} {b : Nat} {v : Value} {l : List Int} (h : Own w b v l) (hg : w.grownBy w' none) : Own w' b v l := by
  rcases h with h | ⟨g, s, h1, h2, h3⟩
  · exact .inl h
  · exact .inr ⟨g, s, h1, h2.kept hg (by simp), h3⟩
theorem Own.lower {w : World} {b : Nat} {v : Value} {l : List Int} (h : Own w b v l) : Own w 0 v l := by
  rcases h with h | ⟨g, s, h1, h2, h3, h4⟩
  · exact .inl h
  · exact .inr ⟨g, s, h1, h2, Nat.zero_le _, h4⟩
/-- what a slot holds once its operation has run -/
def Holds (I K : Nat) (x y : Int) (w : World) : Nat → Value → Prop
  | 0, v => v = .int .i64 I
  | 1, v => Full w v (List.replicate I 0)
  | 2, v => v = .int .u32 x
  | 3, v => Full w v [x]
  | 4, v => Own w 0 v (List.replicate I 0 ++ [x])
  | 5, v => v = .int .i64 K
  | 6, v => Full w v (List.replicate K 0)
  | 7, v => v = .int .u32 y
  | 8, v => Full w v [y]
  | 9, v => Own w 0 v (List.replicate K 0 ++ [y])
  | 10, v => Own w 0 v (List.replicate I 0 ++ [x])
  | 11, v => Own w 0 v (List.replicate K 0 ++ [y])
  | _, _ => True
theorem Holds.grow {I K : Nat} {x y : Int} {w w' : World} {i : Nat} {v : Value} (h : Holds I K x y w i v) (hg : w.grownBy w' none) : Holds I K x y w' i v := by
  unfold Holds at *
  split at h <;> first | exact h | exact Full.grow h hg | exact Own.grow h hg | trivial
def upd (f : Nat → Value) (i : Nat) (v : Value) : Nat → Value := fun j => if j = i then v else f j
structure Inv5 (W : World) (I K : Nat) (x y : Int) (f : Nat → Value) (L : Array Bool) (w : World) : Prop where
  bel : Below W.heap.size W w
  at' : ∀ j, j < 12 → L.getD j false = true → Holds I K x y w j (f j)
theorem Inv5.step {W w w' : World} {I K : Nat} {x y : Int} {f : Nat → Value} {L : Array Bool} {i : Nat} {v : Value} (h : Inv5 W I K x y f L w) (hg : w.grownBy w' none) (hv : Holds I K x y w' i v) :
    Inv5 W I K x y (upd f i v) (L.setIfInBounds i true) w' := by
  refine ⟨h.bel.grown hg h.bel.size (fun k hk => by cases hk), fun j hj hl => ?_⟩
  unfold upd
  split
  · rename_i e; rw [e]; exact hv
  · rename_i e
    refine (h.at' j hj ?_).grow hg
    rw [← hl]
    simp [Array.getD_eq_getD_getElem?, Ne.symm e]
section
variable {ops : Array Oper}
theorem ready_mem {md : Region.Mode} {L : Array Bool} {i : Nat} (h : i ∈ Region.ready md ops L) :
    L.getD i true = false ∧ ∃ o, ops[i]? = some o ∧ ∀ e ∈ o.after.toList, Region.binds md e = true → L.getD e.on false = true := by
  unfold Region.ready at h
  rw [List.mem_filter] at h
  obtain ⟨-, h⟩ := h
  simp only [Bool.and_eq_true, Bool.not_eq_true'] at h
  refine ⟨h.1, ?_⟩
  cases ho : ops[i]? with
  | none => rw [ho] at h; simp at h
  | some o =>
    rw [ho] at h
    refine ⟨o, rfl, fun e he hb => ?_⟩
    have h2 := h.2
    simp only [Option.map_some, Option.getD_some, Array.all_eq_true'] at h2
    have := h2 e (by simpa using he)
    simpa [hb] using this
/-- operation i waits for operation j -/
def Waits (ops : Array Oper) (i j : Nat) : Prop := ∃ (o : Oper) (k : Nat) (e : Edge), ops[i]? = some o ∧ o.after.toList[k]? = some e ∧ e.on = j ∧ Region.binds .any e = true
theorem Waits.done {L : Array Bool} {i j : Nat} (h : Waits ops i j) (hi : i ∈ Region.ready .any ops L) : L.getD j false = true := by
  obtain ⟨o, k, e, h1, h2, h3, h4⟩ := h
  obtain ⟨-, o', ho', h'⟩ := ready_mem hi
  obtain rfl : o = o' := by rw [h1] at ho'; exact Option.some.inj ho'
  rw [← h3]
  exact h' e (List.mem_of_getElem? h2) h4
/-- every operation waits for earlier ones alone -/
def Earlier (ops : Array Oper) : Prop := ∀ (i : Nat) (o : Oper), ops[i]? = some o → ∀ e ∈ o.after.toList, e.on < i
theorem all_done {L : Array Bool} (hb : Earlier ops) (hs : L.size = ops.size) (h : Region.ready .any ops L = []) : ∀ i, i < ops.size → L.getD i false = true := by
  intro i
  induction i using Nat.strongRecOn with
  | _ i ih =>
    intro hi
    cases hl : L.getD i false with
    | true => rfl
    | false =>
      exfalso
      have hlt : i < L.size := by omega
      have hl2 : L.getD i true = false := by
        simp only [Array.getD_eq_getD_getElem?, Array.getElem?_eq_getElem hlt, Option.getD_some] at hl ⊢
        exact hl
      have : i ∈ Region.ready .any ops L := by
        unfold Region.ready
        rw [List.mem_filter]
        refine ⟨List.mem_range.2 hi, ?_⟩
        simp only [hl2, Bool.not_false, Bool.true_and, Array.getElem?_eq_getElem hi, Option.map_some, Option.getD_some, Array.all_eq_true']
        intro e he
        have := hb i _ (Array.getElem?_eq_getElem hi) e (by simpa using he)
        rw [ih e.on this (by omega)]
        simp
      rw [h] at this
      cases this
/-- what an operation is -/
def IsOp (ops : Array Oper) (i dst : Nat) (op : Op) : Prop := ∃ o : Oper, ops[i]? = some o ∧ o.dst = some dst ∧ o.op = op ∧ o.guard = none
variable {Q : Exit → Act → World → Prop}
theorem op_move {i dst s : Nat} {K : Act → World → Prop} {a : Act} {w : World} (h : IsOp ops i dst (.move (.tmp s))) (hK : K (a.put (some dst) (a.eval (.tmp s))) w) : wpOp Tryd.prog ops Q i K a w := by
  obtain ⟨o, h1, h2, h3, h4⟩ := h
  unfold wpOp
  rw [h1]
  simp only [Region.wanted, h4, if_true]
  left
  unfold Oper.wp
  rw [← h2] at hK
  simp [execOp, h3, Oper.upon]
  exact hK
theorem op_assign {i dst s : Nat} {K : Act → World → Prop} {a : Act} {w : World} (h : IsOp ops i dst (.assign (.tmp s))) (hK : K (a.put (some dst) (a.eval (.tmp s))) w) : wpOp Tryd.prog ops Q i K a w := by
  obtain ⟨o, h1, h2, h3, h4⟩ := h
  unfold wpOp
  rw [h1]
  simp only [Region.wanted, h4, if_true]
  left
  unfold Oper.wp
  rw [← h2] at hK
  simp [execOp, h3, Oper.upon]
  exact hK
theorem op_make {i dst s n : Nat} {K : Act → World → Prop} {a : Act} {w : World} (h : IsOp ops i dst (.makeSlice 22 (.tmp s) (.tmp s))) (hs : a.eval (.tmp s) = .int .i64 (n : Int)) (hn : n ≤ 1000000)
    (hK : ∀ v w', w.grownBy w' none → Full w' v (List.replicate n 0) → K (a.put (some dst) v) w') : wpOp Tryd.prog ops Q i K a w := by
  obtain ⟨o, h1, h2, h3, h4⟩ := h
  unfold wpOp
  rw [h1]
  simp only [Region.wanted, h4, if_true]
  left
  obtain ⟨i0, hi, hz0, hz1, hz2⟩ := info_parts infoU32
  obtain ⟨w', hrun, r1, r2⟩ := run_make_full (P := Tryd.prog) w w.heap.size 22 48 i0 (.int .u32 0) 1 Tryd.underlying22 hi hz0 hz1 .i64 .i64 n (by rw [hz2]; omega) (by unfold maxLen; omega) (Nat.le_refl _)
  have e : (madeCells (Value.int .u32 0).cells (n * 1)).toList = (List.replicate n (0 : Int)).map (Value.int .u32) := by
    rw [Nat.mul_one, show (Value.int .u32 0).cells = #[Value.int .u32 0] from rfl, toList_madeCells_one, List.map_replicate]
  rw [e] at r1
  obtain ⟨s', k1, k2, k3, k4, k5⟩ := own_blk r1
  obtain rfl : s' = [] := List.eq_nil_of_length_eq_zero (by omega)
  have := hK _ w' r2 ⟨w.heap.size, by rw [List.length_replicate], k1⟩
  rw [← h2] at this
  unfold Oper.wp
  simp [execOp, h3, hs, hrun, Result.andThen, Oper.upon]
  exact this
theorem op_build {i dst s : Nat} {x : Int} {K : Act → World → Prop} {a : Act} {w : World} (h : IsOp ops i dst (.buildSlice 22 1 #[(0, .tmp s)])) (hs : a.eval (.tmp s) = .int .u32 x)
    (hK : ∀ v w', w.grownBy w' none → Full w' v [x] → K (a.put (some dst) v) w') : wpOp Tryd.prog ops Q i K a w := by
  obtain ⟨o, h1, h2, h3, h4⟩ := h
  unfold wpOp
  rw [h1]
  simp only [Region.wanted, h4, if_true]
  left
  have := hK (.slice (some ⟨w.heap.size, 0, none⟩) 1 1) (w.alloc (.cells #[.int .u32 x] 48)) (World.grownBy_alloc w _ none) ⟨w.heap.size, rfl, by unfold Blk; exact heap_alloc_new w _⟩
  unfold Oper.wp
  have e : (#[((0 : Nat), Operand.tmp s)].map fun (p : Nat × Operand) => (p.1, a.eval p.2)) = #[(0, .int .u32 x)] := by simp [hs]
  simp only [execOp, h3, e]
  go_simp
  exact this
theorem full_cells {w : World} {v : Value} {l : List Int} (h : Full w v l) : ∃ g, v = .slice (some ⟨g, 0, none⟩) l.length l.length ∧ ∀ j u, (l.map (Value.int .u32))[j]? = some u → w.cell? ((⟨g, 0, none⟩ : Addr).add j) = some u := by
  obtain ⟨g, h1, h2⟩ := h
  refine ⟨g, h1, fun j u hu => ?_⟩
  have hj : j < l.length := by
    have := (List.getElem?_eq_some_iff.1 hu).1
    simpa using this
  have ea : (⟨g, 0, none⟩ : Addr).add j = ⟨g, j, none⟩ := by unfold Addr.add; split <;> simp [*]
  rw [ea, h2.cell j hj (by simp)]
  simpa [List.getD_eq_getElem?_getD, List.getElem?_eq_getElem hj] using hu
theorem op_append {i dst s t : Nat} {x : Int} {l : List Int} {K : Act → World → Prop} {a : Act} {w : World}
    (h : IsOp ops i dst (.call { callee := .builtin .append, args := #[.tmp s, .tmp t], argTypes := #[22, 22] }))
    (hs : Full w (a.eval (.tmp s)) l) (ht : Full w (a.eval (.tmp t)) [x]) (hl : l.length ≤ 1000000)
    (hK : ∀ v w', w.grownBy w' none → Own w' 0 v (l ++ [x]) → K (a.put (some dst) v) w') : wpOp Tryd.prog ops Q i K a w := by
  obtain ⟨o, h1, h2, h3, h4⟩ := h
  obtain ⟨i0, hi, hz0, hz1, hz2⟩ := info_parts infoU32
  obtain ⟨g1, e1, c1⟩ := full_cells hs
  obtain ⟨g2, e2, c2⟩ := full_cells ht
  have := step_append_grows (P := Tryd.prog) (ops := ops) (o := o) (a := a) (w := w) (K := K) (Q := Q) (E := False) h4 (.tmp s) (.tmp t) 22 h3 48 i0 (.int .u32 0) 1 4 Tryd.underlying22 hi hz0 hz1 hz2 rfl (by decide)
    (some ⟨g1, 0, none⟩) l.length l.length (l.map (Value.int .u32)) e1 (fun e => by cases e) (by simp) (fun b e => by cases e; exact c1) ⟨g2, 0, none⟩ 1 1 [.int .u32 x] e2 rfl c2
    (fun u hu => by simp at hu; subst hu; rfl) (by omega) (by unfold maxLen; omega) (by omega)
    (fun v' w' r1 r2 => by
      rw [h2]
      exact hK v' w' r2 ((own_of (n := l.length + 1) (by simpa using r1)).lower))
  unfold wpOp
  rw [h1]
  simp only [Region.wanted, h4, if_true] at this ⊢
  exact .inl this
/-- the region: twelve operations -/
structure Reg5 (ops : Array Oper) : Prop where
  size : ops.size = 12
  early : Earlier ops
  o0 : IsOp ops 0 30 (.move (.tmp 9))
  o1 : IsOp ops 1 31 (.makeSlice 22 (.tmp 30) (.tmp 30))
  o2 : IsOp ops 2 32 (.move (.tmp 2))
  o3 : IsOp ops 3 33 (.buildSlice 22 1 #[(0, .tmp 32)])
  o4 : IsOp ops 4 34 (.call { callee := .builtin .append, args := #[.tmp 31, .tmp 33], argTypes := #[22, 22] })
  o5 : IsOp ops 5 35 (.move (.tmp 10))
  o6 : IsOp ops 6 36 (.makeSlice 22 (.tmp 35) (.tmp 35))
  o7 : IsOp ops 7 37 (.move (.tmp 3))
  o8 : IsOp ops 8 38 (.buildSlice 22 1 #[(0, .tmp 37)])
  o9 : IsOp ops 9 39 (.call { callee := .builtin .append, args := #[.tmp 36, .tmp 38], argTypes := #[22, 22] })
  o10 : IsOp ops 10 11 (.assign (.tmp 34))
  o11 : IsOp ops 11 12 (.assign (.tmp 39))
  w1 : Waits ops 1 0
  w3 : Waits ops 3 2
  w4 : Waits ops 4 1
  w4' : Waits ops 4 3
  w6 : Waits ops 6 5
  w8 : Waits ops 8 7
  w9 : Waits ops 9 6
  w9' : Waits ops 9 8
  w10 : Waits ops 10 4
  w11 : Waits ops 11 9
/-- the slots, seen as what the twelve operations have left in them -/
structure Acts (A : (Nat → Value) → Act) (I K : Nat) (x y : Int) : Prop where
  e9 : ∀ f, (A f).eval (.tmp 9) = .int .i64 I
  e2 : ∀ f, (A f).eval (.tmp 2) = .int .u32 x
  e10 : ∀ f, (A f).eval (.tmp 10) = .int .i64 K
  e3 : ∀ f, (A f).eval (.tmp 3) = .int .u32 y
  e30 : ∀ f, (A f).eval (.tmp 30) = f 0
  e31 : ∀ f, (A f).eval (.tmp 31) = f 1
  e32 : ∀ f, (A f).eval (.tmp 32) = f 2
  e33 : ∀ f, (A f).eval (.tmp 33) = f 3
  e34 : ∀ f, (A f).eval (.tmp 34) = f 4
  e35 : ∀ f, (A f).eval (.tmp 35) = f 5
  e36 : ∀ f, (A f).eval (.tmp 36) = f 6
  e37 : ∀ f, (A f).eval (.tmp 37) = f 7
  e38 : ∀ f, (A f).eval (.tmp 38) = f 8
  e39 : ∀ f, (A f).eval (.tmp 39) = f 9
  p0 : ∀ f v, (A f).put (some 30) v = A (upd f 0 v)
  p1 : ∀ f v, (A f).put (some 31) v = A (upd f 1 v)
  p2 : ∀ f v, (A f).put (some 32) v = A (upd f 2 v)
  p3 : ∀ f v, (A f).put (some 33) v = A (upd f 3 v)
  p4 : ∀ f v, (A f).put (some 34) v = A (upd f 4 v)
  p5 : ∀ f v, (A f).put (some 35) v = A (upd f 5 v)
  p6 : ∀ f v, (A f).put (some 36) v = A (upd f 6 v)
  p7 : ∀ f v, (A f).put (some 37) v = A (upd f 7 v)
  p8 : ∀ f v, (A f).put (some 38) v = A (upd f 8 v)
  p9 : ∀ f v, (A f).put (some 39) v = A (upd f 9 v)
  p10 : ∀ f v, (A f).put (some 11) v = A (upd f 10 v)
  p11 : ∀ f v, (A f).put (some 12) v = A (upd f 11 v)
theorem reg5_any (hr : Reg5 ops) {A : (Nat → Value) → Act} {I K : Nat} {x y : Int} (ha : Acts A I K x y) (hI : I ≤ 1000000) (hK : K ≤ 1000000) (W : World)
    (hQ : ∀ f w, Below W.heap.size W w → (∀ j, j < 12 → Holds I K x y w j (f j)) → Q .normal (A f) w) :
    ∀ (fuel : Nat) (L : Array Bool) (f : Nat → Value) (w : World), L.size = 12 → L.toList.count false ≤ fuel → Inv5 W I K x y f L w → wpAny Tryd.prog .any ops Q fuel L (A f) w := by
  have hdone : ∀ (L : Array Bool) f w, L.size = 12 → Region.ready .any ops L = [] → Inv5 W I K x y f L w → Q .normal (A f) w := fun L f w hs h0 hi =>
    hQ f w hi.bel (fun j hj => hi.at' j hj (all_done hr.early (by rw [hs, hr.size]) h0 j (by rw [hr.size]; exact hj)))
  intro fuel
  induction fuel with
  | zero =>
    intro L f w hs hc hi
    have h0 : Region.ready .any ops L = [] := by
      refine List.eq_nil_iff_forall_not_mem.2 (fun i hi' => ?_)
      obtain ⟨hl, o, ho, -⟩ := ready_mem hi'
      have hlt : i < L.size := by
        have := (Array.getElem?_eq_some_iff.1 ho).1
        rw [hr.size] at this; omega
      have : L.toList.count false ≠ 0 := by
        rw [Ne, List.count_eq_zero]
        intro h
        refine h ?_
        simp only [Array.getD_eq_getD_getElem?, Array.getElem?_eq_getElem hlt, Option.getD_some] at hl
        rw [← hl]
        simp
      omega
    exact ⟨h0, hdone L f w hs h0 hi⟩
  | succ fuel ih =>
    intro L f w hs hc hi
    refine ⟨fun h0 => hdone L f w hs h0 hi, fun i hi' => ?_⟩
    obtain ⟨hl, o, ho, -⟩ := ready_mem hi'
    have hlt : i < 12 := by
      have := (Array.getElem?_eq_some_iff.1 ho).1
      rw [hr.size] at this; omega
    have hcc : (L.setIfInBounds i true).toList.count false ≤ fuel := by
      have hlt' : i < L.toList.length := by simp; omega
      simp only [Array.getD_eq_getD_getElem?, Array.getElem?_eq_getElem (show i < L.size by omega), Option.getD_some] at hl
      rw [Array.toList_setIfInBounds, List.count_set hlt']
      have : L.toList[i] = false := by simpa using hl
      rw [this, if_pos (show (false == false) = true from rfl), if_neg (show ¬ (true == false) = true by decide)]
      omega
    have go : ∀ v w', w.grownBy w' none → Holds I K x y w' i v → wpAny Tryd.prog .any ops Q fuel (L.setIfInBounds i true) (A (upd f i v)) w' := fun v w' hg hv =>
      ih _ _ _ (by simp [hs]) hcc (hi.step hg hv)
    have gr := grown_refl w none
    have AT := hi.at'
    match i, hlt with
    | 0, _ => exact op_move hr.o0 (by rw [ha.p0]; exact go _ _ gr (ha.e9 f))
    | 1, _ => exact op_make (n := I) hr.o1 (by rw [ha.e30]; exact AT 0 (by omega) (hr.w1.done hi')) hI (fun v w' hg hv => by rw [ha.p1]; exact go v w' hg hv)
    | 2, _ => exact op_move hr.o2 (by rw [ha.p2]; exact go _ _ gr (ha.e2 f))
    | 3, _ => exact op_build (x := x) hr.o3 (by rw [ha.e32]; exact AT 2 (by omega) (hr.w3.done hi')) (fun v w' hg hv => by rw [ha.p3]; exact go v w' hg hv)
    | 4, _ => exact op_append (x := x) (l := List.replicate I 0) hr.o4 (by rw [ha.e31]; exact AT 1 (by omega) (hr.w4.done hi')) (by rw [ha.e33]; exact AT 3 (by omega) (hr.w4'.done hi')) (by simpa using hI) (fun v w' hg hv => by rw [ha.p4]; exact go v w' hg hv)
    | 5, _ => exact op_move hr.o5 (by rw [ha.p5]; exact go _ _ gr (ha.e10 f))
    | 6, _ => exact op_make (n := K) hr.o6 (by rw [ha.e35]; exact AT 5 (by omega) (hr.w6.done hi')) hK (fun v w' hg hv => by rw [ha.p6]; exact go v w' hg hv)
    | 7, _ => exact op_move hr.o7 (by rw [ha.p7]; exact go _ _ gr (ha.e3 f))
    | 8, _ => exact op_build (x := y) hr.o8 (by rw [ha.e37]; exact AT 7 (by omega) (hr.w8.done hi')) (fun v w' hg hv => by rw [ha.p8]; exact go v w' hg hv)
    | 9, _ => exact op_append (x := y) (l := List.replicate K 0) hr.o9 (by rw [ha.e36]; exact AT 6 (by omega) (hr.w9.done hi')) (by rw [ha.e38]; exact AT 8 (by omega) (hr.w9'.done hi')) (by simpa using hK) (fun v w' hg hv => by rw [ha.p9]; exact go v w' hg hv)
    | 10, _ => exact op_assign hr.o10 (by rw [ha.p10, ha.e34]; exact go _ _ gr (AT 4 (by omega) (hr.w10.done hi')))
    | 11, _ => exact op_assign hr.o11 (by rw [ha.p11, ha.e39]; exact go _ _ gr (AT 9 (by omega) (hr.w11.done hi')))
    | n + 12, h => exact absurd h (by omega)
theorem reg5 {id : Nat} (hr : Reg5 ops) {A : (Nat → Value) → Act} {I K : Nat} {x y : Int} (ha : Acts A I K x y) (hI : I ≤ 1000000) (hK : K ≤ 1000000) (W w : World) (f : Nat → Value) (hb : Below W.heap.size W w)
    (hQ : ∀ f w, Below W.heap.size W w → (∀ j, j < 12 → Holds I K x y w j (f j)) → Q .normal (A f) w) : Code.wp Tryd.prog (Code.region id ops true) Q (A f) w := by
  refine wp_region_any (by kernel_rfl) ?_
  rw [hr.size]
  refine reg5_any hr ha hI hK W hQ 12 _ f _ (by simp) (by decide) ⟨?_, fun j hj hl => ?_⟩
  · exact hb.grown (grown_drew w none) hb.size (fun k hk => by cases hk)
  · rw [Array.getD_eq_getD_getElem?, Array.getElem?_replicate] at hl
    split at hl <;> cases hl

end
end Go.Proofs.YtgcfmkelanhdhaaDoor
