/-
  A region that draws its order, by what each slot holds once its operation has run: each operation is taken once, whatever the order.
-/
import Derived.Test.YtgcfmkelanhdhaaDoorNatRef8
import Derived.Test.YtgcfmkelanhdhaaDoorNatLong1
namespace Go.Proofs.YtgcfmkelanhdhaaDoor
open Go.RowKit
set_option linter.unusedVariables false

structure InvR (ops : Array Oper) (H : World → Nat → Value → Prop) (n : Nat) (W : World) (f0 : Nat → Value) (f : Nat → Value) (L : Array Bool) (w : World) : Prop where
  bel : Below W.heap.size W w
  old : ∀ j, L.getD j false = false → f j = f0 j
  cl : ∀ i j, L.getD i false = true → Waits ops i j → L.getD j false = true
  at' : ∀ j, j < n → L.getD j false = true → H w j (f j)
theorem InvR.step {ops : Array Oper} {H : World → Nat → Value → Prop} {n : Nat} {W w w' : World} {f0 f : Nat → Value} {L : Array Bool} {i : Nat} {v : Value} (h : InvR ops H n W f0 f L w) (hi : i < L.size) (hrd : i ∈ Region.ready .any ops L) (hst : ∀ w w' j v, H w j v → Below w.heap.size w w' → H w' j v) (hg : Below w.heap.size w w') (hv : H w' i v) :
    InvR ops H n W f0 (upd f i v) (L.setIfInBounds i true) w' := by
  refine ⟨h.bel.trans (hg.mono h.bel.size), fun j hl => ?_, fun a b ha hw => ?_, fun j hj hl => ?_⟩
  · unfold upd
    split
    · rename_i e
      subst e
      simp [Array.getD_eq_getD_getElem?, hi] at hl
    · rename_i e
      have e2 : (L.setIfInBounds i true).getD j false = L.getD j false := by simp [Array.getD_eq_getD_getElem?, Ne.symm e]
      rw [e2] at hl
      exact h.old j hl
  · have mono : ∀ j, L.getD j false = true → (L.setIfInBounds i true).getD j false = true := by
      intro j hj
      by_cases e : i = j
      · subst e; simp [Array.getD_eq_getD_getElem?, hi]
      · have e2 : (L.setIfInBounds i true).getD j false = L.getD j false := by simp [Array.getD_eq_getD_getElem?, e]
        rw [e2]; exact hj
    by_cases e : i = a
    · subst e; exact mono b (hw.done hrd)
    · have e2 : (L.setIfInBounds i true).getD a false = L.getD a false := by simp [Array.getD_eq_getD_getElem?, e]
      rw [e2] at ha
      exact mono b (h.cl a b ha hw)
  unfold upd
  split
  · rename_i e; rw [e]; exact hv
  · rename_i e
    refine hst _ _ _ _ (h.at' j hj ?_) hg
    rw [← hl]
    simp [Array.getD_eq_getD_getElem?, Ne.symm e]
section
variable {ops : Array Oper} {Q : Exit → Act → World → Prop}
theorem regN_any {H : World → Nat → Value → Prop} {n : Nat} (hsize : ops.size = n) (hearly : Earlier ops) (hst : ∀ w w' j v, H w j v → Below w.heap.size w w' → H w' j v) {A : (Nat → Value) → Act} (W : World) (f0 : Nat → Value)
    (hop : ∀ i, i < n → ∀ (L : Array Bool) f w (K : Act → World → Prop), i ∈ Region.ready .any ops L → InvR ops H n W f0 f L w → (∀ v w', Below w.heap.size w w' → H w' i v → K (A (upd f i v)) w') → wpOp Tryd.prog ops Q i K (A f) w)
    (hQ : ∀ f w, Below W.heap.size W w → (∀ j, j < n → H w j (f j)) → Q .normal (A f) w) :
    ∀ (fuel : Nat) (L : Array Bool) (f : Nat → Value) (w : World), L.size = n → L.toList.count false ≤ fuel → InvR ops H n W f0 f L w → wpAny Tryd.prog .any ops Q fuel L (A f) w := by
  have hdone : ∀ (L : Array Bool) f w, L.size = n → Region.ready .any ops L = [] → InvR ops H n W f0 f L w → Q .normal (A f) w := fun L f w hs h0 hi =>
    hQ f w hi.bel (fun j hj => hi.at' j hj (all_done hearly (by rw [hs, hsize]) h0 j (by rw [hsize]; exact hj)))
  intro fuel
  induction fuel with
  | zero =>
    intro L f w hs hc hi
    have h0 : Region.ready .any ops L = [] := by
      refine List.eq_nil_iff_forall_not_mem.2 (fun i hi' => ?_)
      obtain ⟨hl, o, ho, -⟩ := ready_mem hi'
      have hlt : i < L.size := by
        have := (Array.getElem?_eq_some_iff.1 ho).1
        rw [hsize] at this; omega
      have : L.toList.count false ≠ 0 := by
        rw [Ne, List.count_eq_zero]
        intro h
        refine h ?_
        simp only [Array.getD_eq_getD_getElem?, Array.getElem?_eq_getElem hlt, Option.getD_some] at hl
        rw [← hl]
        simp
      omega
    exact ⟨h0, hdone L f w hs h0 hi⟩
  | succ fuel ih =>
    intro L f w hs hc hi
    refine ⟨fun h0 => hdone L f w hs h0 hi, fun i hi' => ?_⟩
    obtain ⟨hl, o, ho, -⟩ := ready_mem hi'
    have hlt : i < n := by
      have := (Array.getElem?_eq_some_iff.1 ho).1
      rw [hsize] at this; omega
    have hcc : (L.setIfInBounds i true).toList.count false ≤ fuel := by
      have hlt' : i < L.toList.length := by simp; omega
      simp only [Array.getD_eq_getD_getElem?, Array.getElem?_eq_getElem (show i < L.size by omega), Option.getD_some] at hl
      rw [Array.toList_setIfInBounds, List.count_set hlt']
      have : L.toList[i] = false := by simpa using hl
      rw [this, if_pos (show (false == false) = true from rfl), if_neg (show ¬ (true == false) = true by decide)]
      omega
    exact hop i hlt L f w _ hi' hi (fun v w' hg hv => ih _ _ _ (by simp [hs]) hcc (hi.step (by rw [hs]; exact hlt) hi' hst hg hv))
theorem regN {H : World → Nat → Value → Prop} {n id : Nat} (hsize : ops.size = n) (hearly : Earlier ops) (hst : ∀ w w' j v, H w j v → Below w.heap.size w w' → H w' j v) {A : (Nat → Value) → Act} (w : World) (f0 : Nat → Value)
    (hop : ∀ i, i < n → ∀ (L : Array Bool) f w' (K : Act → World → Prop), i ∈ Region.ready .any ops L → InvR ops H n w f0 f L w' → (∀ v w2, Below w'.heap.size w' w2 → H w2 i v → K (A (upd f i v)) w2) → wpOp Tryd.prog ops Q i K (A f) w')
    (hQ : ∀ f w', Below w.heap.size w w' → (∀ j, j < n → H w' j (f j)) → Q .normal (A f) w') : Code.wp Tryd.prog (Code.region id ops true) Q (A f0) w := by
  refine wp_region_any (by kernel_rfl) ?_
  rw [hsize]
  refine regN_any hsize hearly hst w f0 hop hQ n _ f0 _ (by simp) (by simp) ⟨?_, fun j _ => rfl, fun a b ha _ => absurd ha ?_, fun j hj hl => ?_⟩
  · exact (Below.refl _ _).grown (grown_drew w none) (Nat.le_refl _) (fun k hk => by cases hk)
  · rw [Array.getD_eq_getD_getElem?, Array.getElem?_replicate]
    split <;> simp
  · rw [Array.getD_eq_getD_getElem?, Array.getElem?_replicate] at hl
    split at hl <;> cases hl
theorem run_enter {f : FuncId} {fn : Func} {c : Code} (hf : Tryd.prog.funcs[f]? = some fn) (hname : (fn.name == "runtime.NumGoroutine") = false) (hb : fn.body = some c) (args : Array Value) (w : World) :
    (callFunc f args).run Tryd.prog w = .ok (.enter f args) w := by
  have h1 : fn.name ≠ "runtime.NumGoroutine" := by simpa using hname
  simp [callFunc, hf, h1, hb]
/-- a call of a function, as one step of a region that draws -/
theorem op_call {i dst g : Nat} {args : Array Operand} {ts : Array TypeId} {K : Act → World → Prop} {a : Act} {w : World} {R : Ending → World → Prop}
    (h : IsOp ops i dst (.call { callee := .value (.func g), args := args, argTypes := ts })) (hrun : ∀ args w, (callFunc g args).run Tryd.prog w = .ok (.enter g args) w) (hc : Calls Tryd.prog g (args.map a.eval) w R)
    (hK : ∀ e w', R e w' → ∃ v, e = .returned v ∧ K (a.put (some dst) v) w') : wpOp Tryd.prog ops Q i K a w := by
  obtain ⟨o, h1, h2, h3, h4⟩ := h
  unfold wpOp
  rw [h1]
  simp only [Region.wanted, h4, if_true]
  left
  unfold Oper.wp
  simp only [execOp, h3]
  go_simp
  refine hc.mono fun e w' he => ?_
  obtain ⟨v, rfl, hk⟩ := hK e w' he
  exact hk
/-- an operation that yields a value and changes nothing -/
theorem op_plain {i dst : Nat} {op : Op} {K : Act → World → Prop} {a : Act} {w : World} {v : Value} {w' : World} (h : IsOp ops i dst op)
    (hrun : ∀ o : Oper, o.op = op → o.dst = some dst → (execOp a.eval o).run Tryd.prog w = .ok (.value v) w') (hK : K (a.put (some dst) v) w') : wpOp Tryd.prog ops Q i K a w := by
  obtain ⟨o, h1, h2, h3, h4⟩ := h
  unfold wpOp
  rw [h1]
  simp only [Region.wanted, h4, if_true]
  left
  unfold Oper.wp
  rw [hrun o h3 h2]
  rw [← h2] at hK
  exact hK
end

end Go.Proofs.YtgcfmkelanhdhaaDoor
