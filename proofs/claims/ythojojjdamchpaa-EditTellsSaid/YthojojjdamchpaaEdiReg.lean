/-
  Regions that draw their order, by what each slot holds once its operation has run; the slots lie one behind another.
-/
import Derived.Test.YthojojjdamchpaaEdiAwake0
import Derived.Deep.RegionLawGrows
import Derived.RegionTactic
namespace Go.Proofs.Ythojojjdamchpaa
open Go.RowKit Go.Shelf
set_option linter.unusedVariables false
set_option linter.unusedSimpArgs false

def upd (f : Nat → Value) (i : Nat) (v : Value) : Nat → Value := fun j => if j = i then v else f j
section
variable {ops : Array Oper}
theorem ready_mem {md : Region.Mode} {L : Array Bool} {i : Nat} (h : i ∈ Region.ready md ops L) :
    L.getD i true = false ∧ ∃ o, ops[i]? = some o ∧ ∀ e ∈ o.after.toList, Region.binds md e = true → L.getD e.on false = true := by
  unfold Region.ready at h
  rw [List.mem_filter] at h
  obtain ⟨-, h⟩ := h
  simp only [Bool.and_eq_true, Bool.not_eq_true'] at h
  refine ⟨h.1, ?_⟩
  cases ho : ops[i]? with
  | none => rw [ho] at h; simp at h
  | some o =>
    rw [ho] at h
    refine ⟨o, rfl, fun e he hb => ?_⟩
    have h2 := h.2
    simp only [Option.map_some, Option.getD_some, Array.all_eq_true'] at h2
    have := h2 e (by simpa using he)
    simpa [hb] using this
/-- operation i waits for operation j -/
def Waits (ops : Array Oper) (i j : Nat) : Prop := ∃ (o : Oper) (k : Nat) (e : Edge), ops[i]? = some o ∧ o.after.toList[k]? = some e ∧ e.on = j ∧ Region.binds .any e = true
theorem Waits.done {L : Array Bool} {i j : Nat} (h : Waits ops i j) (hi : i ∈ Region.ready .any ops L) : L.getD j false = true := by
  obtain ⟨o, k, e, h1, h2, h3, h4⟩ := h
  obtain ⟨-, o', ho', h'⟩ := ready_mem hi
  obtain rfl : o = o' := by rw [h1] at ho'; exact Option.some.inj ho'
  rw [← h3]
  exact h' e (List.mem_of_getElem? h2) h4
/-- every operation waits for earlier ones alone -/
def Earlier (ops : Array Oper) : Prop := ∀ (i : Nat) (o : Oper), ops[i]? = some o → ∀ e ∈ o.after.toList, e.on < i
theorem all_done {L : Array Bool} (hb : Earlier ops) (hs : L.size = ops.size) (h : Region.ready .any ops L = []) : ∀ i, i < ops.size → L.getD i false = true := by
  intro i
  induction i using Nat.strongRecOn with
  | _ i ih =>
    intro hi
    cases hl : L.getD i false with
    | true => rfl
    | false =>
      exfalso
      have hlt : i < L.size := by omega
      have hl2 : L.getD i true = false := by
        simp only [Array.getD_eq_getD_getElem?, Array.getElem?_eq_getElem hlt, Option.getD_some] at hl ⊢
        exact hl
      have : i ∈ Region.ready .any ops L := by
        unfold Region.ready
        rw [List.mem_filter]
        refine ⟨List.mem_range.2 hi, ?_⟩
        simp only [hl2, Bool.not_false, Bool.true_and, Array.getElem?_eq_getElem hi, Option.map_some, Option.getD_some, Array.all_eq_true']
        intro e he
        have := hb i _ (Array.getElem?_eq_getElem hi) e (by simpa using he)
        rw [ih e.on this (by omega)]
        simp
      rw [h] at this
      cases this
/-- what an operation is -/
def IsOp (ops : Array Oper) (i dst : Nat) (op : Op) : Prop := ∃ o : Oper, ops[i]? = some o ∧ o.dst = some dst ∧ o.op = op ∧ o.guard = none
variable {Q : Exit → Act → World → Prop}
theorem op_move {i dst s : Nat} {K : Act → World → Prop} {a : Act} {w : World} (h : IsOp ops i dst (.move (.tmp s))) (hK : K (a.put (some dst) (a.eval (.tmp s))) w) : wpOp Try.prog ops Q i K a w := by
  obtain ⟨o, h1, h2, h3, h4⟩ := h
  unfold wpOp
  rw [h1]
  simp only [Region.wanted, h4, if_true]
  left
  unfold Oper.wp
  rw [← h2] at hK
  simp [execOp, h3, Oper.upon]
  exact hK
end

def earlierB (ops : Array Oper) : Bool := (List.range ops.size).all fun i => ((ops[i]?).map fun o => o.after.toList.all fun e => decide (e.on < i)).getD true
theorem early_of {ops : Array Oper} (h : earlierB ops = true) : Earlier ops := by
  intro i o ho e he
  have hi := (Array.getElem?_eq_some_iff.1 ho).1
  unfold earlierB at h
  rw [List.all_eq_true] at h
  have := h i (List.mem_range.2 hi)
  rw [ho] at this
  simp only [Option.map_some, Option.getD_some, List.all_eq_true, decide_eq_true_eq] at this
  exact this e he
structure InvR (ops : Array Oper) (H : World → Nat → Value → Prop) (n : Nat) (W : World) (f0 : Nat → Value) (f : Nat → Value) (L : Array Bool) (w : World) : Prop where
  bel : Below W.heap.size W w
  old : ∀ j, L.getD j false = false → f j = f0 j
  cl : ∀ i j, L.getD i false = true → Waits ops i j → L.getD j false = true
  at' : ∀ j, j < n → L.getD j false = true → H w j (f j)
theorem InvR.step {ops : Array Oper} {H : World → Nat → Value → Prop} {n : Nat} {W w w' : World} {f0 f : Nat → Value} {L : Array Bool} {i : Nat} {v : Value} (h : InvR ops H n W f0 f L w) (hi : i < L.size) (hrd : i ∈ Region.ready .any ops L) (hst : ∀ w w' j v, H w j v → Below w.heap.size w w' → H w' j v) (hg : Below w.heap.size w w') (hv : H w' i v) :
    InvR ops H n W f0 (upd f i v) (L.setIfInBounds i true) w' := by
  refine ⟨h.bel.trans (hg.mono h.bel.size), fun j hl => ?_, fun a b ha hw => ?_, fun j hj hl => ?_⟩
  · unfold upd
    split
    · rename_i e
      subst e
      simp [Array.getD_eq_getD_getElem?, hi] at hl
    · rename_i e
      have e2 : (L.setIfInBounds i true).getD j false = L.getD j false := by simp [Array.getD_eq_getD_getElem?, Ne.symm e]
      rw [e2] at hl
      exact h.old j hl
  · have mono : ∀ j, L.getD j false = true → (L.setIfInBounds i true).getD j false = true := by
      intro j hj
      by_cases e : i = j
      · subst e; simp [Array.getD_eq_getD_getElem?, hi]
      · have e2 : (L.setIfInBounds i true).getD j false = L.getD j false := by simp [Array.getD_eq_getD_getElem?, e]
        rw [e2]; exact hj
    by_cases e : i = a
    · subst e; exact mono b (hw.done hrd)
    · have e2 : (L.setIfInBounds i true).getD a false = L.getD a false := by simp [Array.getD_eq_getD_getElem?, e]
      rw [e2] at ha
      exact mono b (h.cl a b ha hw)
  unfold upd
  split
  · rename_i e; rw [e]; exact hv
  · rename_i e
    refine hst _ _ _ _ (h.at' j hj ?_) hg
    rw [← hl]
    simp [Array.getD_eq_getD_getElem?, Ne.symm e]
section
variable {ops : Array Oper} {Q : Exit → Act → World → Prop}
theorem regN_any {H : World → Nat → Value → Prop} {n : Nat} (hsize : ops.size = n) (hearly : Earlier ops) (hst : ∀ w w' j v, H w j v → Below w.heap.size w w' → H w' j v) {A : (Nat → Value) → Act} (W : World) (f0 : Nat → Value)
    (hop : ∀ i, i < n → ∀ (L : Array Bool) f w (K : Act → World → Prop), i ∈ Region.ready .any ops L → InvR ops H n W f0 f L w → (∀ v w', Below w.heap.size w w' → H w' i v → K (A (upd f i v)) w') → wpOp Try.prog ops Q i K (A f) w)
    (hQ : ∀ f w, Below W.heap.size W w → (∀ j, j < n → H w j (f j)) → Q .normal (A f) w) :
    ∀ (fuel : Nat) (L : Array Bool) (f : Nat → Value) (w : World), L.size = n → L.toList.count false ≤ fuel → InvR ops H n W f0 f L w → wpAny Try.prog .any ops Q fuel L (A f) w := by
  have hdone : ∀ (L : Array Bool) f w, L.size = n → Region.ready .any ops L = [] → InvR ops H n W f0 f L w → Q .normal (A f) w := fun L f w hs h0 hi =>
    hQ f w hi.bel (fun j hj => hi.at' j hj (all_done hearly (by rw [hs, hsize]) h0 j (by rw [hsize]; exact hj)))
  intro fuel
  induction fuel with
  | zero =>
    intro L f w hs hc hi
    have h0 : Region.ready .any ops L = [] := by
      refine List.eq_nil_iff_forall_not_mem.2 (fun i hi' => ?_)
      obtain ⟨hl, o, ho, -⟩ := ready_mem hi'
      have hlt : i < L.size := by
        have := (Array.getElem?_eq_some_iff.1 ho).1
        rw [hsize] at this; omega
      have : L.toList.count false ≠ 0 := by
        rw [Ne, List.count_eq_zero]
        intro h
        refine h ?_
        simp only [Array.getD_eq_getD_getElem?, Array.getElem?_eq_getElem hlt, Option.getD_some] at hl
        rw [← hl]
        simp
      omega
    exact ⟨h0, hdone L f w hs h0 hi⟩
  | succ fuel ih =>
    intro L f w hs hc hi
    refine ⟨fun h0 => hdone L f w hs h0 hi, fun i hi' => ?_⟩
    obtain ⟨hl, o, ho, -⟩ := ready_mem hi'
    have hlt : i < n := by
      have := (Array.getElem?_eq_some_iff.1 ho).1
      rw [hsize] at this; omega
    have hcc : (L.setIfInBounds i true).toList.count false ≤ fuel := by
      have hlt' : i < L.toList.length := by simp; omega
      simp only [Array.getD_eq_getD_getElem?, Array.getElem?_eq_getElem (show i < L.size by omega), Option.getD_some] at hl
      rw [Array.toList_setIfInBounds, List.count_set hlt']
      have : L.toList[i] = false := by simpa using hl
      rw [this, if_pos (show (false == false) = true from rfl), if_neg (show ¬ (true == false) = true by decide)]
      omega
    exact hop i hlt L f w _ hi' hi (fun v w' hg hv => ih _ _ _ (by simp [hs]) hcc (hi.step (by rw [hs]; exact hlt) hi' hst hg hv))
theorem regN {H : World → Nat → Value → Prop} {n id : Nat} (hsize : ops.size = n) (hearly : Earlier ops) (hst : ∀ w w' j v, H w j v → Below w.heap.size w w' → H w' j v) {A : (Nat → Value) → Act} (w : World) (f0 : Nat → Value)
    (hop : ∀ i, i < n → ∀ (L : Array Bool) f w' (K : Act → World → Prop), i ∈ Region.ready .any ops L → InvR ops H n w f0 f L w' → (∀ v w2, Below w'.heap.size w' w2 → H w2 i v → K (A (upd f i v)) w2) → wpOp Try.prog ops Q i K (A f) w')
    (hQ : ∀ f w', Below w.heap.size w w' → (∀ j, j < n → H w' j (f j)) → Q .normal (A f) w') : Code.wp Try.prog (Code.region id ops true) Q (A f0) w := by
  refine wp_region_any (by kernel_rfl) ?_
  rw [hsize]
  refine regN_any hsize hearly hst w f0 hop hQ n _ f0 _ (by simp) (by simp) ⟨?_, fun j _ => rfl, fun a b ha _ => absurd ha ?_, fun j hj hl => ?_⟩
  · exact (Below.refl _ _).drew
  · rw [Array.getD_eq_getD_getElem?, Array.getElem?_replicate]
    split <;> simp
  · rw [Array.getD_eq_getD_getElem?, Array.getElem?_replicate] at hl
    split at hl <;> cases hl
theorem run_enter {f : FuncId} {fn : Func} {c : Code} (hf : Try.prog.funcs[f]? = some fn) (hname : (fn.name == "runtime.NumGoroutine") = false) (hb : fn.body = some c) (args : Array Value) (w : World) :
    (callFunc f args).run Try.prog w = .ok (.enter f args) w := by
  have h1 : fn.name ≠ "runtime.NumGoroutine" := by simpa using hname
  simp [callFunc, hf, h1, hb]
/-- a call of a function, as one step of a region that draws -/
theorem op_call {i dst g : Nat} {args : Array Operand} {ts : Array TypeId} {K : Act → World → Prop} {a : Act} {w : World} {R : Ending → World → Prop}
    (h : IsOp ops i dst (.call { callee := .value (.func g), args := args, argTypes := ts })) (hrun : ∀ args w, (callFunc g args).run Try.prog w = .ok (.enter g args) w) (hc : Calls Try.prog g (args.map a.eval) w R)
    (hK : ∀ e w', R e w' → ∃ v, e = .returned v ∧ K (a.put (some dst) v) w') : wpOp Try.prog ops Q i K a w := by
  obtain ⟨o, h1, h2, h3, h4⟩ := h
  unfold wpOp
  rw [h1]
  simp only [Region.wanted, h4, if_true]
  left
  unfold Oper.wp
  simp only [execOp, h3]
  go_simp
  refine hc.mono fun e w' he => ?_
  obtain ⟨v, rfl, hk⟩ := hK e w' he
  exact hk
/-- an operation that yields a value and changes nothing -/
theorem op_plain {i dst : Nat} {op : Op} {K : Act → World → Prop} {a : Act} {w : World} {v : Value} {w' : World} (h : IsOp ops i dst op)
    (hrun : ∀ o : Oper, o.op = op → o.dst = some dst → (execOp a.eval o).run Try.prog w = .ok (.value v) w') (hK : K (a.put (some dst) v) w') : wpOp Try.prog ops Q i K a w := by
  obtain ⟨o, h1, h2, h3, h4⟩ := h
  unfold wpOp
  rw [h1]
  simp only [Region.wanted, h4, if_true]
  left
  unfold Oper.wp
  rw [hrun o h3 h2]
  rw [← h2] at hK
  exact hK
end


/-- slots c .. c + n - 1 hold f -/
def putS (a : Act) (c n : Nat) (f : Nat → Value) : Act := { a with tmps := a.tmps.mapIdx fun j v => if c ≤ j ∧ j < c + n then f (j - c) else v }
theorem putS_in {a : Act} {c n : Nat} (f : Nat → Value) (h : c + n ≤ a.tmps.size) (i : Nat) (hi : i < n) : (putS a c n f).eval (.tmp (c + i)) = f i := by
  have h1 : c + i < a.tmps.size := by omega
  have h2 : c ≤ c + i ∧ c + i < c + n := ⟨by omega, by omega⟩
  simp [putS, Act.eval, h1, h2, hi]
theorem putS_out {a : Act} {c n : Nat} (f : Nat → Value) (t : Nat) (ht : t < c ∨ c + n ≤ t) : (putS a c n f).eval (.tmp t) = a.eval (.tmp t) := by
  have h2 : ¬ (c ≤ t ∧ t < c + n) := by omega
  by_cases h1 : t < a.tmps.size
  · simp [putS, Act.eval, h1]; intro h3 h4; exact absurd ⟨h3, h4⟩ h2
  · simp [putS, Act.eval, h1]
theorem putS_put {a : Act} {c n : Nat} (f : Nat → Value) (i : Nat) (hi : i < n) (v : Value) : (putS a c n f).put (some (c + i)) v = putS a c n (upd f i v) := by
  have e : (a.tmps.mapIdx fun j v => if c ≤ j ∧ j < c + n then f (j - c) else v).setIfInBounds (c + i) v = a.tmps.mapIdx fun j u => if c ≤ j ∧ j < c + n then upd f i v (j - c) else u := by
    refine Array.ext_getElem? (fun j => ?_)
    by_cases h1 : c + i = j
    · subst h1
      by_cases h2 : c + i < a.tmps.size
      · simp [h2, hi, upd]
      · simp [h2]
    · rw [Array.getElem?_setIfInBounds_ne h1]
      simp only [Array.getElem?_mapIdx]
      congr 1
      funext u
      by_cases h3 : c ≤ j ∧ j < c + n
      · simp only [h3, and_self, if_true, upd]
        rw [if_neg (by omega)]
      · simp only [h3, if_false]
  simp only [putS, Act.put, e]
theorem putS_self (a : Act) (c n : Nat) : putS a c n (fun i => a.eval (.tmp (c + i))) = a := by
  have e : (a.tmps.mapIdx fun j v => if c ≤ j ∧ j < c + n then a.eval (.tmp (c + (j - c))) else v) = a.tmps := by
    refine Array.ext_getElem? (fun j => ?_)
    by_cases h2 : j < a.tmps.size
    · simp only [Array.getElem?_mapIdx, Array.getElem?_eq_getElem h2, Option.map_some]
      by_cases h3 : c ≤ j ∧ j < c + n
      · rw [if_pos h3, show c + (j - c) = j by omega]
        simp [Act.eval, h2]
      · rw [if_neg h3]
    · simp [h2]
  simp only [putS, e]
theorem putS_congr {a : Act} {c n : Nat} {f g : Nat → Value} (h : ∀ i, i < n → f i = g i) : putS a c n f = putS a c n g := by
  have e : (a.tmps.mapIdx fun j v => if c ≤ j ∧ j < c + n then f (j - c) else v) = a.tmps.mapIdx fun j v => if c ≤ j ∧ j < c + n then g (j - c) else v := by
    congr 1
    funext j v
    by_cases h3 : c ≤ j ∧ j < c + n
    · rw [if_pos h3, if_pos h3, h _ (by omega)]
    · rw [if_neg h3, if_neg h3]
  simp only [putS, e]
end Go.Proofs.Ythojojjdamchpaa
