/-
  A range over a function that writes again into blocks of its own (the first four that it makes) between its rounds.
-/
import Derived.Test.YthojojjdamchpaaEdiLeast
import Derived.RangeFuncNested
import Derived.RangeFuncBound
import Derived.RangeFuncCalls
import Derived.RangeFuncLeaves
import Derived.Shelf.Abstract
import Derived.Shelf.RegionOpen
import Derived.OwnWalkIn
import Derived.TacticsInMore
import Derived.LoopNIn
import Derived.LoopIn
namespace Go.Proofs.Ythojojjdamchpaa
open Go.RowKit Go.Shelf
set_option linter.unusedVariables false

/-- all blocks but those from p to below q are as they were -/
structure Chg (p q : Nat) (X Y : World) : Prop where
  os : Y.os = X.os
  tape : Y.tape = X.tape
  output : Y.output = X.output
  size : X.heap.size ≤ Y.heap.size
  block : ∀ k, k < X.heap.size → ¬ (p ≤ k ∧ k < q) → Y.heap[k]? = X.heap[k]?
theorem Chg.refl (p q : Nat) (X : World) : Chg p q X X := ⟨rfl, rfl, rfl, Nat.le_refl _, fun _ _ _ => rfl⟩
theorem Chg.trans {p q : Nat} {X Y Z : World} (h : Chg p q X Y) (g : Chg p q Y Z) : Chg p q X Z :=
  ⟨g.os.trans h.os, g.tape.trans h.tape, g.output.trans h.output, Nat.le_trans h.size g.size, fun k hk hn => (g.block k (Nat.lt_of_lt_of_le hk h.size) hn).trans (h.block k hk hn)⟩
theorem Chg.of_below {p q : Nat} {X Y : World} (h : Below X.heap.size X Y) : Chg p q X Y := ⟨h.os, h.tape, h.output, h.size, fun k hk _ => h.block k hk⟩
theorem Chg.keep {p q k : Nat} {o : Obj} {X Y : World} (h : Chg p q X Y) (hn : ¬ (p ≤ k ∧ k < q)) (ho : X.heap[k]? = some o) : Y.heap[k]? = some o :=
  (h.block k (Array.getElem?_eq_some_iff.1 ho).1 hn).trans ho
/-- What an iterator promises that tells (Tl) what holds of each value when it is yielded; Kp is what a round that goes on keeps; its first four blocks it may write again. -/
def Told {α : Type} (P : Program) (g : Nat) (lb : Array Value) (encs : α → Array Value) (Tl : List α → α → World → Prop) (Kp : World → World → Prop) (S Sp : List α → Prop) (w0 : World) : Prop :=
  ∀ (l : Nat) (J Jx : List α → World → Prop) (W : World), Below w0.heap.size w0 W → W.heap.size = w0.heap.size + 2 → (∀ s X Y, J s X → Chg W.heap.size (W.heap.size + 4) X Y → J s Y) → (∀ s X Y, Jx s X → Chg W.heap.size (W.heap.size + 4) X Y → Jx s Y) →
    (∀ pre x X, J pre X → Tl pre x X → YieldAt Fence.wide 0 P l (encs x) X fun e Y =>
      (e = .returned (.bool true) ∧ J (pre ++ [x]) Y ∧ Kp X Y) ∨ (e = .returned (.bool false) ∧ Jx (pre ++ [x]) Y)) →
    J [] W →
    Calls P g (#[.func (.yield l) #[] #[]] ++ lb) W fun e Y => (∃ v, e = .returned v) ∧ ((∃ xs, S xs ∧ J xs Y) ∨ (∃ pre, Sp pre ∧ Jx pre Y))

theorem roundIn_any {n m : Nat} {P : Program} {l : Nat} {f : FuncId} {tmps : Array Value} {assign body : Code} {w : World} {R : Ending → World → Prop} (h : RoundIn Fence.wide n P l f tmps assign body w R) : RoundIn Fence.wide m P l f tmps assign body w R :=
  ⟨h.1, fun c cs _ => h.2 c cs (room_wide _)⟩
theorem wpIn_any {l n m : Nat} {P : Program} {c : Code} {Q : Exit → Act → World → Prop} {a : Act} {w : World} (h : c.wpIn (Fence.wide.inRound l) n P Q a w) : c.wpIn (Fence.wide.inRound l) m P Q a w :=
  fun b k cs h1 h2 _ => h b k cs h1 h2 (room_wide _)

/-- The law of the statement 'for .. range g' over such an iterator. -/
theorem wp_told {α : Type} {P : Program} {n : Nat} {g : Operand} {ps : Array Tmp} {assign body : Code} {Q : Exit → Act → World → Prop} {a : Act} {w : World}
    {gf : Nat} {lb : Array Value} (hg : a.eval g = .func (.func gf) #[] lb) (eg : ∀ args w, (callFunc gf args).run P w = .ok (.enter gf args) w)
    {encs : α → Array Value} {Tl : List α → α → World → Prop} {Kp : World → World → Prop} {S Sp : List α → Prop} {w0 : World} (hseq : Told P gf lb encs Tl Kp S Sp w0) (hb0 : w0 = w)
    (hKt : ∀ {A B C : World}, Kp A B → Kp B C → Kp A C) (hKb : ∀ (W : World) (k : Nat) (o o' : Obj), w.heap.size ≤ k → W.heap[k]? = some o → o.isCells = false → Kp W (W.putObj k o'))
    (hTl : ∀ pre x (W : World) (k : Nat) (o o' : Obj), Tl pre x W → W.heap[k]? = some o → o.isCells = false → Tl pre x (W.putObj k o')) (hps : ∀ x, (encs x).size = ps.size)
    (I : List α → World → Prop) (Ix : Code → List α → World → Prop) (hI : OwnFrom w.heap.size I) (hIx : ∀ c, OwnFrom w.heap.size (Ix c)) (hIc : ∀ s X Y, I s X → Chg (w.heap.size + 2) (w.heap.size + 6) X Y → I s Y) (hIxc : ∀ c s X Y, Ix c s X → Chg (w.heap.size + 2) (w.heap.size + 6) X Y → Ix c s Y) (h0 : I [] w) (a₁ : α → Act)
    (hassign : ∀ (l : Nat) (x : α) (W : World) (K : Act → World → Prop), K (a₁ x) W →
      assign.wpIn (Fence.wide.inRound l) n P (Exit.then K (fun _ _ _ => False)) { tmps := (ps.zip (encs x)).foldl (fun t (p, v) => t.setIfInBounds p v) a.tmps, defers := [] } W)
    (hbody : ∀ (l : Nat) (pre : List α) (x : α) (W : World), I pre W → Tl pre x W → body.wpIn (Fence.wide.inRound l) n P (ownPostG w.heap.size Kp I Ix (pre ++ [x]) W) (a₁ x) W)
    (hdone : ∀ (D : Nat) (xs : List α) (W : World), w.heap.size ≤ D → S xs → I xs W → W.heap[D]? = some (.deferred (some [])) → Q .normal { a with defers := { target := .collected D, args := #[] } :: a.defers } W)
    (hstop : ∀ (D : Nat) (c : Code) (pre : List α) (W : World), w.heap.size ≤ D → Sp pre → Ix c pre W → W.heap[D]? = some (.deferred (some [])) → c.wpIn Fence.wide n P Q { a with defers := { target := .collected D, args := #[] } :: a.defers } W) :
    (Code.rangeFunc g ps assign body).wpIn Fence.wide n P Q a w := by
  refine wpIn_rangeFunc fun fn hfn => ?_
  -- L: the loop's record; D: the block of the rounds' deferred calls
  obtain ⟨D, hD⟩ : ∃ D, D = w.heap.size := ⟨_, rfl⟩
  obtain ⟨rec, hrec⟩ : ∃ rec : LoopState → Option Code → Loop, rec = fun st pe => { state := st, pending := pe, fn, tmps := a.tmps, params := ps, assign, body, defers := D } := ⟨_, rfl⟩
  obtain ⟨V, hV⟩ : ∃ V, V = (w.alloc (.deferred (some []))).alloc (.loop (rec .ready none)) := ⟨_, rfl⟩
  have vL : V.heap[D + 1]? = some (.loop (rec .ready none)) := by
    have h := World.alloc_heap_new (w.alloc (.deferred (some []))) (.loop (rec .ready none))
    rw [World.size_alloc] at h; rw [hV, hD]; exact h
  have vD : V.heap[D]? = some (.deferred (some [])) := by
    rw [hV, hD]; exact (Below.heap_alloc _ _ _ (by simp)).trans (World.alloc_heap_new w _)
  have vI : I [] V := by rw [hV]; exact hI.alloc _ (hI.alloc _ h0)
  have vB : Below w0.heap.size w0 V := by
    rw [hV, hb0]; exact ((Below.refl _ w).alloc (Nat.le_refl _) _).alloc (by simp) _
  have vS : V.heap.size = w0.heap.size + 2 := by rw [hV, hb0]; simp
  have vS2 : V.heap.size = w.heap.size + 2 := by rw [hV]; simp
  refine ⟨D + 1, [{ target := .collected D, args := #[] }], V, { target := .fn (.func gf) lb, args := #[.func (.yield (D + 1)) #[] #[]] }, V, gf, #[.func (.yield (D + 1)) #[] #[]] ++ lb, V, ?_, ?_, fun _ _ => trivial, ?_, fun h => by simp [Fence.wide] at h, ?_⟩
  · rw [hV, hrec, hD]; exact run_enterLoop_outer _ _ _ _ _
  · simp only [resolve, hg]; simp [go_sem]
  · simp [invoke, go_sem, eg]
  refine callsIn_wide.2 ((hseq (D + 1)
    (fun pre W => I pre W ∧ W.heap[D + 1]? = some (.loop (rec .ready none)) ∧ W.heap[D]? = some (.deferred (some [])))
    (fun pre W => ∃ c, Ix c pre W ∧ W.heap[D + 1]? = some (.loop (rec .done (some c))) ∧ W.heap[D]? = some (.deferred (some [])))
    V vB vS (fun s X Y h hb => ⟨hIc _ _ _ h.1 (by rw [vS2] at hb; exact hb), hb.keep (by omega) h.2.1, hb.keep (by omega) h.2.2⟩)
    (fun s X Y h hb => by obtain ⟨c, h1, h2, h3⟩ := h; exact ⟨c, hIxc c _ _ _ h1 (by rw [vS2] at hb; exact hb), hb.keep (by omega) h2, hb.keep (by omega) h3⟩) ?_ ⟨vI, vL, vD⟩).mono ?_)
  · rintro pre x X ⟨xI, xL, xD⟩ hT
    have hsz := (Array.getElem?_eq_some_iff.1 xL).1
    have hy := run_yield (P := P) (args := encs x) xL (by rw [hrec]; exact hps x)
    rw [hrec] at hy
    refine ⟨fn, _, assign, body, hy, roundIn_any (roundIn_of_wpIn (n := n) trivial (hassign _ x X _ ?_))⟩
    clear hy
    refine ⟨_, run_beginRound xL (by rw [hrec]), ?_⟩
    obtain ⟨busy, hbusy⟩ : ∃ busy : Loop, busy = { rec .ready none with state := .busy } := ⟨_, rfl⟩
    rw [← hbusy]
    have yL : (X.putObj (D + 1) (.loop busy)).heap[D + 1]? = some (.loop busy) := World.putObj_heap_same hsz
    have yD : (X.putObj (D + 1) (.loop busy)).heap[D]? = some (.deferred (some [])) := (World.putObj_heap_other (by omega)).trans xD
    have yK : Kp X (X.putObj (D + 1) (.loop busy)) := hKb _ _ _ _ (by omega) xL rfl
    refine wpIn_mono (hbody _ pre x _ (hI.putObj _ xI (by omega) xL rfl) (hTl _ _ _ _ _ _ hT xL rfl)) ?_
    have over : ∀ (jump : Option Code) (Z : World), KeepsFrom w.heap.size (X.putObj (D + 1) (.loop busy)) Z → ∃ r : Loop, r = rec (if jump.isNone then .ready else .done) jump ∧
        (Instr.endRound (D + 1) jump).run P Z = .ok (.bool jump.isNone) (Z.putObj (D + 1) (.loop r)) ∧ Z.heap[D + 1]? = some (.loop busy) ∧
        (Z.putObj (D + 1) (.loop r)).heap[D + 1]? = some (.loop r) ∧ (Z.putObj (D + 1) (.loop r)).heap[D]? = some (.deferred (some [])) := fun jump Z hk => by
      have zL := hk.same _ _ (by omega) yL rfl
      have he := run_endRound (P := P) jump zL
      refine ⟨_, rfl, ?_, zL, World.putObj_heap_same (Array.getElem?_eq_some_iff.1 zL).1, (World.putObj_heap_other (by omega)).trans (hk.same _ _ (by omega) yD rfl)⟩
      rw [hbusy, hrec] at he
      rw [hrec]
      exact he
    rintro e a' Z hp
    have gone : ∀ c : Code, KeepsFrom w.heap.size (X.putObj (D + 1) (.loop busy)) Z → Ix c (pre ++ [x]) Z → ∃ Y, (Instr.endRound (D + 1) (some c)).run P Z = .ok (.bool false) Y ∧ ∃ c', Ix c' (pre ++ [x]) Y ∧ Y.heap[D + 1]? = some (.loop (rec .done (some c'))) ∧ Y.heap[D]? = some (.deferred (some [])) := fun c h1 h2 => by
      obtain ⟨r, hr, h3, h4, h5, h6⟩ := over (some c) Z h1
      exact ⟨_, h3, c, (hIx c).putObj _ h2 (by omega) h4 rfl, by rw [h5, hr]; rfl, h6⟩
    cases e with
    | normal =>
      obtain ⟨h1, h2, h3⟩ := hp
      obtain ⟨r, hr, h4, h5, h6, h7⟩ := over none Z h1
      exact ⟨_, _, h4, .inl ⟨rfl, ⟨hI.putObj _ h3 (by omega) h5 rfl, by rw [h6, hr]; rfl, h7⟩, hKt (hKt yK h2) (hKb _ _ _ _ (by omega) h5 rfl)⟩⟩
    | ret => obtain ⟨Y, h4, h5⟩ := gone _ hp.1 hp.2; exact ⟨_, _, h4, .inr ⟨rfl, h5⟩⟩
    | exit id => obtain ⟨Y, h4, h5⟩ := gone _ hp.1 hp.2; exact ⟨_, _, h4, .inr ⟨rfl, h5⟩⟩
    | goto t => obtain ⟨Y, h4, h5⟩ := gone _ hp.1 hp.2; exact ⟨_, _, h4, .inr ⟨rfl, h5⟩⟩
    | panic ch => exact hp.elim
    | outgrown => exact hp.elim
  · rintro e Y ⟨⟨v, rfl⟩, (⟨xs, hS, yI, yL, yD⟩ | ⟨pre, hSp, c, yI, yL, yD⟩)⟩
    · have he := run_endLoop (P := P) yL (by rw [hrec]; simp)
      rw [show (rec .ready none).pending = none by rw [hrec]] at he
      exact ⟨none, _, he, hdone D xs _ (by omega) hS (hI.putObj _ yI (by omega) yL rfl) ((World.putObj_heap_other (by omega)).trans yD)⟩
    · have he := run_endLoop (P := P) yL (by rw [hrec]; simp)
      rw [show (rec .done (some c)).pending = some c by rw [hrec]] at he
      exact ⟨some c, _, he, hstop D c pre _ (by omega) hSp ((hIx c).putObj _ yI (by omega) yL rfl) ((World.putObj_heap_other (by omega)).trans yD)⟩
end Go.Proofs.Ythojojjdamchpaa
