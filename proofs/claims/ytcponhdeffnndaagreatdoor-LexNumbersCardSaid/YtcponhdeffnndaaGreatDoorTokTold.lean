/-
  A range over a function: the iterator tells of each value what holds of it, and may write again (Ch) what the loop does not read.
-/
import Derived.Test.YtcponhdeffnndaaGreatDoorTokKinds
import Derived.RangeFuncNested
import Derived.RangeFuncBound
import Derived.RangeFuncCalls
import Derived.RangeFuncLeaves
import Derived.Shelf.Abstract
import Derived.Shelf.RegionOpen
import Derived.OwnWalkIn
import Derived.TacticsInMore
import Derived.LoopNIn
import Derived.LoopIn
namespace Go.Proofs.YtcponhdeffnndaaGreatDoor
open Go.RowKit Go.Shelf
set_option linter.unusedVariables false

/-- What an iterator promises that tells (Tl) what holds of each value when it is yielded; Kp is what a round that goes on keeps. -/
def TolC {α : Type} (P : Program) (g : Nat) (lb : Array Value) (encs : α → Array Value) (Tl : List α → α → World → Prop) (Kp Ch : World → World → Prop) (S Sp : List α → Prop) (w0 : World) : Prop :=
  ∀ (l : Nat) (J Jx : List α → World → Prop) (W : World), Below w0.heap.size w0 W → (∀ s X Y, J s X → Ch X Y → J s Y) → (∀ s X Y, Jx s X → Ch X Y → Jx s Y) →
    (∀ pre x X, J pre X → Tl pre x X → YieldAt Fence.wide 0 P l (encs x) X fun e Y =>
      (e = .returned (.bool true) ∧ J (pre ++ [x]) Y ∧ Kp X Y) ∨ (e = .returned (.bool false) ∧ Jx (pre ++ [x]) Y)) →
    J [] W →
    Calls P g (#[.func (.yield l) #[] #[]] ++ lb) W fun e Y => (∃ v, e = .returned v) ∧ ((∃ xs, S xs ∧ J xs Y) ∨ (∃ pre, Sp pre ∧ Jx pre Y))

theorem roundIn_any {n m : Nat} {P : Program} {l : Nat} {f : FuncId} {tmps : Array Value} {assign body : Code} {w : World} {R : Ending → World → Prop} (h : RoundIn Fence.wide n P l f tmps assign body w R) : RoundIn Fence.wide m P l f tmps assign body w R :=
  ⟨h.1, fun c cs _ => h.2 c cs (room_wide _)⟩
theorem wpIn_any {l n m : Nat} {P : Program} {c : Code} {Q : Exit → Act → World → Prop} {a : Act} {w : World} (h : c.wpIn (Fence.wide.inRound l) n P Q a w) : c.wpIn (Fence.wide.inRound l) m P Q a w :=
  fun b k cs h1 h2 _ => h b k cs h1 h2 (room_wide _)

/-- The law of the statement 'for .. range g' over such an iterator. -/
theorem wp_tolc {α : Type} {P : Program} {n : Nat} {g : Operand} {ps : Array Tmp} {assign body : Code} {Q : Exit → Act → World → Prop} {a : Act} {w : World}
    {gf : Nat} {lb : Array Value} (hg : a.eval g = .func (.func gf) #[] lb) (eg : ∀ args w, (callFunc gf args).run P w = .ok (.enter gf args) w)
    {encs : α → Array Value} {Tl : List α → α → World → Prop} {Kp Ch : World → World → Prop} {S Sp : List α → Prop} {w0 : World} (hseq : TolC P gf lb encs Tl Kp Ch S Sp w0) (hb0 : Below w0.heap.size w0 w)
    (hKt : ∀ {A B C : World}, Kp A B → Kp B C → Kp A C) (hKb : ∀ (W : World) (k : Nat) (o o' : Obj), w.heap.size ≤ k → W.heap[k]? = some o → o.isCells = false → Kp W (W.putObj k o'))
    (hTl : ∀ pre x (W : World) (k : Nat) (o o' : Obj), Tl pre x W → W.heap[k]? = some o → o.isCells = false → Tl pre x (W.putObj k o')) (hps : ∀ x, (encs x).size = ps.size)
    (I : List α → World → Prop) (Ix : Code → List α → World → Prop) (hI : OwnFrom w.heap.size I) (hIx : ∀ c, OwnFrom w.heap.size (Ix c)) (hCI : ∀ s X Y, I s X → Ch X Y → I s Y) (hCx : ∀ c s X Y, Ix c s X → Ch X Y → Ix c s Y)
    (hCk : ∀ (X Y : World) (k : Nat) (o : Obj), w.heap.size ≤ k → Ch X Y → X.heap[k]? = some o → Y.heap[k]? = some o) (h0 : I [] w) (a₁ : α → Act)
    (hassign : ∀ (l : Nat) (x : α) (W : World) (K : Act → World → Prop), K (a₁ x) W →
      assign.wpIn (Fence.wide.inRound l) n P (Exit.then K (fun _ _ _ => False)) { tmps := (ps.zip (encs x)).foldl (fun t (p, v) => t.setIfInBounds p v) a.tmps, defers := [] } W)
    (hbody : ∀ (l : Nat) (pre : List α) (x : α) (W : World), I pre W → Tl pre x W → body.wpIn (Fence.wide.inRound l) n P (ownPostG w.heap.size Kp I Ix (pre ++ [x]) W) (a₁ x) W)
    (hdone : ∀ (D : Nat) (xs : List α) (W : World), w.heap.size ≤ D → S xs → I xs W → W.heap[D]? = some (.deferred (some [])) → Q .normal { a with defers := { target := .collected D, args := #[] } :: a.defers } W)
    (hstop : ∀ (D : Nat) (c : Code) (pre : List α) (W : World), w.heap.size ≤ D → Sp pre → Ix c pre W → W.heap[D]? = some (.deferred (some [])) → c.wpIn Fence.wide n P Q { a with defers := { target := .collected D, args := #[] } :: a.defers } W) :
    (Code.rangeFunc g ps assign body).wpIn Fence.wide n P Q a w := by
  refine wpIn_rangeFunc fun fn hfn => ?_
  -- L: the loop's record; D: the block of the rounds' deferred calls
  obtain ⟨D, hD⟩ : ∃ D, D = w.heap.size := ⟨_, rfl⟩
  obtain ⟨rec, hrec⟩ : ∃ rec : LoopState → Option Code → Loop, rec = fun st pe => { state := st, pending := pe, fn, tmps := a.tmps, params := ps, assign, body, defers := D } := ⟨_, rfl⟩
  obtain ⟨V, hV⟩ : ∃ V, V = (w.alloc (.deferred (some []))).alloc (.loop (rec .ready none)) := ⟨_, rfl⟩
  have vL : V.heap[D + 1]? = some (.loop (rec .ready none)) := by
    have h := World.alloc_heap_new (w.alloc (.deferred (some []))) (.loop (rec .ready none))
    rw [World.size_alloc] at h; rw [hV, hD]; exact h
  have vD : V.heap[D]? = some (.deferred (some [])) := by
    rw [hV, hD]; exact (Below.heap_alloc _ _ _ (by simp)).trans (World.alloc_heap_new w _)
  have vI : I [] V := by rw [hV]; exact hI.alloc _ (hI.alloc _ h0)
  have vB : Below w0.heap.size w0 V := by
    rw [hV]; exact hb0.trans ((((Below.refl _ w).alloc (Nat.le_refl _) _).alloc (by simp) _).mono hb0.size)
  refine ⟨D + 1, [{ target := .collected D, args := #[] }], V, { target := .fn (.func gf) lb, args := #[.func (.yield (D + 1)) #[] #[]] }, V, gf, #[.func (.yield (D + 1)) #[] #[]] ++ lb, V, ?_, ?_, fun _ _ => trivial, ?_, fun h => by simp [Fence.wide] at h, ?_⟩
  · rw [hV, hrec, hD]; exact run_enterLoop_outer _ _ _ _ _
  · simp only [resolve, hg]; simp [go_sem]
  · simp [invoke, go_sem, eg]
  refine callsIn_wide.2 ((hseq (D + 1)
    (fun pre W => I pre W ∧ W.heap[D + 1]? = some (.loop (rec .ready none)) ∧ W.heap[D]? = some (.deferred (some [])))
    (fun pre W => ∃ c, Ix c pre W ∧ W.heap[D + 1]? = some (.loop (rec .done (some c))) ∧ W.heap[D]? = some (.deferred (some [])))
    V vB (fun s X Y h hb => ⟨hCI _ _ _ h.1 hb, hCk _ _ _ _ (by omega) hb h.2.1, hCk _ _ _ _ (by omega) hb h.2.2⟩)
    (fun s X Y h hb => by obtain ⟨c, h1, h2, h3⟩ := h; exact ⟨c, hCx c _ _ _ h1 hb, hCk _ _ _ _ (by omega) hb h2, hCk _ _ _ _ (by omega) hb h3⟩) ?_ ⟨vI, vL, vD⟩).mono ?_)
  · rintro pre x X ⟨xI, xL, xD⟩ hT
    have hsz := (Array.getElem?_eq_some_iff.1 xL).1
    have hy := run_yield (P := P) (args := encs x) xL (by rw [hrec]; exact hps x)
    rw [hrec] at hy
    refine ⟨fn, _, assign, body, hy, roundIn_any (roundIn_of_wpIn (n := n) trivial (hassign _ x X _ ?_))⟩
    clear hy
    refine ⟨_, run_beginRound xL (by rw [hrec]), ?_⟩
    obtain ⟨busy, hbusy⟩ : ∃ busy : Loop, busy = { rec .ready none with state := .busy } := ⟨_, rfl⟩
    rw [← hbusy]
    have yL : (X.putObj (D + 1) (.loop busy)).heap[D + 1]? = some (.loop busy) := World.putObj_heap_same hsz
    have yD : (X.putObj (D + 1) (.loop busy)).heap[D]? = some (.deferred (some [])) := (World.putObj_heap_other (by omega)).trans xD
    have yK : Kp X (X.putObj (D + 1) (.loop busy)) := hKb _ _ _ _ (by omega) xL rfl
    refine wpIn_mono (hbody _ pre x _ (hI.putObj _ xI (by omega) xL rfl) (hTl _ _ _ _ _ _ hT xL rfl)) ?_
    have over : ∀ (jump : Option Code) (Z : World), KeepsFrom w.heap.size (X.putObj (D + 1) (.loop busy)) Z → ∃ r : Loop, r = rec (if jump.isNone then .ready else .done) jump ∧
        (Instr.endRound (D + 1) jump).run P Z = .ok (.bool jump.isNone) (Z.putObj (D + 1) (.loop r)) ∧ Z.heap[D + 1]? = some (.loop busy) ∧
        (Z.putObj (D + 1) (.loop r)).heap[D + 1]? = some (.loop r) ∧ (Z.putObj (D + 1) (.loop r)).heap[D]? = some (.deferred (some [])) := fun jump Z hk => by
      have zL := hk.same _ _ (by omega) yL rfl
      have he := run_endRound (P := P) jump zL
      refine ⟨_, rfl, ?_, zL, World.putObj_heap_same (Array.getElem?_eq_some_iff.1 zL).1, (World.putObj_heap_other (by omega)).trans (hk.same _ _ (by omega) yD rfl)⟩
      rw [hbusy, hrec] at he
      rw [hrec]
      exact he
    rintro e a' Z hp
    have gone : ∀ c : Code, KeepsFrom w.heap.size (X.putObj (D + 1) (.loop busy)) Z → Ix c (pre ++ [x]) Z → ∃ Y, (Instr.endRound (D + 1) (some c)).run P Z = .ok (.bool false) Y ∧ ∃ c', Ix c' (pre ++ [x]) Y ∧ Y.heap[D + 1]? = some (.loop (rec .done (some c'))) ∧ Y.heap[D]? = some (.deferred (some [])) := fun c h1 h2 => by
      obtain ⟨r, hr, h3, h4, h5, h6⟩ := over (some c) Z h1
      exact ⟨_, h3, c, (hIx c).putObj _ h2 (by omega) h4 rfl, by rw [h5, hr]; rfl, h6⟩
    cases e with
    | normal =>
      obtain ⟨h1, h2, h3⟩ := hp
      obtain ⟨r, hr, h4, h5, h6, h7⟩ := over none Z h1
      exact ⟨_, _, h4, .inl ⟨rfl, ⟨hI.putObj _ h3 (by omega) h5 rfl, by rw [h6, hr]; rfl, h7⟩, hKt (hKt yK h2) (hKb _ _ _ _ (by omega) h5 rfl)⟩⟩
    | ret => obtain ⟨Y, h4, h5⟩ := gone _ hp.1 hp.2; exact ⟨_, _, h4, .inr ⟨rfl, h5⟩⟩
    | exit id => obtain ⟨Y, h4, h5⟩ := gone _ hp.1 hp.2; exact ⟨_, _, h4, .inr ⟨rfl, h5⟩⟩
    | goto t => obtain ⟨Y, h4, h5⟩ := gone _ hp.1 hp.2; exact ⟨_, _, h4, .inr ⟨rfl, h5⟩⟩
    | panic ch => exact hp.elim
    | outgrown => exact hp.elim
  · rintro e Y ⟨⟨v, rfl⟩, (⟨xs, hS, yI, yL, yD⟩ | ⟨pre, hSp, c, yI, yL, yD⟩)⟩
    · have he := run_endLoop (P := P) yL (by rw [hrec]; simp)
      rw [show (rec .ready none).pending = none by rw [hrec]] at he
      exact ⟨none, _, he, hdone D xs _ (by omega) hS (hI.putObj _ yI (by omega) yL rfl) ((World.putObj_heap_other (by omega)).trans yD)⟩
    · have he := run_endLoop (P := P) yL (by rw [hrec]; simp)
      rw [show (rec .done (some c)).pending = some c by rw [hrec]] at he
      exact ⟨some c, _, he, hstop D c pre _ (by omega) hSp ((hIx c).putObj _ yI (by omega) yL rfl) ((World.putObj_heap_other (by omega)).trans yD)⟩
/-- The law of the statement 'for .. range g' over such an iterator. -/
theorem wp_tolcb {α : Type} {P : Program} {n : Nat} {g : Operand} {ps : Array Tmp} {assign body : Code} {Q : Exit → Act → World → Prop} {a : Act} {w : World}
    {gf : Nat} {lb : Array Value} (hg : a.eval g = .func (.func gf) #[] lb) (eg : ∀ args w, (callFunc gf args).run P w = .ok (.enter gf args) w)
    {encs : α → Array Value} {Tl : List α → α → World → Prop} {Kp Ch : World → World → Prop} {S Sp : List α → Prop} {w0 : World} (hseq : TolC P gf lb encs Tl Kp Ch S Sp w0) (hb0 : Below w0.heap.size w0 w)
    (hKt : ∀ {A B C : World}, Kp A B → Kp B C → Kp A C) (hKb : ∀ (W : World) (k : Nat) (o o' : Obj), w.heap.size ≤ k → W.heap[k]? = some o → o.isCells = false → Kp W (W.putObj k o'))
    (hTl : ∀ pre x (W : World) (k : Nat) (o o' : Obj), Tl pre x W → W.heap[k]? = some o → o.isCells = false → Tl pre x (W.putObj k o')) (hps : ∀ x, (encs x).size = ps.size)
    (I : List α → World → Prop) (Ix : Code → List α → World → Prop) (hI : OwnFrom w.heap.size I) (hIx : ∀ c, OwnFrom w.heap.size (Ix c)) (hCI : ∀ s X Y, I s X → Ch X Y → I s Y) (hCx : ∀ c s X Y, Ix c s X → Ch X Y → Ix c s Y)
    (hCk : ∀ (X Y : World) (k : Nat) (o : Obj), w.heap.size ≤ k → Ch X Y → X.heap[k]? = some o → Y.heap[k]? = some o) (h0 : I [] w) (ob : α → Obj) (a₂ : α → Nat → Act) (hTa : ∀ pre x (W : World), Tl pre x W → Tl pre x (W.alloc (ob x))) (hKa : ∀ x (W : World), Kp W (W.alloc (ob x)))
    (hassign : ∀ (l : Nat) (x : α) (W : World) (K : Act → World → Prop), K (a₂ x W.heap.size) (W.alloc (ob x)) →
      assign.wpIn (Fence.wide.inRound l) n P (Exit.then K (fun _ _ _ => False)) { tmps := (ps.zip (encs x)).foldl (fun t (p, v) => t.setIfInBounds p v) a.tmps, defers := [] } W)
    (hbody : ∀ (l : Nat) (pre : List α) (x : α) (g : Nat) (W : World), w.heap.size ≤ g → W.heap[g]? = some (ob x) → I pre W → Tl pre x W → (∃ X : World, X.heap.size = g ∧ I pre X ∧ ∀ (k : Nat) (o : Obj), X.heap[k]? = some o → o.isCells = true → W.heap[k]? = some o) → body.wpIn (Fence.wide.inRound l) n P (ownPostG w.heap.size Kp I Ix (pre ++ [x]) W) (a₂ x g) W)
    (hdone : ∀ (D : Nat) (xs : List α) (W : World), w.heap.size ≤ D → S xs → I xs W → W.heap[D]? = some (.deferred (some [])) → Q .normal { a with defers := { target := .collected D, args := #[] } :: a.defers } W)
    (hstop : ∀ (D : Nat) (c : Code) (pre : List α) (W : World), w.heap.size ≤ D → Sp pre → Ix c pre W → W.heap[D]? = some (.deferred (some [])) → c.wpIn Fence.wide n P Q { a with defers := { target := .collected D, args := #[] } :: a.defers } W) :
    (Code.rangeFunc g ps assign body).wpIn Fence.wide n P Q a w := by
  refine wpIn_rangeFunc fun fn hfn => ?_
  -- L: the loop's record; D: the block of the rounds' deferred calls
  obtain ⟨D, hD⟩ : ∃ D, D = w.heap.size := ⟨_, rfl⟩
  obtain ⟨rec, hrec⟩ : ∃ rec : LoopState → Option Code → Loop, rec = fun st pe => { state := st, pending := pe, fn, tmps := a.tmps, params := ps, assign, body, defers := D } := ⟨_, rfl⟩
  obtain ⟨V, hV⟩ : ∃ V, V = (w.alloc (.deferred (some []))).alloc (.loop (rec .ready none)) := ⟨_, rfl⟩
  have vL : V.heap[D + 1]? = some (.loop (rec .ready none)) := by
    have h := World.alloc_heap_new (w.alloc (.deferred (some []))) (.loop (rec .ready none))
    rw [World.size_alloc] at h; rw [hV, hD]; exact h
  have vD : V.heap[D]? = some (.deferred (some [])) := by
    rw [hV, hD]; exact (Below.heap_alloc _ _ _ (by simp)).trans (World.alloc_heap_new w _)
  have vI : I [] V := by rw [hV]; exact hI.alloc _ (hI.alloc _ h0)
  have vB : Below w0.heap.size w0 V := by
    rw [hV]; exact hb0.trans ((((Below.refl _ w).alloc (Nat.le_refl _) _).alloc (by simp) _).mono hb0.size)
  refine ⟨D + 1, [{ target := .collected D, args := #[] }], V, { target := .fn (.func gf) lb, args := #[.func (.yield (D + 1)) #[] #[]] }, V, gf, #[.func (.yield (D + 1)) #[] #[]] ++ lb, V, ?_, ?_, fun _ _ => trivial, ?_, fun h => by simp [Fence.wide] at h, ?_⟩
  · rw [hV, hrec, hD]; exact run_enterLoop_outer _ _ _ _ _
  · simp only [resolve, hg]; simp [go_sem]
  · simp [invoke, go_sem, eg]
  refine callsIn_wide.2 ((hseq (D + 1)
    (fun pre W => I pre W ∧ W.heap[D + 1]? = some (.loop (rec .ready none)) ∧ W.heap[D]? = some (.deferred (some [])))
    (fun pre W => ∃ c, Ix c pre W ∧ W.heap[D + 1]? = some (.loop (rec .done (some c))) ∧ W.heap[D]? = some (.deferred (some [])))
    V vB (fun s X Y h hb => ⟨hCI _ _ _ h.1 hb, hCk _ _ _ _ (by omega) hb h.2.1, hCk _ _ _ _ (by omega) hb h.2.2⟩)
    (fun s X Y h hb => by obtain ⟨c, h1, h2, h3⟩ := h; exact ⟨c, hCx c _ _ _ h1 hb, hCk _ _ _ _ (by omega) hb h2, hCk _ _ _ _ (by omega) hb h3⟩) ?_ ⟨vI, vL, vD⟩).mono ?_)
  · rintro pre x X ⟨xI, xL, xD⟩ hT
    have hsz := (Array.getElem?_eq_some_iff.1 xL).1
    have hy := run_yield (P := P) (args := encs x) xL (by rw [hrec]; exact hps x)
    rw [hrec] at hy
    refine ⟨fn, _, assign, body, hy, roundIn_any (roundIn_of_wpIn (n := n) trivial (hassign _ x X _ ?_))⟩
    clear hy
    obtain ⟨X1, hX1⟩ : ∃ X1, X1 = X.alloc (ob x) := ⟨_, rfl⟩
    have xI1 : I pre X1 := by rw [hX1]; exact hI.alloc _ xI
    have xL1 : X1.heap[D + 1]? = some (.loop (rec .ready none)) := by rw [hX1]; exact (Below.heap_alloc _ _ _ hsz).trans xL
    have xD1 : X1.heap[D]? = some (.deferred (some [])) := by rw [hX1]; exact (Below.heap_alloc _ _ _ (by omega)).trans xD
    have xG1 : X1.heap[X.heap.size]? = some (ob x) := by rw [hX1]; exact World.alloc_heap_new X _
    have xT1 : Tl pre x X1 := by rw [hX1]; exact hTa _ _ _ hT
    have xK1 : Kp X X1 := by rw [hX1]; exact hKa _ _
    have hsz1 := (Array.getElem?_eq_some_iff.1 xL1).1
    rw [← hX1]
    refine ⟨_, run_beginRound xL1 (by rw [hrec]), ?_⟩
    obtain ⟨busy, hbusy⟩ : ∃ busy : Loop, busy = { rec .ready none with state := .busy } := ⟨_, rfl⟩
    rw [← hbusy]
    have yL : (X1.putObj (D + 1) (.loop busy)).heap[D + 1]? = some (.loop busy) := World.putObj_heap_same hsz1
    have yD : (X1.putObj (D + 1) (.loop busy)).heap[D]? = some (.deferred (some [])) := (World.putObj_heap_other (by omega)).trans xD1
    have yK : Kp X (X1.putObj (D + 1) (.loop busy)) := hKt xK1 (hKb _ _ _ _ (by omega) xL1 rfl)
    refine wpIn_mono (hbody _ pre x X.heap.size _ (by omega) ((World.putObj_heap_other (by omega)).trans xG1) (hI.putObj _ xI1 (by omega) xL1 rfl) (hTl _ _ _ _ _ _ xT1 xL1 rfl) ⟨X, rfl, xI, fun k o ho hc => (World.putObj_heap_other (fun e => by subst e; rw [xL] at ho; cases ho; cases hc)).trans (by rw [hX1]; exact (Below.heap_alloc _ _ _ (Array.getElem?_eq_some_iff.1 ho).1).trans ho)⟩) ?_
    have over : ∀ (jump : Option Code) (Z : World), KeepsFrom w.heap.size (X1.putObj (D + 1) (.loop busy)) Z → ∃ r : Loop, r = rec (if jump.isNone then .ready else .done) jump ∧
        (Instr.endRound (D + 1) jump).run P Z = .ok (.bool jump.isNone) (Z.putObj (D + 1) (.loop r)) ∧ Z.heap[D + 1]? = some (.loop busy) ∧
        (Z.putObj (D + 1) (.loop r)).heap[D + 1]? = some (.loop r) ∧ (Z.putObj (D + 1) (.loop r)).heap[D]? = some (.deferred (some [])) := fun jump Z hk => by
      have zL := hk.same _ _ (by omega) yL rfl
      have he := run_endRound (P := P) jump zL
      refine ⟨_, rfl, ?_, zL, World.putObj_heap_same (Array.getElem?_eq_some_iff.1 zL).1, (World.putObj_heap_other (by omega)).trans (hk.same _ _ (by omega) yD rfl)⟩
      rw [hbusy, hrec] at he
      rw [hrec]
      exact he
    rintro e a' Z hp
    have gone : ∀ c : Code, KeepsFrom w.heap.size (X1.putObj (D + 1) (.loop busy)) Z → Ix c (pre ++ [x]) Z → ∃ Y, (Instr.endRound (D + 1) (some c)).run P Z = .ok (.bool false) Y ∧ ∃ c', Ix c' (pre ++ [x]) Y ∧ Y.heap[D + 1]? = some (.loop (rec .done (some c'))) ∧ Y.heap[D]? = some (.deferred (some [])) := fun c h1 h2 => by
      obtain ⟨r, hr, h3, h4, h5, h6⟩ := over (some c) Z h1
      exact ⟨_, h3, c, (hIx c).putObj _ h2 (by omega) h4 rfl, by rw [h5, hr]; rfl, h6⟩
    cases e with
    | normal =>
      obtain ⟨h1, h2, h3⟩ := hp
      obtain ⟨r, hr, h4, h5, h6, h7⟩ := over none Z h1
      exact ⟨_, _, h4, .inl ⟨rfl, ⟨hI.putObj _ h3 (by omega) h5 rfl, by rw [h6, hr]; rfl, h7⟩, hKt (hKt yK h2) (hKb _ _ _ _ (by omega) h5 rfl)⟩⟩
    | ret => obtain ⟨Y, h4, h5⟩ := gone _ hp.1 hp.2; exact ⟨_, _, h4, .inr ⟨rfl, h5⟩⟩
    | exit id => obtain ⟨Y, h4, h5⟩ := gone _ hp.1 hp.2; exact ⟨_, _, h4, .inr ⟨rfl, h5⟩⟩
    | goto t => obtain ⟨Y, h4, h5⟩ := gone _ hp.1 hp.2; exact ⟨_, _, h4, .inr ⟨rfl, h5⟩⟩
    | panic ch => exact hp.elim
    | outgrown => exact hp.elim
  · rintro e Y ⟨⟨v, rfl⟩, (⟨xs, hS, yI, yL, yD⟩ | ⟨pre, hSp, c, yI, yL, yD⟩)⟩
    · have he := run_endLoop (P := P) yL (by rw [hrec]; simp)
      rw [show (rec .ready none).pending = none by rw [hrec]] at he
      exact ⟨none, _, he, hdone D xs _ (by omega) hS (hI.putObj _ yI (by omega) yL rfl) ((World.putObj_heap_other (by omega)).trans yD)⟩
    · have he := run_endLoop (P := P) yL (by rw [hrec]; simp)
      rw [show (rec .done (some c)).pending = some c by rw [hrec]] at he
      exact ⟨some c, _, he, hstop D c pre _ (by omega) hSp ((hIx c).putObj _ yI (by omega) yL rfl) ((World.putObj_heap_other (by omega)).trans yD)⟩
end Go.Proofs.YtcponhdeffnndaaGreatDoor
