/-
  The tree of a lexicon in memory: a map for a node, a node more.
-/
import Derived.Test.YtioncjnjhmnlaaaLexTri
namespace Go.Proofs.Ytioncjnjhmnlaaa
open Go.RowKit Lx
open Go.Maps (Keyed int_keyed)
set_option linter.unusedVariables false
set_option linter.unusedSimpArgs false

theorem lawB : Keyed Try.prog 5 := int_keyed Try.underlying5
theorem keyB (b : UInt8) : keyOf Try.prog 5 (.int .u8 (b.toNat : Int)) = some (kb b) := Maps.keyOf_int_mk Try.underlying5 (by have := b.toNat_lt; simp [Lit.wf, IntKind.min, IntKind.max, IntKind.signed, IntKind.bits]; omega)
theorem litB (b : UInt8) : WideAt.IsKeyLit (kb b) := lawB.key (keyB b)
theorem kb_inj {b c : UInt8} (h : kb b = kb c) : b = c := by
  simp [kb] at h
  exact UInt8.toNat_inj.1 (by omega)
theorem kb_ne {b c : UInt8} (h : b ≠ c) : kb b ≠ kb c := fun e => h (kb_inj e)
section
variable {w w' : World} {base root cap : Nat} {N M F : Tx → Option Nat}
/-- a node gets its map -/
theorem Tri.mapped (h : Tri w base root cap N M F) {p : Tx} {a : Nat} (hp : N p = some a) (hm : M p = none) (hb : base ≤ w.heap.size) :
    Tri ((w.alloc (.map #[] 0)).setCell ⟨a, 2, none⟩ (.map (some w.heap.size))) base root cap N (fun q => if q = p then some w.heap.size else M q) F := by
  have hn := (h.node p a hp).2
  have hlt := h.lt hp
  have hoth : ∀ k, k ≠ a → k < w.heap.size → ((w.alloc (.map #[] 0)).setCell ⟨a, 2, none⟩ (.map (some w.heap.size))).heap[k]? = w.heap[k]? := fun k hk hl => by
    simp only [World.setCell, Array.getElem?_modify, if_neg (Ne.symm hk)]
    exact (MapKept.heap_alloc w _).2 k hl
  have hsame : ((w.alloc (.map #[] 0)).setCell ⟨a, 2, none⟩ (.map (some w.heap.size))).heap[a]? = some (.cells #[.bool (F p).isSome, .int .i64 (((F p).getD 0 : Nat) : Int), .map (some w.heap.size)] 57 (0, 0)) := by
    have e := (MapKept.heap_alloc w (.map #[] 0)).2 a hlt
    rw [hn] at e
    simp [World.setCell, Array.getElem?_modify, e]
  have hnew : ((w.alloc (.map #[] 0)).setCell ⟨a, 2, none⟩ (.map (some w.heap.size))).heap[w.heap.size]? = some (.map #[] 0) := by
    have e := (MapKept.heap_alloc w (.map #[] 0)).1
    simp only [World.setCell, Array.getElem?_modify, if_neg (show a ≠ w.heap.size by omega)]
    exact e
  have hmlt : ∀ q m, N q ≠ none → M q = some m → m < w.heap.size := fun q m hq hm' => by
    obtain ⟨_, D, h2, _⟩ := h.kids q m hq hm'
    exact h2.lt
  refine { h with node := ?_, bare := ?_, kids := ?_, oneM := ?_ }
  · intro q b hq
    refine ⟨(h.node q b hq).1, ?_⟩
    by_cases e : q = p
    · subst e
      rw [hp] at hq; cases hq
      rw [hsame]; simp
    · have hab : b ≠ a := fun hh => e (h.one q p a (hh ▸ hq) hp)
      rw [hoth b hab (h.lt hq), if_neg e]
      exact (h.node q b hq).2
  · intro q hq hq2 b
    by_cases e : q = p
    · rw [if_pos e] at hq2; cases hq2
    · rw [if_neg e] at hq2; exact h.bare q hq hq2 b
  · intro q m hq hq2
    by_cases e : q = p
    · rw [if_pos e] at hq2; cases hq2
      refine ⟨hb, .map [], (map_keep (World.ownsMap_made w _ _ _) fun o ho => by rw [(MapKept.heap_alloc w (.map #[] 0)).1] at ho; cases ho; exact hnew).mono (Nat.zero_le _), fun b => ?_⟩
      rw [e, h.bare p (by rw [hp]; simp) hm b]
      rfl
    · rw [if_neg e] at hq2
      obtain ⟨h1, D, h2, h3⟩ := h.kids q m hq hq2
      refine ⟨h1, D, map_keep h2 fun o ho => ?_, h3⟩
      have hma : m ≠ a := fun hh => by
        subst hh
        obtain ⟨es, cl, hb, _⟩ := h2
        rw [hb] at hn; cases hn
      rw [hoth m hma h2.lt]; exact ho
  · intro q r m hq hr hq2 hr2
    by_cases e : q = p
    · by_cases e2 : r = p
      · rw [e, e2]
      · rw [if_pos e] at hq2; cases hq2
        rw [if_neg e2] at hr2
        have := hmlt r _ hr hr2
        omega
    · rw [if_neg e] at hq2
      by_cases e2 : r = p
      · rw [if_pos e2] at hr2; cases hr2
        have := hmlt q _ hq hq2
        omega
      · rw [if_neg e2] at hr2; exact h.oneM q r m hq hr hq2 hr2
/-- a node more -/
theorem Tri.grow (h : Tri w base root cap N M F) {p : Tx} {b : UInt8} {m : Nat} {D : DataW Unit} (hp : N p ≠ none) (hm : M p = some m) (hb : base ≤ w.heap.size) (hN : N (p ++ [b]) = none) (hl : p.length < 40)
    (hD : ∀ b, D.atKey (kb b) (ptD none) = ptD (N (p ++ [b]))) (hown0 : w.ownsMap Try.prog 5 ptrE m cap D)
    (hown : w'.ownsMap Try.prog 5 ptrE m (cap + 1) (D.put (kb b) (ptD (some w.heap.size)))) (hg : (w.alloc (.cells #[.bool false, .int .i64 0, .map none] 57)).grownBy w' (some m)) :
    Tri w' base root (cap + 1) (fun q => if q = p ++ [b] then some w.heap.size else N q) (fun q => if q = p ++ [b] then none else M q) F := by
  have hmlt := hown0.lt
  have hkeep : ∀ k o, k ≠ m → w.heap[k]? = some o → w'.heap[k]? = some o := fun k o hk ho => by
    have hk2 := (Array.getElem?_eq_some_iff.1 ho).1
    exact ((hg.block k (by rw [World.size_alloc]; omega) (fun e => hk (by cases e; rfl))).trans ((MapKept.heap_alloc w _).2 k hk2)).trans ho
  have hnew : w'.heap[w.heap.size]? = some (.cells #[.bool false, .int .i64 0, .map none] 57 (0, 0)) :=
    (hg.block w.heap.size (by rw [World.size_alloc]; omega) (fun e => by cases e; omega)).trans (MapKept.heap_alloc w _).1
  have hcell : ∀ q a, N q = some a → a ≠ m := fun q a hq e => by
    subst e
    have h1 := (h.node q a hq).2
    obtain ⟨es, cl, h2, _⟩ := hown0
    rw [h2] at h1; cases h1
  have hFn : F (p ++ [b]) = none := Classical.not_not.1 fun hh => h.ends _ hh hN
  have hpp : ∀ q c, q ++ [c] = p ++ [b] → q = p ∧ c = b := fun q c e => by
    have := List.append_inj' e rfl
    exact ⟨this.1, by simpa using this.2⟩
  refine ⟨?_, ?_, ?_, ?_, ?_, ?_, ?_, ?_, ?_, h.few, h.sole⟩
  · show (if [] = p ++ [b] then _ else N []) = _
    rw [if_neg (by simp)]; exact h.top
  · intro q c hq
    by_cases e : q ++ [c] = p ++ [b]
    · obtain ⟨rfl, rfl⟩ := hpp q c e
      rw [if_neg (by intro hh; have := congrArg List.length hh; simp at this)]
      exact hp
    · rw [if_neg e] at hq
      have := h.shut q c hq
      by_cases e2 : q = p ++ [b]
      · rw [if_pos e2]; simp
      · rw [if_neg e2]; exact this
  · intro q hq
    by_cases e : q = p ++ [b]
    · rw [if_pos e]; simp
    · rw [if_neg e]; exact h.ends q hq
  · intro q a hq
    by_cases e : q = p ++ [b]
    · rw [if_pos e] at hq; cases hq
      rw [if_pos e, e, hFn]
      exact ⟨hb, hnew⟩
    · rw [if_neg e] at hq ⊢
      exact ⟨(h.node q a hq).1, hkeep _ _ (hcell q a hq) (h.node q a hq).2⟩
  · intro q hq hq2 c
    by_cases e : q = p ++ [b]
    · rw [if_neg (by intro hh; have := congrArg List.length hh; rw [e] at this; simp at this), e]
      exact h.dead _ hN _
    · rw [if_neg e] at hq hq2
      rw [if_neg (by intro hh; obtain ⟨rfl, _⟩ := hpp q c hh; rw [hm] at hq2; cases hq2)]
      exact h.bare q hq hq2 c
  · intro q m' hq hq2
    by_cases e : q = p ++ [b]
    · rw [if_pos e] at hq2; cases hq2
    · rw [if_neg e] at hq hq2
      by_cases e2 : q = p
      · subst e2
        rw [hm] at hq2; cases hq2
        refine ⟨(h.kids q m hp hm).1, _, hown, fun c => ?_⟩
        by_cases ec : c = b
        · subst ec
          rw [if_pos rfl, Maps.atKey_put_same (let ⟨es, e, _⟩ := hown0.canon lawB; ⟨es, e⟩) (litB c)]
        · rw [Maps.atKey_put_other (kb_ne ec), hD c, if_neg (fun hh => ec (hpp q c hh).2)]
      · obtain ⟨h1, D', h2, h3⟩ := h.kids q m' hq hq2
        have hmm : m' ≠ m := fun hh => e2 (h.oneM q p m hq hp (hh ▸ hq2) hm)
        refine ⟨h1, D', (map_keep h2 fun o ho => hkeep _ _ hmm ho).mono (by omega), fun c => ?_⟩
        rw [if_neg (fun hh => e2 (hpp q c hh).1)]
        exact h3 c
  · intro q r a hq hr
    by_cases e : q = p ++ [b]
    · rw [if_pos e] at hq; cases hq
      by_cases e2 : r = p ++ [b]
      · rw [e, e2]
      · rw [if_neg e2] at hr; have := h.lt hr; omega
    · rw [if_neg e] at hq
      by_cases e2 : r = p ++ [b]
      · rw [if_pos e2] at hr; cases hr; have := h.lt hq; omega
      · rw [if_neg e2] at hr; exact h.one q r a hq hr
  · intro q r m' hq hr hq2 hr2
    by_cases e : q = p ++ [b]
    · rw [if_pos e] at hq2; cases hq2
    · by_cases e2 : r = p ++ [b]
      · rw [if_pos e2] at hr2; cases hr2
      · rw [if_neg e] at hq hq2; rw [if_neg e2] at hr hr2
        exact h.oneM q r m' hq hr hq2 hr2
  · intro q hq
    by_cases e : q = p ++ [b]
    · rw [e]; simp; omega
    · rw [if_neg e] at hq; exact h.tall q hq
end
end Go.Proofs.Ytioncjnjhmnlaaa
