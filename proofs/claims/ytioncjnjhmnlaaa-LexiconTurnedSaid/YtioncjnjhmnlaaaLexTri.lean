/-
  The tree of a lexicon in memory: what lies at each text that words begin with.
-/
import Derived.Test.YtioncjnjhmnlaaaBase
import Derived.Test.YtioncjnjhmnlaaaBaseMap
import Derived.Test.YtioncjnjhmnlaaaLexPlain
import Derived.Maps.RangeWalk
import Derived.Maps.Ext
namespace Go.Proofs.Ytioncjnjhmnlaaa
open Go.RowKit Lx
open Go.Maps (Keyed int_keyed)
set_option linter.unusedVariables false
set_option linter.unusedSimpArgs false

/-- a pointer to a node, or none -/
def nptr (o : Option Nat) : Value := .pointer (o.map fun a => ⟨a, 0, none⟩)
def ptD (o : Option Nat) : DataW Unit := .lit (.int .i64 (match o with | none => -1 | some a => (a : Int)))
/-- how an element of a node's map reads -/
def ptrE (v : Value) : Option (DataW Unit × List MemPlace) :=
  match v with
  | .pointer none => some (ptD none, [])
  | .pointer (some ⟨a, 0, none⟩) => some (ptD (some a), [])
  | _ => none
theorem ptrE_ptr (o : Option Nat) : ptrE (nptr o) = some (ptD o, []) := by cases o <;> rfl
theorem ptrE_inv {v : Value} {y : DataW Unit × List MemPlace} (h : ptrE v = some y) : ∃ o, v = nptr o ∧ y = (ptD o, []) := by
  unfold ptrE at h
  split at h
  · cases h; exact ⟨none, rfl, rfl⟩
  · cases h; exact ⟨some _, rfl, rfl⟩
  · cases h
theorem ptD_inj {o o' : Option Nat} (h : ptD o = ptD o') : o = o' := by
  cases o <;> cases o' <;> simp [ptD] at h ⊢
  all_goals omega
def kb (b : UInt8) : Lit := .int .u8 b.toNat

structure Tri (w : World) (base root cap : Nat) (N M F : Tx → Option Nat) : Prop where
  top : N [] = some root
  shut : ∀ p b, N (p ++ [b]) ≠ none → N p ≠ none
  ends : ∀ p, F p ≠ none → N p ≠ none
  node : ∀ p a, N p = some a → base ≤ a ∧ w.heap[a]? = some (.cells #[.bool (F p).isSome, .int .i64 (((F p).getD 0 : Nat) : Int), .map (M p)] 57 (0, 0))
  bare : ∀ p, N p ≠ none → M p = none → ∀ b, N (p ++ [b]) = none
  kids : ∀ p m, N p ≠ none → M p = some m → base ≤ m ∧ ∃ D, w.ownsMap Try.prog 5 ptrE m cap D ∧ ∀ b, D.atKey (kb b) (ptD none) = ptD (N (p ++ [b]))
  one : ∀ p q a, N p = some a → N q = some a → p = q
  oneM : ∀ p q m, N p ≠ none → N q ≠ none → M p = some m → M q = some m → p = q
  tall : ∀ p, N p ≠ none → p.length ≤ 40
  few : ∀ p i, F p = some i → i < 1000
  sole : ∀ p q i, F p = some i → F q = some i → p = q

theorem map_keep {w w' : World} {k : TypeId} {R : Value → Option (DataW Unit × List MemPlace)} {b n : Nat} {D : DataW Unit} (h : w.ownsMap Try.prog k R b n D) (hk : ∀ o, w.heap[b]? = some o → w'.heap[b]? = some o) : w'.ownsMap Try.prog k R b n D := by
  obtain ⟨es, clock, hb, F, hs, hD⟩ := h
  exact ⟨es, clock, hk _ hb, F, hs, hD⟩
section
variable {w w' : World} {base root cap : Nat} {N M F : Tx → Option Nat}
theorem Tri.keep (h : Tri w base root cap N M F) (hk : ∀ k o, base ≤ k → w.heap[k]? = some o → w'.heap[k]? = some o) : Tri w' base root cap N M F :=
  { h with
    node := fun p a hp => ⟨(h.node p a hp).1, hk _ _ (h.node p a hp).1 (h.node p a hp).2⟩
    kids := fun p m hp hm => by
      obtain ⟨h1, D, h2, h3⟩ := h.kids p m hp hm
      exact ⟨h1, D, map_keep h2 fun o => hk _ o h1, h3⟩ }
theorem Tri.below (h : Tri w base root cap N M F) (hb : Below w.heap.size w w') : Tri w' base root cap N M F :=
  h.keep fun k o _ ho => (hb.block k (Array.getElem?_eq_some_iff.1 ho).1).trans ho
theorem Tri.mono (h : Tri w base root cap N M F) {c : Nat} (hc : cap ≤ c) : Tri w base root c N M F :=
  { h with
    kids := fun p m hp hm => by
      obtain ⟨h1, D, h2, h3⟩ := h.kids p m hp hm
      exact ⟨h1, D, h2.mono hc, h3⟩ }
theorem Tri.dead (h : Tri w base root cap N M F) (p : Tx) (hp : N p = none) (q : Tx) : N (p ++ q) = none := by
  induction q generalizing p with
  | nil => simpa using hp
  | cons b q ih =>
    have := ih (p ++ [b]) (Classical.not_not.1 fun hh => h.shut _ _ hh hp)
    simpa using this
theorem Tri.cells (h : Tri w base root cap N M F) {p : Tx} {a : Nat} (hp : N p = some a) :
    w.cell? ⟨a, 0, none⟩ = some (.bool (F p).isSome) ∧ w.cell? ⟨a, 1, none⟩ = some (.int .i64 (((F p).getD 0 : Nat) : Int)) ∧ w.cell? ⟨a, 2, none⟩ = some (.map (M p)) := by
  have hn := (h.node p a hp).2
  refine ⟨?_, ?_, ?_⟩ <;> simp [World.cell?, hn]
theorem Tri.free (h : Tri w base root cap N M F) {p : Tx} {a : Nat} (hp : N p = some a) (i : Nat) : w.frozen? ⟨a, i, none⟩ = false := by
  have hn := (h.node p a hp).2
  simp [World.frozen?, hn]
theorem Tri.lt (h : Tri w base root cap N M F) {p : Tx} {a : Nat} (hp : N p = some a) : a < w.heap.size := (Array.getElem?_eq_some_iff.1 (h.node p a hp).2).1
/-- another word ends -/
theorem Tri.put (h : Tri w base root cap N M F) {p : Tx} {a : Nat} (hp : N p = some a) (i : Nat) (hi : i < 1000) (hF : F p = none) (hnew : ∀ q, F q ≠ some i) :
    Tri ((w.setCell ⟨a, 0, none⟩ (.bool true)).setCell ⟨a, 1, none⟩ (.int .i64 (i : Int))) base root cap N M (fun q => if q = p then some i else F q) := by
  have hn := (h.node p a hp).2
  have hoth : ∀ k, k ≠ a → ((w.setCell ⟨a, 0, none⟩ (.bool true)).setCell ⟨a, 1, none⟩ (.int .i64 (i : Int))).heap[k]? = w.heap[k]? := fun k hk => by
    simp [World.setCell, Array.getElem?_modify, Ne.symm hk]
  have hsame : ((w.setCell ⟨a, 0, none⟩ (.bool true)).setCell ⟨a, 1, none⟩ (.int .i64 (i : Int))).heap[a]? = some (.cells #[.bool true, .int .i64 (i : Int), .map (M p)] 57 (0, 0)) := by
    simp [World.setCell, Array.getElem?_modify, hn]
  refine { h with ends := ?_, node := ?_, kids := ?_, few := ?_, sole := ?_ }
  · intro q hq
    by_cases e : q = p
    · subst e; rw [hp]; simp
    · rw [if_neg e] at hq; exact h.ends q hq
  · intro q b hq
    refine ⟨(h.node q b hq).1, ?_⟩
    by_cases e : q = p
    · subst e
      rw [hp] at hq
      cases hq
      rw [hsame]
      simp
    · have hab : b ≠ a := fun hh => e (h.one q p a (hh ▸ hq) hp)
      rw [hoth b hab, if_neg e]
      exact (h.node q b hq).2
  · intro q m hq hm
    obtain ⟨h1, D, h2, h3⟩ := h.kids q m hq hm
    refine ⟨h1, D, map_keep h2 fun o ho => ?_, h3⟩
    by_cases hma : m = a
    · subst hma
      obtain ⟨es, cl, hb, _⟩ := h2
      rw [hb] at hn; cases hn
    · rw [hoth m hma]; exact ho
  · intro q j hq
    by_cases e : q = p
    · rw [if_pos e] at hq; cases hq; exact hi
    · rw [if_neg e] at hq; exact h.few q j hq
  · intro q r j hq hr
    by_cases e : q = p
    · rw [if_pos e] at hq; cases hq
      by_cases e2 : r = p
      · rw [e, e2]
      · rw [if_neg e2] at hr; exact absurd hr (hnew r)
    · rw [if_neg e] at hq
      by_cases e2 : r = p
      · rw [if_pos e2] at hr; cases hr; exact absurd hq (hnew q)
      · rw [if_neg e2] at hr; exact h.sole q r j hq hr
end
end Go.Proofs.Ytioncjnjhmnlaaa
