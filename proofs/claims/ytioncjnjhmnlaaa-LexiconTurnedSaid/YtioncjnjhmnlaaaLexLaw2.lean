/-
  What is kept along a law; the contracts in the form that the laws use.
-/
import Derived.Test.YtioncjnjhmnlaaaLexMoreP
import Derived.SliceStrings
import Derived.OpenShut
namespace Go.Proofs.Ytioncjnjhmnlaaa
open Go.RowKit Lx Go.ChangeShapes Go.WideShapes
set_option linter.unusedVariables false
set_option linter.unusedSimpArgs false

theorem near_zero {c : Ed.Cst} (hc : c.ok) {ws : List ByteArray} (hw : Wds ws) (s : ByteArray) : nearOf c ws s 0 = match fnd (txs ws) (tx s) with | none => [] | some i => [((i : Int), 0)] := by
  have h0 : ∀ k, k < ws.length → (Ed.D c (tx s) (tx (ws.getD k ByteArray.empty)) ≤ 0 ↔ fnd (txs ws) (tx s) = some k) := fun k hk => by
    rw [fnd_iff hw.one, txs_at ws k hk]
    have hn := Ed.D_nonneg hc (tx s) (tx (ws.getD k ByteArray.empty))
    constructor
    · intro h
      rw [Ed.D_zero hc _ _ _ (Nat.le_refl _) (show Ed.D c (tx s) (tx (ws.getD k ByteArray.empty)) = 0 by omega)]
    · intro h
      rw [Option.some.inj h, Ed.D_self hc]
      omega
  have hH : ∀ k, k ≤ ws.length → HL c ws s 0 k = match fnd (txs ws) (tx s) with | none => [] | some i => if i < k then [((i : Int), 0)] else [] := by
    intro k
    induction k with
    | zero => intro _; cases fnd (txs ws) (tx s) <;> simp [HL]
    | succ k ih =>
      intro hk
      have ih := ih (by omega)
      by_cases h : Ed.D c (tx s) (tx (ws.getD k ByteArray.empty)) ≤ 0
      · have h1 := (h0 k (by omega)).1 h
        have hn := Ed.D_nonneg hc (tx s) (tx (ws.getD k ByteArray.empty))
        have e : Ed.D c (tx s) (tx (ws.getD k ByteArray.empty)) = 0 := by omega
        rw [HL_yes h, ih, h1, e]
        simp
      · have h1 := fun hh => h ((h0 k (by omega)).2 hh)
        rw [HL_no h, ih]
        cases hf : fnd (txs ws) (tx s) with
        | none => rfl
        | some i =>
          have : i ≠ k := fun e => h1 (by rw [hf, e])
          by_cases hik : i < k
          · simp [hik, show i < k + 1 by omega]
          · simp [hik, show ¬ i < k + 1 by omega]
  symm
  refine nearOf_eq ?_ ?_
  · rw [hH ws.length (Nat.le_refl _)]
    cases hf : fnd (txs ws) (tx s) with
    | none => exact List.Perm.refl _
    | some i =>
      have := fnd_lt hf
      rw [txs_len] at this
      simp [this]
  · cases fnd (txs ws) (tx s) <;> simp [InH]
/-- the costs' box, the words, what lay there -/
structure LS7 (w : World) (c : Ed.Cst) (A : Option Addr) (ws : List ByteArray) (V : World) : Prop where
  c0 : V.cell? ⟨w.heap.size, 0, none⟩ = some (.int .i64 c.ins)
  c1 : V.cell? ⟨w.heap.size, 1, none⟩ = some (.int .i64 c.del)
  c2 : V.cell? ⟨w.heap.size, 2, none⟩ = some (.int .i64 c.chg)
  c3 : V.cell? ⟨w.heap.size, 3, none⟩ = some (.int .i64 c.swp)
  bel : Below w.heap.size w V
  rd : RdW V 0 A ws
theorem LS7.next {w V V2 : World} {c : Ed.Cst} {A : Option Addr} {ws : List ByteArray} (h : LS7 w c A ws V) (hb : Below V.heap.size V V2) : LS7 w c A ws V2 :=
  ⟨cell_keep h.c0 hb, cell_keep h.c1 hb, cell_keep h.c2 hb, cell_keep h.c3 hb, h.bel.trans (hb.mono h.bel.size), h.rd.below hb⟩
theorem LS7.cb {w V : World} {c : Ed.Cst} {A : Option Addr} {ws : List ByteArray} (h : LS7 w c A ws V) : V.cell? ⟨w.heap.size, 0, none⟩ = some (.int .i64 c.ins) ∧ V.cell? ⟨w.heap.size, 1, none⟩ = some (.int .i64 c.del) ∧ V.cell? ⟨w.heap.size, 2, none⟩ = some (.int .i64 c.chg) ∧ V.cell? ⟨w.heap.size, 3, none⟩ = some (.int .i64 c.swp) :=
  ⟨h.c0, h.c1, h.c2, h.c3⟩
theorem LS7.start (w : World) (c : Ed.Cst) (A : Option Addr) (ws : List ByteArray) (h : RdW w 0 A ws) : LS7 w c A ws (w.alloc (.cells #[.int .i64 c.ins, .int .i64 c.del, .int .i64 c.chg, .int .i64 c.swp] 24)) :=
  ⟨by go_simp, by go_simp, by go_simp, by go_simp, below_new w _, h.below (below_new w _)⟩
theorem few_bool {ws : List ByteArray} {b : Bool} (hb : decide (fewOf ws) = b) {A : Option Addr} {c : Nat} (hl : ws.length ≤ 9223372036854775807) (V : World) (h : RdW V 0 A ws) :
    Calls Try.prog 8 #[.slice A ws.length c] V fun e w' => e = .returned (.bool b) ∧ Below V.heap.size V w' := by
  subst hb; exact few_any A c 0 ws V h hl
theorem right_bool {c : Ed.Cst} {b : Bool} (hb : decide c.ok = b) (V : World) :
    Calls Try.prog 9 #[.agg #[.int .i64 c.ins, .int .i64 c.del, .int .i64 c.chg, .int .i64 c.swp]] V fun e w' => e = .returned (.bool b) ∧ Below V.heap.size V w' := by
  subst hb; exact right_any c V
theorem new_yes {ws : List ByteArray} (h0 : errNew ws = 0) {A : Option Addr} {c : Nat} (hl : ws.length ≤ 1000000000) (V : World) (h : RdW V 0 A ws) :
    Calls Try.prog 10 #[.slice A ws.length c] V fun e w' => ∃ x b, e = .returned (.tuple #[.pointer (some ⟨x, 0, none⟩), .int .i64 0]) ∧ LexO w' b x ws ∧ Below V.heap.size V w' := by
  refine (new_any A c 0 ws V h hl).mono ?_
  rintro e w' ⟨hb, ⟨-, x, rfl, hx⟩ | ⟨h1, -⟩⟩
  · exact ⟨x, _, rfl, hx, hb⟩
  · exact absurd h0 h1
theorem new_no {ws : List ByteArray} (h0 : errNew ws ≠ 0) {A : Option Addr} {c : Nat} (hl : ws.length ≤ 1000000000) (V : World) (h : RdW V 0 A ws) :
    Calls Try.prog 10 #[.slice A ws.length c] V fun e w' => ∃ n : Nat, n ≠ 0 ∧ e = .returned (.tuple #[.pointer none, .int .i64 (n : Int)]) ∧ Below V.heap.size V w' := by
  refine (new_any A c 0 ws V h hl).mono ?_
  rintro e w' ⟨hb, ⟨h1, -⟩ | ⟨-, rfl⟩⟩
  · exact absurd h1 h0
  · exact ⟨_, h0, rfl, hb⟩
/-- a slice of hits: nil, or a block -/
def Two (w : World) (A : Option Addr) (n cp : Nat) (l : List (Int × Int)) : Prop := n = l.length ∧ n ≤ cp ∧ cp ≤ 9223372036854775807 ∧ RdH w A l ∧ ((A = none ∧ n = 0 ∧ cp = 0) ∨ ∃ g, A = some ⟨g, 0, none⟩)
theorem OwnH.two {w : World} {base : Nat} {A : Option Addr} {n cp : Nat} {l : List (Int × Int)} (h : OwnH w base (.slice A n cp) l) : Two w A n cp l := by
  obtain ⟨A', c', e, h1, h2, h3⟩ := h.shape
  cases e
  refine ⟨rfl, h1, h2, h3, ?_⟩
  rcases h.2 with ⟨e1, e2⟩ | ⟨g, cap, cur, e1, -⟩
  · injection e1 with q1 q2 q3; exact .inl ⟨q1, q2, q3⟩
  · injection e1 with q1 q2 q3; exact .inr ⟨g, q1⟩
theorem near_two {b x : Nat} {c : Ed.Cst} {ws : List ByteArray} {s : ByteArray} (most : Int) {V : World} (hL : LexO V b x ws) (hc : c.ok) (hs : s.size ≤ 60) :
    Calls Try.prog 11 #[.pointer (some ⟨x, 0, none⟩), .string s, .agg #[.int .i64 c.ins, .int .i64 c.del, .int .i64 c.chg, .int .i64 c.swp], .int .i64 most] V fun e w' =>
      ∃ A n cp, e = .returned (.tuple #[.slice A n cp, .int .i64 0]) ∧ Two w' A n cp (nearOf c ws s most) ∧ Below V.heap.size V w' := by
  refine Calls.mono (near_ok b x c ws s most V hL hc hs) ?_
  rintro e w' ⟨A, n, cp, rfl, ho, hb⟩
  exact ⟨A, n, cp, rfl, ho.two, hb⟩
theorem best_two {b x : Nat} {c : Ed.Cst} {ws : List ByteArray} {s : ByteArray} (most : Int) {V : World} (hL : LexO V b x ws) (hc : c.ok) (hs : s.size ≤ 60) :
    Calls Try.prog 12 #[.pointer (some ⟨x, 0, none⟩), .string s, .agg #[.int .i64 c.ins, .int .i64 c.del, .int .i64 c.chg, .int .i64 c.swp], .int .i64 most] V fun e w' =>
      ∃ A n cp, e = .returned (.tuple #[.slice A n cp, .int .i64 0]) ∧ (n = (bestOf (nearOf c ws s most)).length ∧ RdH w' A (bestOf (nearOf c ws s most))) ∧ Below V.heap.size V w' := by
  refine Calls.mono (best_ok b x c ws s most V hL hc hs) ?_
  rintro e w' ⟨A, cp, rfl, ho, -, -, hb⟩
  exact ⟨A, _, cp, rfl, ⟨rfl, ho⟩, hb⟩
theorem Two.below {w w' : World} {A : Option Addr} {n cp : Nat} {l : List (Int × Int)} (h : Two w A n cp l) (hb : Below w.heap.size w w') : Two w' A n cp l := ⟨h.1, h.2.1, h.2.2.1, h.2.2.2.1.below hb, h.2.2.2.2⟩
theorem same_true {V : World} {A1 A2 : Option Addr} {n k1 k2 : Nat} {l : List (Int × Int)} (h1 : n = l.length) (hn : n ≤ 1000000) (r1 : RdH V A1 l) (r2 : RdH V A2 l) :
    Calls Try.prog 14 #[.slice A1 n k1, .slice A2 n k2] V fun e w' => e = .returned (.bool true) ∧ Below V.heap.size V w' := by
  refine (same_any A1 A2 n n k1 k2 l l V h1.symm h1.symm hn hn r1 r2).mono ?_
  rintro e w' ⟨rfl, hb⟩
  exact ⟨by simp, hb⟩
theorem same_lit {V : World} {A : Option Addr} {k : Nat} {a b : Int} (h : RdH V A [(a, b)]) :
    Calls Try.prog 14 #[.slice A 1 k, .slice (some ⟨V.heap.size, 0, none⟩) 1 1] (V.alloc (.cells #[.int .i64 a, .int .i64 b] 38)) fun e w' => e = .returned (.bool true) ∧ Below V.heap.size V w' := by
  refine (same_true (l := [(a, b)]) rfl (by simp) (h.below (below_new V _)) (hits_new V [(a, b)])).mono ?_
  rintro e w' ⟨rfl, hb⟩
  exact ⟨rfl, (below_new V _).trans (hb.mono (by simp))⟩
theorem near_len (c : Ed.Cst) (ws : List ByteArray) (s : ByteArray) (m : Int) : (nearOf c ws s m).length ≤ ws.length := by
  rw [(near_in c ws s m).2.length_eq]
  exact HL_len c ws s m ws.length
/-- words that come in -/
theorem open_words {H : Type} {enc : TypeId × Value → H} {W : World} {sp : Nat → Bool} {hd : Bool} {A : Option Addr} {len cap : Nat} {d : DataW H} {p : List MemPlace} (h : DataW.Trod enc Try.prog W 0 sp hd 22 (.slice A len cap) d p) :
    ∃ ws : List ByteArray, ws.length = len ∧ len ≤ cap ∧ RdW W 0 A ws ∧ len ≤ maxLen := by
  obtain ⟨fuel, hf⟩ := h
  rcases open_strings Try.underlying22 Try.underlying9 (by kernel_rfl) hf with ⟨hcs, _⟩ | ⟨a, l', c', ss, hcs, _, hl, hmx, hm, _, hx, _⟩
  · simp [Value.cells] at hcs
    obtain ⟨rfl, rfl, rfl⟩ := hcs
    exact ⟨[], rfl, Nat.le_refl _, fun h => absurd h (by simp), by omega⟩
  · simp [Value.cells] at hcs
    obtain ⟨rfl, rfl, rfl⟩ := hcs
    have hle : len ≤ ss.length := by rw [hm]; split <;> omega
    refine ⟨ss.take len, by rw [List.length_take]; omega, hl, fun h0 => ?_, by omega⟩
    rw [List.length_take] at h0
    obtain ⟨b, off, spot⟩ := a
    have h00 := hx 0 (by omega)
    have hspot : spot = none := by simpa [Addr.add] using World.cell?_spot h00
    subst hspot
    have hb := World.block_lt_of_cell? _ _ h00
    refine ⟨b, off, rfl, Nat.zero_le _, by simpa [Addr.add] using hb, fun i hi => ?_⟩
    rw [List.length_take] at hi
    have := hx i (by omega)
    have ea : (⟨b, off, none⟩ : Addr).add i = ⟨b, off + i, none⟩ := by unfold Addr.add; split <;> simp [*]
    rw [ea] at this
    rw [this]
    simp [List.getD_eq_getElem?_getD, List.getElem?_take, show i < len by omega]
end Go.Proofs.Ytioncjnjhmnlaaa
