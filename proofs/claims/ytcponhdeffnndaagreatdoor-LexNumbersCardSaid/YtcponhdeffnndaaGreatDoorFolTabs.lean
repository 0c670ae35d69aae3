/-
  What the listed variables (the letters, the rows) hold when a call begins.
-/
import Derived.Test.YtcponhdeffnndaaGreatDoorFolRows
import Derived.Test.YtcponhdeffnndaaGreatDoorBase
import Derived.ProofKit
import Derived.Lib.LaidTab
import Derived.LaidLaws
import Derived.Stop.LaidErr
import Derived.Lay
import Derived.MakeChecks
namespace Go.Proofs.YtcponhdeffnndaaGreatDoor
open Go.ChangeShapes Go.WideShapes Go.ChangeAt Go.RowKit
set_option linter.unusedVariables false
set_option linter.unusedSimpArgs false

def strV (l : List UInt8) : Value := .string ⟨l.toArray⟩
/-- the letters behind C3, as the program's variable has them -/
def latinT : List (List UInt8) := Fo.tab.take 32
def latinCells : List Value := latinT.map strV
def rowCells (r : Fo.Row) : List Value := [.int .u8 r.1, strV r.2.1, strV r.2.2]
def rowsCells : List Value := Fo.T.flatMap rowCells

theorem strs_of {H : Type} {enc : TypeId × Value → H} {P : Program} {w : World} {base : Nat} {sp : Nat → Bool} {held : Bool} {fuel : Nat} {t e : TypeId} {n : Nat} {cs : List Value} {zs : List (List UInt8)} {p : List MemPlace}
    (ht : P.underlying t = some (.array n e)) (he : P.underlying e = some .string) (hce : P.cellsOf e = 1) (hct : P.cellsOf t = n)
    (h : DataW.trod enc P w base sp held fuel t cs = some (.agg (zs.map fun z => .lit (.string z)), p)) : cs = zs.map strV := by
  cases fuel with
  | zero => simp [DataW.trod] at h
  | succ fuel =>
    simp only [DataW.trod, ht, hce, hct, Nat.mul_one] at h
    split at h
    · rename_i hl
      obtain ⟨xs, hm, hx⟩ := Option.map_eq_some_iff.1 h
      have hxs : xs.map (·.1) = zs.map fun z => (DataW.lit (.string z) : DataW H) := by
        have := congrArg Prod.fst hx
        simpa using this
      have hxl : xs.length = n := by simpa using Lib.mapM_length hm
      have hzl : zs.length = n := by
        have := congrArg List.length hxs
        simp at this
        omega
      apply List.ext_getElem?
      intro i
      by_cases hi : i < n
      · obtain ⟨b, hb, hf⟩ := Lib.mapM_at hm i i (by simp [hi])
        obtain ⟨s, hc, rfl, _⟩ := DataW.trod_string he hf
        have h1 : cs[i]? = some (.string s) := by
          have := congrArg (·[0]?) hc
          simpa [List.getElem?_take, List.getElem?_drop] using this
        have h2 : (xs.map (·.1))[i]? = some (DataW.lit (.string s.data.toList) : DataW H) := by simp [hb]
        rw [hxs] at h2
        simp only [List.getElem?_map, Option.map_eq_some_iff, DataW.lit.injEq, Lit.string.injEq] at h2
        obtain ⟨z', hz', e⟩ := h2
        simp [h1, hz', strV, e]
      · rw [List.getElem?_eq_none (by omega), List.getElem?_eq_none (by simp; omega)]
    · cases h

theorem chunks : ∀ (l : List Fo.Row) (cs : List Value), cs.length = l.length * 3 → (∀ i r, l[i]? = some r → (cs.drop (i * 3)).take 3 = rowCells r) → cs = l.flatMap rowCells
  | [], cs, h, _ => by simpa using h
  | r :: l, cs, h, hi => by
    have h0 := hi 0 r rfl
    simp only [Nat.zero_mul, List.drop_zero] at h0
    have ih := chunks l (cs.drop 3) (by rw [List.length_drop, h]; simp; omega) (fun i x hx => by
      have := hi (i + 1) x (by simpa using hx)
      rwa [List.drop_drop, show 3 + i * 3 = (i + 1) * 3 by omega])
    rw [List.flatMap_cons, ← ih, ← h0, List.take_append_drop]

theorem row_of {H : Type} {enc : TypeId × Value → H} {P : Program} {w : World} {base : Nat} {sp : Nat → Bool} {held : Bool} {fuel : Nat} {t a b : TypeId} {f0 f1 f2 : Field} {cs : List Value} {r : Fo.Row} {p : List MemPlace}
    (ht : P.underlying t = some (.struct #[f0, f1, f2])) (hc : P.cellsOf t = 3) (ha : P.underlying a = some (.int .u8)) (hb : P.underlying b = some .string) (ca : P.cellsOf a = 1) (cb : P.cellsOf b = 1)
    (t0 : f0.type = a) (t1 : f1.type = b) (t2 : f2.type = b) (o0 : f0.offset = 0) (o1 : f1.offset = 1) (o2 : f2.offset = 2)
    (h : DataW.trod enc P w base sp held fuel t cs = some (.agg [.lit (.int .u8 r.1), .lit (.string r.2.1), .lit (.string r.2.2)], p)) : cs = rowCells r := by
  obtain ⟨xs, n, _, hx, hl, hlen, hf⟩ := DataW.trod_struct ht h
  have g0 := hf 0 f0 rfl
  have g1 := hf 1 f1 rfl
  have g2 := hf 2 f2 rfl
  rw [t0, o0, ca] at g0
  rw [t1, o1, cb] at g1
  rw [t2, o2, cb] at g2
  rw [hc] at hl
  match cs, hl with
  | [x, y, z], _ =>
    match xs, hlen with
    | [y0, y1, y2], _ =>
      simp only [List.drop_zero, List.take_succ_cons, List.take_zero, List.drop_succ_cons, List.getElem?_cons_zero, List.getElem?_cons_succ] at g0 g1 g2
      obtain ⟨z0, e0, e0', _⟩ := DataW.trod_int ha g0
      obtain ⟨s1, e1, e1', _⟩ := DataW.trod_string hb g1
      obtain ⟨s2, e2, e2', _⟩ := DataW.trod_string hb g2
      subst e0' e1' e2'
      simp at e0 e1 e2 hx
      obtain ⟨⟨h0, h1, h2⟩, _⟩ := hx
      subst e0 e1 e2
      simp [rowCells, strV, h0, h1, h2]
theorem rows_of {H : Type} {enc : TypeId × Value → H} {P : Program} {w : World} {base : Nat} {sp : Nat → Bool} {held : Bool} {fuel : Nat} {t e a b : TypeId} {n : Nat} {f0 f1 f2 : Field} {cs : List Value} {zs : List Fo.Row} {p : List MemPlace}
    (ht : P.underlying t = some (.array n e)) (he : P.underlying e = some (.struct #[f0, f1, f2])) (hce : P.cellsOf e = 3) (hct : P.cellsOf t = n * 3)
    (ha : P.underlying a = some (.int .u8)) (hb : P.underlying b = some .string) (ca : P.cellsOf a = 1) (cb : P.cellsOf b = 1)
    (t0 : f0.type = a) (t1 : f1.type = b) (t2 : f2.type = b) (o0 : f0.offset = 0) (o1 : f1.offset = 1) (o2 : f2.offset = 2)
    (h : DataW.trod enc P w base sp held fuel t cs = some (.agg (zs.map fun r => .agg [.lit (.int .u8 r.1), .lit (.string r.2.1), .lit (.string r.2.2)]), p)) : cs = zs.flatMap rowCells := by
  cases fuel with
  | zero => simp [DataW.trod] at h
  | succ fuel =>
    simp only [DataW.trod, ht, hce, hct] at h
    split at h
    · rename_i hl
      obtain ⟨xs, hm, hx⟩ := Option.map_eq_some_iff.1 h
      have hxs : xs.map (·.1) = zs.map fun r => (DataW.agg [.lit (.int .u8 r.1), .lit (.string r.2.1), .lit (.string r.2.2)] : DataW H) := by
        have := congrArg Prod.fst hx
        simpa using this
      have hxl : xs.length = n := by simpa using Lib.mapM_length hm
      have hzl : zs.length = n := by
        have := congrArg List.length hxs
        simp at this
        omega
      refine chunks zs cs (by omega) fun i r hr => ?_
      have hi : i < n := by
        have := (List.getElem?_eq_some_iff.1 hr).1
        omega
      obtain ⟨b', hb', hf⟩ := Lib.mapM_at hm i i (by simp [hi])
      have h2 : (xs.map (·.1))[i]? = some b'.1 := by simp [hb']
      rw [hxs] at h2
      simp only [List.getElem?_map, hr, Option.map_some, Option.some.injEq] at h2
      obtain ⟨d, q⟩ := b'
      simp only at h2
      subst h2
      exact row_of he hce ha hb ca cb t0 t1 t2 o0 o1 o2 hf
    · cases h

/-- the block of a variable -/
theorem var_block {P : Program} {W : World} {name : String} {g : Nat} {cs : Array Value} (hg : P.globalNamed name = some g) (h : W.var? P name = some cs) : ∃ t fr, W.heap[g]? = some (.cells cs t fr) := by
  unfold World.var? at h
  rw [hg] at h
  simp only [Option.bind_some] at h
  split at h
  · rename_i c t fr he
    obtain rfl : c = cs := by simpa using h
    exact ⟨t, fr, he⟩
  · cases h
theorem head_var {P : Program} {W : World} {name : String} {d : DataW Unit} {rest : List (String × DataW Unit)} {g : Nat} {t : TypeId} (hg : P.globalNamed name = some g) (hty : (P.globals[g]?).map (·.type) = some t)
    (h : laidMet P ((name, d) :: rest) W) : ∃ (enc : TypeId × Value → Unit) (base : Nat) (sp : Nat → Bool) (held : Bool) (fuel : Nat) (cs : List Value) (p : List MemPlace), W.var? P name = some cs.toArray ∧ DataW.trod enc P W base sp held fuel t cs = some (d, p) := by
  obtain ⟨ps, ⟨g', t', cs, fuel, p, q, hg', ht', hvar, hd, _, _⟩, _⟩ := h
  obtain rfl := Option.some.inj (hg.symm.trans hg')
  obtain rfl := Option.some.inj (hty.symm.trans ht')
  exact ⟨_, _, _, _, _, _, _, hvar, hd⟩

/-- what the contracts ask: the letters and the rows lie -/
structure Rdy (w : World) : Prop where
  lat : ∃ t fr, w.heap[6]? = some (.cells latinCells.toArray t fr)
  row : ∃ t fr, w.heap[2]? = some (.cells rowsCells.toArray t fr)
theorem lt_of_heap {w : World} {g : Nat} {o : Obj} (h : w.heap[g]? = some o) : g < w.heap.size := by
  rcases Nat.lt_or_ge g w.heap.size with c | c
  · exact c
  · rw [Array.getElem?_eq_none c] at h; cases h
theorem Rdy.below {w w' : World} (h : Rdy w) (hb : Below w.heap.size w w') : Rdy w' := by
  obtain ⟨⟨t, fr, h1⟩, ⟨t2, fr2, h2⟩⟩ := h
  exact ⟨⟨t, fr, (hb.block _ (lt_of_heap h1)).trans h1⟩, ⟨t2, fr2, (hb.block _ (lt_of_heap h2)).trans h2⟩⟩

theorem g_lat : Tryz.prog.globalNamed "letterbag/fold.latin" = some 6 := by kernel_rfl
theorem gt_lat : (Tryz.prog.globals[6]?).map (fun g => g.type) = some 402 := by kernel_rfl
theorem g_row : Tryz.prog.globalNamed "letterbag/fold.rows" = some 2 := by kernel_rfl
theorem gt_row : (Tryz.prog.globals[2]?).map (fun g => g.type) = some 206 := by kernel_rfl
theorem cStr : Tryz.prog.cellsOf 9 = 1 := by kernel_rfl
theorem cU8 : Tryz.prog.cellsOf 5 = 1 := by kernel_rfl
theorem cRow : Tryz.prog.cellsOf 143 = 3 := by kernel_rfl
theorem cLat : Tryz.prog.cellsOf 402 = 32 := by kernel_rfl
theorem cRows : Tryz.prog.cellsOf 206 = 40 * 3 := by kernel_rfl

end Go.Proofs.YtcponhdeffnndaaGreatDoor
