/-
  The map of closures, and the closures in the order of their kinds.
-/
import Derived.Test.YthojojjdamchpaaEdiStep
import Derived.Test.YthojojjdamchpaaBaseMap
import Derived.Laws.EntriesVeiled
import Derived.Outline
namespace Go.Proofs.Ythojojjdamchpaa
open Go.RowKit
open Go.MapKept (run_checkKey IsKey)
set_option linter.unusedVariables false
set_option linter.unusedSimpArgs false

/-- the closures -/
def ptr (B : Nat) : Value := .pointer (some ⟨B, 0, none⟩)
def fn1 (A B : Nat) : Value := .func (.func 32) #[] #[.pointer (some ⟨A, 0, none⟩), .pointer (some ⟨B, 0, none⟩)]
def fn2 (A B C : Nat) : Value := .func (.func 33) #[] #[.pointer (some ⟨C, 0, none⟩), .pointer (some ⟨A, 0, none⟩), .pointer (some ⟨B, 0, none⟩)]
def fn3 (A B C : Nat) : Value := .func (.func 34) #[] #[.pointer (some ⟨C, 0, none⟩), .pointer (some ⟨A, 0, none⟩), .pointer (some ⟨B, 0, none⟩)]
def fn4 (A C : Nat) : Value := .func (.func 35) #[] #[.pointer (some ⟨C, 0, none⟩), .pointer (some ⟨A, 0, none⟩)]
def fn5 (B C : Nat) : Value := .func (.func 36) #[] #[.pointer (some ⟨C, 0, none⟩), .pointer (some ⟨B, 0, none⟩)]
def sEs (A B C : Nat) : Array MapEntry := #[⟨.int .u8 1, fn1 A B, 0⟩, ⟨.int .u8 2, fn2 A B C, 1⟩, ⟨.int .u8 3, fn3 A B C, 2⟩, ⟨.int .u8 4, fn4 A C, 3⟩, ⟨.int .u8 5, fn5 B C, 4⟩]
/-- what the closures have captured -/
structure Caps (W : World) (A B C : Nat) (a b : ByteArray) (c : Ed.Cst) : Prop where
  ca : W.cell? ⟨A, 0, none⟩ = some (.string a)
  cb : W.cell? ⟨B, 0, none⟩ = some (.string b)
  c0 : W.cell? ⟨C, 0, none⟩ = some (.int .i64 c.ins)
  c1 : W.cell? ⟨C, 1, none⟩ = some (.int .i64 c.del)
  c2 : W.cell? ⟨C, 2, none⟩ = some (.int .i64 c.chg)
  c3 : W.cell? ⟨C, 3, none⟩ = some (.int .i64 c.swp)
theorem cell_keep {w w' : World} {b o : Nat} {v : Value} (h : w.cell? ⟨b, o, none⟩ = some v) (hb : Below w.heap.size w w') : w'.cell? ⟨b, o, none⟩ = some v :=
  (hb.cell (p := ⟨b, o, none⟩) (lt_of_cell h)).trans h
theorem Caps.below {W W' : World} {A B C : Nat} {a b : ByteArray} {c : Ed.Cst} (h : Caps W A B C a b c) (hb : Below W.heap.size W W') : Caps W' A B C a b c :=
  ⟨cell_keep h.ca hb, cell_keep h.cb hb, cell_keep h.c0 hb, cell_keep h.c1 hb, cell_keep h.c2 hb, cell_keep h.c3 hb⟩
theorem Caps.grown {W W' : World} {A B C m : Nat} {a b : ByteArray} {c : Ed.Cst} (h : Caps W A B C a b c) (hg : W.grownBy W' (some m)) (hA : A ≠ m) (hB : B ≠ m) (hC : C ≠ m) : Caps W' A B C a b c :=
  ⟨hg.cell h.ca (by simp <;> omega), hg.cell h.cb (by simp <;> omega), hg.cell h.c0 (by simp <;> omega), hg.cell h.c1 (by simp <;> omega), hg.cell h.c2 (by simp <;> omega), hg.cell h.c3 (by simp <;> omega)⟩
/-- the costs as a value -/
def cstV (c : Ed.Cst) : Value := .agg #[.int .i64 c.ins, .int .i64 c.del, .int .i64 c.chg, .int .i64 c.swp]
def PostMap (a b : ByteArray) (c : Ed.Cst) (w : World) (e : Ending) (w' : World) : Prop :=
  ∃ m A B C, e = .returned (.map (some m)) ∧ w'.heap[m]? = some (.map (sEs A B C) 5) ∧ Caps w' A B C a b c ∧ Below w.heap.size w w' ∧ w.heap.size ≤ A ∧ w.heap.size ≤ B ∧ w.heap.size ≤ C

set_option maxRecDepth 100000 in
set_option maxHeartbeats 2000000 in
theorem steps_any (a b : ByteArray) (c : Ed.Cst) (w : World) :
    Calls Try.prog 29 #[.string a, .string b, cstV c] w (PostMap a b c w) := by
  unfold cstV
  have hmm := @run_makeMap Try.prog
  go_enter Try.func29, Try.ntmps29
  go_wp2_with (refine wpList_insert_lit _ rfl (.tmp 7) (.const (.int .u8 1)) (.tmp 8) 75 rfl 5 72 .u8 Try.underlying75 Try.underlying5 _ 0 _ rfl (map_new _ _ _ (by simp)) 1 (fn1 w.heap.size (w.heap.size + 1)) rfl rfl rfl ?_; intro w1 hb1 hg1)
  have C1 : Hid (Caps w1 w.heap.size (w.heap.size + 1) (w.heap.size + 1 + 1) a b c) := Lib.hid ⟨hg1.cell (by go_simp) (by simp <;> omega), hg1.cell (by go_simp) (by simp <;> omega), hg1.cell (by go_simp) (by simp <;> omega), hg1.cell (by go_simp) (by simp <;> omega), hg1.cell (by go_simp) (by simp <;> omega), hg1.cell (by go_simp) (by simp <;> omega)⟩
  have B1 := Lib.hid ((((((Below.refl w.heap.size w).alloc (Nat.le_refl _) _).alloc (by simp <;> omega) _).alloc (by simp <;> omega) _).alloc (by simp <;> omega) _).grown hg1 (by simp <;> omega) (fun k hk => by cases hk; omega))
  have HB1 := Lib.hid hb1
  clear hg1 hb1
  obtain ⟨w2, hr2, hb2, hg2⟩ := insert_ex 75 5 72 .u8 1 Try.underlying75 Try.underlying5 HB1.out 2 (fn2 w.heap.size (w.heap.size + 1) (w.heap.size + 1 + 1)) (by simp [Instr.findNow, Instr.sameNow])
  unfold fn2 at hr2
  have B2 := Lib.hid (B1.out.grown hg2 B1.out.size (fun k hk => by cases hk; omega))
  have C2 := Lib.hid (C1.out.grown hg2 (by omega) (by omega) (by omega))
  have HB2 := Lib.hid hb2
  clear hg2 hb2
  obtain ⟨w3, hr3, hb3, hg3⟩ := insert_ex 75 5 72 .u8 2 Try.underlying75 Try.underlying5 HB2.out 3 (fn3 w.heap.size (w.heap.size + 1) (w.heap.size + 1 + 1)) (by simp [Instr.findNow, Instr.sameNow])
  unfold fn3 at hr3
  have B3 := Lib.hid (B2.out.grown hg3 B2.out.size (fun k hk => by cases hk; omega))
  have C3 := Lib.hid (C2.out.grown hg3 (by omega) (by omega) (by omega))
  have HB3 := Lib.hid hb3
  clear hg3 hb3
  obtain ⟨w4, hr4, hb4, hg4⟩ := insert_ex 75 5 72 .u8 3 Try.underlying75 Try.underlying5 HB3.out 4 (fn4 w.heap.size (w.heap.size + 1 + 1)) (by simp [Instr.findNow, Instr.sameNow])
  unfold fn4 at hr4
  have B4 := Lib.hid (B3.out.grown hg4 B3.out.size (fun k hk => by cases hk; omega))
  have C4 := Lib.hid (C3.out.grown hg4 (by omega) (by omega) (by omega))
  have HB4 := Lib.hid hb4
  clear hg4 hb4
  obtain ⟨w5, hr5, hb5, hg5⟩ := insert_ex 75 5 72 .u8 4 Try.underlying75 Try.underlying5 HB4.out 5 (fn5 (w.heap.size + 1) (w.heap.size + 1 + 1)) (by simp [Instr.findNow, Instr.sameNow])
  unfold fn5 at hr5
  have B5 := Lib.hid (B4.out.grown hg5 B4.out.size (fun k hk => by cases hk; omega))
  have C5 := Lib.hid (C4.out.grown hg5 (by omega) (by omega) (by omega))
  have HB5 := Lib.hid hb5
  clear hg5 hb5
  clear hmm
  rw [hr2]
  go_wp2
  try rw [hr3]
  try go_wp2
  try rw [hr4]
  try go_wp2
  try rw [hr5]
  try go_wp2
  go_ret
  exact ⟨_, _, _, _, rfl, HB5.out, C5.out, B5.out, by omega, by omega, by omega⟩

theorem run_lookup_one {P : Program} {w : World} {t k e : TypeId} {kd : IntKind} {b clock : Nat} {es : Array MapEntry} (ht : P.underlying t = some (.map k e)) (hk : P.underlying k = some (.int kd)) (hb : w.heap[b]? = some (.map es clock)) (n : Int) (i : Nat) (v : Value) (hf : Instr.findNow (.int kd) (.int kd n) es.toList 0 = some (some (i, v))) :
    (Instr.lookup t (.map (some b)) (.int kd n) false).run P w = .ok v w := by
  simp [Instr.lookup, run_underlying ht, MapKept.run_getObj_map hb, run_checkKey hk (k := .int kd n) (by simp [IsKey]) _ 9999, run_findKey_now hk n _ _ hf, Result.andThen]

/-- the closures by their kinds; the first k are there -/
def fnOf (A B C : Nat) (j : Nat) : Value := if j = 1 then fn1 A B else if j = 2 then fn2 A B C else if j = 3 then fn3 A B C else if j = 4 then fn4 A C else if j = 5 then fn5 B C else .nilFunc
def ordC (A B C k : Nat) : Array Value := #[.nilFunc, if 1 < k then fn1 A B else .nilFunc, if 2 < k then fn2 A B C else .nilFunc, if 3 < k then fn3 A B C else .nilFunc, if 4 < k then fn4 A C else .nilFunc, if 5 < k then fn5 B C else .nilFunc]
/-- the array of the closures -/
def ordV (A B C : Nat) : Value := .agg #[.nilFunc, fn1 A B, fn2 A B C, fn3 A B C, fn4 A C, fn5 B C]
structure InO (w wr : World) (m g A B C k : Nat) : Prop where
  bel : Below w.heap.size w wr
  map : wr.heap[m]? = some (.map (sEs A B C) 5)
  res : wr.heap[w.heap.size]? = some (.cells #[.nilFunc, .nilFunc, .nilFunc, .nilFunc, .nilFunc, .nilFunc] 73 (0, 0))
  ord : wr.heap[g]? = some (.cells (ordC A B C k) 73 (0, 0))
theorem InO.next {w wr : World} {m g A B C k : Nat} (h : InO w wr m g A B C k) (hm : m < w.heap.size) (hg : g = w.heap.size + 1) (v : Value) (hk : (ordC A B C k).set! k v = ordC A B C (k + 1)) : InO w (wr.setCell ⟨g, k, none⟩ v) m g A B C (k + 1) := by
  have hb : Below w.heap.size w (wr.setCell ⟨g, k, none⟩ v) := h.bel.setCell (by simp only [hg]; omega) _
  refine ⟨hb, ?_, ?_, ?_⟩
  · rw [show (wr.setCell ⟨g, k, none⟩ v).heap[m]? = wr.heap[m]? by simp [World.setCell, Array.getElem?_modify]; omega]; exact h.map
  · rw [show (wr.setCell ⟨g, k, none⟩ v).heap[w.heap.size]? = wr.heap[w.heap.size]? by simp [World.setCell, Array.getElem?_modify]; omega]; exact h.res
  · have := h.ord
    rw [← hk]
    simp [World.setCell, Array.getElem?_modify, this]
theorem set6 {w : World} {g : Nat} {x0 x1 x2 x3 x4 x5 : Value} {t : TypeId} (h : w.heap[g]? = some (.cells #[x0, x1, x2, x3, x4, x5] t (0, 0))) (y0 y1 y2 y3 y4 y5 : Value) :
    ((((((w.setCell ⟨g, 0, none⟩ y0).setCell ⟨g, 1, none⟩ y1).setCell ⟨g, 2, none⟩ y2).setCell ⟨g, 3, none⟩ y3).setCell ⟨g, 4, none⟩ y4).setCell ⟨g, 5, none⟩ y5).heap[g]? = some (.cells #[y0, y1, y2, y3, y4, y5] t (0, 0)) := by
  simp [World.setCell, Array.getElem?_modify, h]
theorem row6 {w : World} {g : Nat} {x0 x1 x2 x3 x4 x5 : Value} {t : TypeId} (h : w.heap[g]? = some (.cells #[x0, x1, x2, x3, x4, x5] t (0, 0))) :
    (w.cell? ⟨g, 0, none⟩ = some x0 ∧ w.cell? ⟨g, 1, none⟩ = some x1 ∧ w.cell? ⟨g, 2, none⟩ = some x2 ∧ w.cell? ⟨g, 3, none⟩ = some x3 ∧ w.cell? ⟨g, 4, none⟩ = some x4 ∧ w.cell? ⟨g, 5, none⟩ = some x5) ∧ ∀ i, w.frozen? ⟨g, i, none⟩ = false :=
  ⟨⟨cell_of_row _ _ 0 _ _ _ h, cell_of_row _ _ 1 _ _ _ h, cell_of_row _ _ 2 _ _ _ h, cell_of_row _ _ 3 _ _ _ h, cell_of_row _ _ 4 _ _ _ h, cell_of_row _ _ 5 _ _ _ h⟩, blk_frozen h⟩

set_option maxRecDepth 100000 in
set_option maxHeartbeats 2000000 in
theorem inOrder_any (m A B C : Nat) (w : World) (hm : w.heap[m]? = some (.map (sEs A B C) 5)) :
    Calls Try.prog 28 #[.map (some m)] w fun e w' => e = .returned (ordV A B C) ∧ Below w.heap.size w w' := by
  have hml : m < w.heap.size := (Array.getElem?_eq_some_iff.1 hm).1
  go_enter Try.func28, Try.ntmps28
  go_wp2
  have H0 : InO w ((w.alloc (.cells #[.nilFunc, .nilFunc, .nilFunc, .nilFunc, .nilFunc, .nilFunc] 73)).alloc (.cells #[.nilFunc, .nilFunc, .nilFunc, .nilFunc, .nilFunc, .nilFunc] 73)) m (w.heap.size + 1) A B C 1 := by
    have b1 := below_new w (.cells #[.nilFunc, .nilFunc, .nilFunc, .nilFunc, .nilFunc, .nilFunc] 73)
    have b2 := b1.alloc b1.size (.cells #[.nilFunc, .nilFunc, .nilFunc, .nilFunc, .nilFunc, .nilFunc] 73)
    refine ⟨b2, (b2.block _ hml).trans hm, ?_, ?_⟩
    · exact ((below_new (w.alloc (.cells #[.nilFunc, .nilFunc, .nilFunc, .nilFunc, .nilFunc, .nilFunc] 73)) _).block _ (by simp)).trans (heap_alloc_new w _)
    · have := heap_alloc_new (w.alloc (.cells #[.nilFunc, .nilFunc, .nilFunc, .nilFunc, .nilFunc, .nilFunc] 73)) (.cells #[.nilFunc, .nilFunc, .nilFunc, .nilFunc, .nilFunc, .nilFunc] 73)
      rw [World.size_alloc] at this; exact this
  obtain ⟨g, hg⟩ : ∃ g, w.heap.size + 1 = g := ⟨_, rfl⟩
  rw [hg] at H0
  rw [hg]
  have HG := Lib.hid hg
  have HI := Lib.hid H0
  clear H0 hg hm
  go_loopw [4] (fun s4 wr => ∃ k : Nat, s4 = .int .u8 k ∧ 1 ≤ k ∧ k ≤ 6 ∧ Hid (InO w wr m g A B C k)) (fun s4 _ => 6 - (intOf s4).toNat)
  case atStart => exact ⟨1, rfl, by omega, by omega, HI⟩
  case round =>
    obtain ⟨k, rfl, h1, h6, HS⟩ := hrel
    clear HI
    have hR := row6 HS.out.ord
    have hmp := HS.out.map
    obtain ⟨⟨c0, c1, c2, c3, c4, c5⟩, fz⟩ := hR
    have f0 := fz 1; have f1 := fz 2; have f2 := fz 3; have f3 := fz 4; have f4 := fz 5
    have hlk := fun n i v hf => run_lookup_one (P := Try.prog) (w := wr) Try.underlying75 Try.underlying5 hmp n i v hf
    have l1 := hlk 1 0 (fn1 A B) (by rfl)
    have l2 := hlk 2 1 (fn2 A B C) (by rfl)
    have l3 := hlk 3 2 (fn3 A B C) (by rfl)
    have l4 := hlk 4 3 (fn4 A C) (by rfl)
    have l5 := hlk 5 4 (fn5 B C) (by rfl)
    clear hlk hmp fz
    rcases (show k = 1 ∨ k = 2 ∨ k = 3 ∨ k = 4 ∨ k = 5 ∨ k = 6 by omega) with rfl | rfl | rfl | rfl | rfl | rfl
    · unfold fn1 at l1
      go_wp2
      exact ⟨⟨2, rfl, by omega, by omega, Lib.hid (HS.out.next hml HG.out.symm _ rfl)⟩, by decide⟩
    · unfold fn2 at l2
      go_wp2
      exact ⟨⟨3, rfl, by omega, by omega, Lib.hid (HS.out.next hml HG.out.symm _ rfl)⟩, by decide⟩
    · unfold fn3 at l3
      go_wp2
      exact ⟨⟨4, rfl, by omega, by omega, Lib.hid (HS.out.next hml HG.out.symm _ rfl)⟩, by decide⟩
    · unfold fn4 at l4
      go_wp2
      exact ⟨⟨5, rfl, by omega, by omega, Lib.hid (HS.out.next hml HG.out.symm _ rfl)⟩, by decide⟩
    · unfold fn5 at l5
      go_wp2
      exact ⟨⟨6, rfl, by omega, by omega, Lib.hid (HS.out.next hml HG.out.symm _ rfl)⟩, by decide⟩
    · have hR2 := row6 HS.out.res
      obtain ⟨⟨r0, r1, r2, r3, r4, r5⟩, fz⟩ := hR2
      have z0 := fz 0; have z1 := fz 1; have z2 := fz 2; have z3 := fz 3; have z4 := fz 4; have z5 := fz 5
      clear fz l1 l2 l3 l4 l5
      unfold fn1 at c1; unfold fn2 at c2; unfold fn3 at c3; unfold fn4 at c4; unfold fn5 at c5
      go_wp2
      refine bodyPost_ret (results_cell_row (fn := Try.f28) (p := 2) (ty := 73) rfl _ _ w.heap.size 73 _ (0, 0) _ rfl (set6 HS.out.res _ _ _ _ _ _) Try.underlying73 rfl (by kernel_rfl)) rfl ⟨rfl, ?_⟩
      exact (((((HS.out.bel.setCell (Nat.le_refl _) _).setCell (Nat.le_refl _) _).setCell (Nat.le_refl _) _).setCell (Nat.le_refl _) _).setCell (Nat.le_refl _) _).setCell (Nat.le_refl _) _
end Go.Proofs.Ythojojjdamchpaa
