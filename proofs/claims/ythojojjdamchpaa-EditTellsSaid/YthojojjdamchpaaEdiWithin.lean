/-
  The walk of Within.
-/
import Derived.Test.YthojojjdamchpaaEdiDist
import Derived.Test.YthojojjdamchpaaEdiPlain2
namespace Go.Proofs.Ythojojjdamchpaa
open Go.RowKit Go.Shelf
set_option linter.unusedVariables false
set_option linter.unusedSimpArgs false
attribute [local go_sem] Oper.semAt_some

/-- the distance, if it is not above a limit -/
def withinD (c : Ed.Cst) (a b : ByteArray) (most : Int) : Int := if errOf c a b = 0 ∧ Ed.D c (tx a) (tx b) ≤ most then Ed.D c (tx a) (tx b) else 0
def withinB (c : Ed.Cst) (a b : ByteArray) (most : Int) : Bool := decide (errOf c a b = 0 ∧ Ed.D c (tx a) (tx b) ≤ most)
def PostW (c : Ed.Cst) (a b : ByteArray) (most : Int) (w : World) (e : Ending) (w' : World) : Prop := e = .returned (.tuple #[.int .i64 (withinD c a b most), .bool (withinB c a b most), .int .i64 (errOf c a b)]) ∧ Below w.heap.size w w'
/-- the least number of a row -/
def mnv (c : Ed.Cst) (a b : ByteArray) (i : Nat) : Int := Lib.minOf ((List.range (b.size + 1)).map (Dv c a b i))
/-- the memory of Within's own variables -/
def wW (c : Ed.Cst) (most : Int) (w : World) : World := ((((w.alloc (.cells #[.int .i64 c.ins, .int .i64 c.del, .int .i64 c.chg, .int .i64 c.swp] 23)).alloc (.cells #[.int .i64 most] 3)).alloc (.cells #[.int .i64 0] 3)).alloc (.cells #[.bool false] 4)).alloc (.cells #[.int .i64 0] 31)
structure WM (c : Ed.Cst) (most : Int) (q : Nat) (W : World) : Prop where
  hc : W.heap[q]? = some (.cells #[.int .i64 c.ins, .int .i64 c.del, .int .i64 c.chg, .int .i64 c.swp] 23 (0, 0))
  hm : W.heap[q + 1]? = some (.cells #[.int .i64 most] 3 (0, 0))
  h1 : W.heap[q + 2]? = some (.cells #[.int .i64 0] 3 (0, 0))
  h2 : W.heap[q + 3]? = some (.cells #[.bool false] 4 (0, 0))
  h3 : W.heap[q + 4]? = some (.cells #[.int .i64 0] 31 (0, 0))
theorem wW_mem (c : Ed.Cst) (most : Int) (w : World) : WM c most w.heap.size (wW c most w) ∧ Below w.heap.size w (wW c most w) ∧ (wW c most w).heap.size = w.heap.size + 5 := by
  have k : ∀ (W : World) (o : Obj) (g : Nat) (u : Obj), W.heap[g]? = some u → (W.alloc o).heap[g]? = some u := fun W o g u h => ((below_new W o).block g (Array.getElem?_eq_some_iff.1 h).1).trans h
  unfold wW
  refine ⟨⟨?_, ?_, ?_, ?_, ?_⟩, ?_, by simp⟩
  · exact k _ _ _ _ (k _ _ _ _ (k _ _ _ _ (k _ _ _ _ (heap_alloc_new w _))))
  · exact k _ _ _ _ (k _ _ _ _ (k _ _ _ _ (map_new _ _ _ (by simp))))
  · exact k _ _ _ _ (k _ _ _ _ (map_new _ _ _ (by simp)))
  · exact k _ _ _ _ (map_new _ _ _ (by simp))
  · exact map_new _ _ _ (by simp)
  exact (((((Below.refl _ w).alloc (Nat.le_refl _) _).alloc (by simp) _).alloc (by simp <;> omega) _).alloc (by simp <;> omega) _).alloc (by simp <;> omega) _
theorem WM.keep {c : Ed.Cst} {most : Int} {q : Nat} {W W' : World} (h : WM c most q W) (hk : ∀ k o, q ≤ k → k ≤ q + 4 → W.heap[k]? = some o → W'.heap[k]? = some o) : WM c most q W' :=
  ⟨hk _ _ (by omega) (by omega) h.hc, hk _ _ (by omega) (by omega) h.hm, hk _ _ (by omega) (by omega) h.h1, hk _ _ (by omega) (by omega) h.h2, hk _ _ (by omega) (by omega) h.h3⟩
theorem WM.below {c : Ed.Cst} {most : Int} {q : Nat} {W W' : World} (h : WM c most q W) (hb : Below W.heap.size W W') : WM c most q W' :=
  h.keep fun k o _ _ ho => (hb.block k (Array.getElem?_eq_some_iff.1 ho).1).trans ho
/-- the results, when they have been stored -/
structure WR (q : Nat) (d : Int) (t : Bool) (e : Int) (W : World) : Prop where
  h1 : W.heap[q + 2]? = some (.cells #[.int .i64 d] 3 (0, 0))
  h2 : W.heap[q + 3]? = some (.cells #[.bool t] 4 (0, 0))
  h3 : W.heap[q + 4]? = some (.cells #[.int .i64 e] 31 (0, 0))
theorem WR.keep {q : Nat} {d e : Int} {t : Bool} {W W' : World} (h : WR q d t e W) (hk : ∀ k o, q ≤ k → k ≤ q + 4 → W.heap[k]? = some o → W'.heap[k]? = some o) : WR q d t e W' :=
  ⟨hk _ _ (by omega) (by omega) h.h1, hk _ _ (by omega) (by omega) h.h2, hk _ _ (by omega) (by omega) h.h3⟩
theorem WM.set {c : Ed.Cst} {most : Int} {q : Nat} {W : World} (h : WM c most q W) (d : Int) (t : Bool) (e : Int) : WR q d t e (((W.setCell ⟨q + 2, 0, none⟩ (.int .i64 d)).setCell ⟨q + 3, 0, none⟩ (.bool t)).setCell ⟨q + 4, 0, none⟩ (.int .i64 e)) := by
  have a1 := h.h1; have a2 := h.h2; have a3 := h.h3
  refine ⟨?_, ?_, ?_⟩
  · rw [heap_set_other _ _ _ _ _ (by omega), heap_set_other _ _ _ _ _ (by omega)]
    exact heap_setCell_same W (q + 2) 0 _ _ _ a1
  · rw [heap_set_other _ _ _ _ _ (by omega)]
    exact heap_setCell_same _ (q + 3) 0 _ _ _ ((heap_set_other _ _ _ _ _ (by omega)).trans a2)
  · exact heap_setCell_same _ (q + 4) 0 _ _ _ ((heap_set_other _ _ _ _ _ (by omega)).trans ((heap_set_other _ _ _ _ _ (by omega)).trans a3))
theorem WM.facts {c : Ed.Cst} {most : Int} {q : Nat} {W : World} (h : WM c most q W) : (W.cell? ⟨q + 2, 0, none⟩ = some (.int .i64 0) ∧ W.cell? ⟨q + 3, 0, none⟩ = some (.bool false) ∧ W.cell? ⟨q + 4, 0, none⟩ = some (.int .i64 0)) ∧
    (W.frozen? ⟨q + 2, 0, none⟩ = false ∧ W.frozen? ⟨q + 3, 0, none⟩ = false ∧ W.frozen? ⟨q + 4, 0, none⟩ = false) ∧ W.cell? ⟨q + 1, 0, none⟩ = some (.int .i64 most) ∧
    (W.cell? ⟨q, 0, none⟩ = some (.int .i64 c.ins) ∧ W.cell? ⟨q, 1, none⟩ = some (.int .i64 c.del) ∧ W.cell? ⟨q, 2, none⟩ = some (.int .i64 c.chg) ∧ W.cell? ⟨q, 3, none⟩ = some (.int .i64 c.swp)) :=
  ⟨⟨cell_of_row _ _ 0 _ _ _ h.h1, cell_of_row _ _ 0 _ _ _ h.h2, cell_of_row _ _ 0 _ _ _ h.h3⟩, ⟨blk_frozen h.h1 0, blk_frozen h.h2 0, blk_frozen h.h3 0⟩, cell_of_row _ _ 0 _ _ _ h.hm, cell_of_row _ _ 0 _ _ _ h.hc, cell_of_row _ _ 1 _ _ _ h.hc, cell_of_row _ _ 2 _ _ _ h.hc, cell_of_row _ _ 3 _ _ _ h.hc⟩
theorem res_within (tmps : Array Value) (W : World) (q : Nat) (d : Int) (t : Bool) (e : Int) (p8 : tmps.getD 8 undef = .pointer (some ⟨q + 2, 0, none⟩)) (p9 : tmps.getD 9 undef = .pointer (some ⟨q + 3, 0, none⟩)) (p10 : tmps.getD 10 undef = .pointer (some ⟨q + 4, 0, none⟩)) (h : WR q d t e W) :
    (results Try.f11 tmps).run Try.prog W = .ok (.tuple #[.int .i64 d, .bool t, .int .i64 e]) W := by
  have q8 : tmps[8]?.getD undef = .pointer (some ⟨q + 2, 0, none⟩) := by simpa using p8
  have q9 : tmps[9]?.getD undef = .pointer (some ⟨q + 3, 0, none⟩) := by simpa using p9
  have q10 : tmps[10]?.getD undef = .pointer (some ⟨q + 4, 0, none⟩) := by simpa using p10
  simp [results, Try.f11, go_sem, q8, q9, q10, (box1 h.h1).1, (box1 h.h2).1, (box1 h.h3).1]
set_option maxRecDepth 100000 in
set_option maxHeartbeats 2000000 in
theorem within_err (c : Ed.Cst) (a b : ByteArray) (most : Int) (w : World) (he : errOf c a b ≠ 0) : Calls Try.prog 11 #[.string a, .string b, cstV c, .int .i64 most] w (PostW c a b most w) := by
  unfold PostW withinD withinB
  rw [if_neg (fun h => he h.1), decide_eq_false (fun h => he h.1)]
  obtain ⟨E, hE⟩ : ∃ E, errOf c a b = E := ⟨_, rfl⟩
  have k1 := fun W => check_any c a b W
  rw [hE] at k1 he ⊢
  obtain ⟨hm, hbw, hsz⟩ := wW_mem c most w
  obtain ⟨w1, hw1⟩ : ∃ w1, w1 = wW c most w := ⟨_, rfl⟩
  rw [← hw1] at hm hbw hsz
  unfold wW at hw1
  unfold cstV at k1 ⊢
  have K1 := Lib.hid k1; have HM := Lib.hid hm; have HB := Lib.hid hbw
  obtain ⟨_, _, _, v0, v1, v2, v3⟩ := hm.facts
  clear k1 hE hm hbw hsz
  go_enter Try.func11, Try.ntmps11
  go_wp2_with fail
  rw [← hw1]
  clear hw1
  go_wp2_with (go_at_call 18; (with_reducible refine (K1.out _).mono ?_); rintro e w2 ⟨rfl, h2⟩; have hm2 := HM.out.below h2; obtain ⟨⟨a1, a2, a3⟩, ⟨b1, b2, b3⟩, _⟩ := hm2.facts; have HM2 := Lib.hid hm2; have H2 := Lib.hid h2; clear h2 hm2)
  refine bodyPost_ret (res_within _ _ w.heap.size 0 false E rfl rfl rfl (HM2.out.set 0 false E)) rfl ⟨rfl, ?_⟩
  have hb := HB.out.trans (H2.out.mono HB.out.size)
  exact ((hb.setCell (by show w.heap.size ≤ w.heap.size + 2; omega) _).setCell (by show w.heap.size ≤ w.heap.size + 3; omega) _).setCell (by show w.heap.size ≤ w.heap.size + 4; omega) _

theorem foldl_min_le (l : List Int) : ∀ z : Int, l.foldl min z ≤ z ∧ ∀ x, x ∈ l → l.foldl min z ≤ x := by
  induction l with
  | nil => intro z; exact ⟨Int.le_refl _, fun x hx => by cases hx⟩
  | cons y l ih =>
    intro z
    obtain ⟨h1, h2⟩ := ih (min z y)
    refine ⟨Int.le_trans h1 (Int.min_le_left _ _), fun x hx => ?_⟩
    rcases List.mem_cons.1 hx with rfl | hx
    · exact Int.le_trans h1 (Int.min_le_right _ _)
    · exact h2 x hx
theorem mnv_le (c : Ed.Cst) (a b : ByteArray) (i j : Nat) (hj : j ≤ b.size) : mnv c a b i ≤ Dv c a b i j := by
  unfold mnv Lib.minOf
  exact (foldl_min_le _ _).2 _ (List.mem_map.2 ⟨j, List.mem_range.2 (by omega), rfl⟩)
theorem foldl_min_mem (l : List Int) : ∀ z : Int, l.foldl min z = z ∨ l.foldl min z ∈ l := by
  induction l with
  | nil => intro z; exact .inl rfl
  | cons y l ih =>
    intro z
    rcases ih (min z y) with h | h
    · by_cases hz : z ≤ y
      · rw [Int.min_eq_left hz] at h; exact .inl (by rw [List.foldl_cons, Int.min_eq_left hz]; exact h)
      · rw [Int.min_eq_right (by omega)] at h; exact .inr (by rw [List.foldl_cons, Int.min_eq_right (by omega), h]; simp)
    · exact .inr (List.mem_cons_of_mem _ h)
theorem mnv_range {c : Ed.Cst} (hc : c.ok) (a b : ByteArray) (ha : a.size ≤ 60) (hb : b.size ≤ 60) (i : Nat) : 0 ≤ mnv c a b i ∧ mnv c a b i ≤ 120000 := by
  refine ⟨?_, Int.le_trans (mnv_le c a b i 0 (Nat.zero_le _)) (dv_bound hc a b ha hb i 0).2⟩
  unfold mnv Lib.minOf
  rcases foldl_min_mem ((List.range (b.size + 1)).map (Dv c a b i)) (((List.range (b.size + 1)).map (Dv c a b i)).headD 0) with h | h
  · rw [h]
    cases hl : (List.range (b.size + 1)).map (Dv c a b i) with
    | nil => exact Int.le_refl _
    | cons x l =>
      have : x ∈ (List.range (b.size + 1)).map (Dv c a b i) := by rw [hl]; simp
      obtain ⟨j, _, rfl⟩ := List.mem_map.1 this
      exact (dv_bound hc a b ha hb i j).1
  · obtain ⟨j, _, hj⟩ := List.mem_map.1 h
    rw [← hj]; exact (dv_bound hc a b ha hb i j).1
/-- every script comes by one of two rows that are next to each other -/
theorem dv_low {c : Ed.Cst} (hc : c.ok) (a b : ByteArray) (i : Nat) (hi : i < a.size) (v : Int) (h0 : v ≤ mnv c a b i) (h1 : v ≤ mnv c a b (i + 1)) : ∀ n i' j', (a.size - i') + (b.size - j') ≤ n → i' ≤ i + 1 → j' ≤ b.size → v ≤ Dv c a b i' j' := by
  intro n
  induction n with
  | zero =>
    intro i' j' hn hi' hj'
    obtain rfl : i' = i + 1 := by omega
    exact Int.le_trans h1 (mnv_le c a b _ j' hj')
  | succ n ih =>
    intro i' j' hn hi' hj'
    by_cases e1 : i' = i + 1
    · subst e1; exact Int.le_trans h1 (mnv_le c a b _ j' hj')
    · by_cases e2 : i' = i
      · subst e2; exact Int.le_trans h0 (mnv_le c a b _ j' hj')
      · have hne : (tx a).drop i' ≠ [] ∨ (tx b).drop j' ≠ [] := by left; rw [tx_drop a i' (by omega)]; simp
        obtain ⟨k, k1, k5, hf, hd⟩ := Ed.D_arg c hne
        obtain ⟨l1, l2, l3⟩ := Ed.fit_len hf
        rw [List.length_drop, tx_len] at l1 l2
        have ht : Ed.tk k ≤ 2 := by unfold Ed.tk; repeat' split
                                    all_goals omega
        have hz := Ed.cst_nonneg hc k
        rw [List.drop_drop, List.drop_drop] at hd
        have := ih (i' + Ed.tk k) (j' + Ed.wr k) (by omega) (by omega) (by omega)
        show v ≤ Ed.D c ((tx a).drop i') ((tx b).drop j')
        rw [hd]
        have e3 : Dv c a b (i' + Ed.tk k) (j' + Ed.wr k) = Ed.D c ((tx a).drop (i' + Ed.tk k)) ((tx b).drop (j' + Ed.wr k)) := rfl
        omega
/-- what the boxes of the distance and the row behind hold -/
def WP (c : Ed.Cst) (a b : ByteArray) (pre : List Val) (d h : Int) : Prop := (pre.length = 0 → d = 0 ∧ h = 0) ∧ ∀ p i, pre.length = p + 1 → i + p = a.size → d = Dv c a b i 0 ∧ h = mnv c a b i
/-- a row that is above the limit with the one behind it ends it -/
theorem stop_no {c : Ed.Cst} (hc : c.ok) (a b : ByteArray) (pre : List Val) (i : Nat) (d h most : Int) (hp : WP c a b pre d h) (hi : i + pre.length = a.size) (h1 : most < mnv c a b i) (h2 : most < h) : ¬ Ed.D c (tx a) (tx b) ≤ most := by
  have hd : Ed.D c (tx a) (tx b) = Dv c a b 0 0 := rfl
  cases hl : pre.length with
  | zero =>
    have h0 := (hp.1 hl).2
    have := Ed.D_nonneg hc (tx a) (tx b)
    omega
  | succ p =>
    have h3 := (hp.2 p (i + 1) hl (by omega)).2
    have := dv_low hc a b i (by omega) (most + 1) (by omega) (by omega) _ 0 0 (Nat.le_refl _) (by omega) (by omega)
    omega
theorem row_min (c : Ed.Cst) (a b : ByteArray) (i blk : Nat) (hb : b.size ≤ 60) (w : World) (h : ∀ j, j ≤ b.size → w.cell? ⟨blk, j, none⟩ = some (.int .i64 (Dv c a b i j))) :
    Calls Try.prog 22 #[.slice (some ⟨blk, 0, none⟩) (b.size + 1) (b.size + 1)] w fun e w' => e = .returned (.int .i64 (mnv c a b i)) ∧ w' = w := by
  have hl : ((List.range (b.size + 1)).map (Dv c a b i)).length = b.size + 1 := by rw [List.length_map, List.length_range]
  refine (Try.slices_Min_int blk 0 (b.size + 1) (b.size + 1) ((List.range (b.size + 1)).map (Dv c a b i)) w (by omega) (by omega) (by omega) (fun j hj => ?_)).mono ?_
  · rw [Nat.zero_add, h j (by omega)]
    rw [List.getD_eq_getElem?_getD, List.getElem?_map, List.getElem?_range (by omega)]; rfl
  · rintro e w' ⟨rfl, rfl⟩
    rw [List.take_of_length_le (by omega)]
    exact ⟨rfl, rfl⟩
end Go.Proofs.Ythojojjdamchpaa
