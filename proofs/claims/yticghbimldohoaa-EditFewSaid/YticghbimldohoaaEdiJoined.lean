/-
  EditJoined at any arguments.
-/
import Derived.Test.YticghbimldohoaaEdiAwake
import Derived.Test.YticghbimldohoaaEdiPlain3
namespace Go.Proofs.Yticghbimldohoaa
open Go.RowKit Go.Shelf
set_option linter.unusedVariables false
set_option linter.unusedSimpArgs false

theorem run_max4b (a b c d : Int) : ∃ m, (∀ W, (Builtin.max_ #[3, 3, 3, 3] 3 #[.int .i64 a, .int .i64 b, .int .i64 c, .int .i64 d]).run Try.prog W = .ok (.int .i64 m) W) ∧ (m ≤ 30 ↔ a ≤ 30 ∧ b ≤ 30 ∧ c ≤ 30 ∧ d ≤ 30) := by
  refine ⟨mx2 (mx2 (mx2 a b) c) d, fun W => rfl, ?_⟩
  unfold mx2; repeat' split
  all_goals omega
/-- Distance, where nothing is wrong -/
theorem dist_in {c : Ed.Cst} (hc : c.ok) (a b : ByteArray) (ha : a.size ≤ 60) (hb : b.size ≤ 60) {n : Int} (hn : Ed.D c (tx a) (tx b) = n) (V : World) :
    Calls Try.prog 16 #[.string a, .string b, cstV c] V fun e w' => e = .returned (.tuple #[.int .i64 n, .int .i64 0]) ∧ Below V.heap.size V w' := by
  have he : errOf c a b = 0 := by unfold errOf; rw [if_pos hc, if_neg (by omega)]
  refine (distance_any c a b V).mono ?_
  rintro e w' ⟨rfl, h⟩
  refine ⟨?_, h⟩
  unfold distOf
  rw [if_pos he, hn, he]
theorem tx_cat (a b : ByteArray) : tx (a ++ b) = tx a ++ tx b := by simp [tx]
theorem cat_size (a b : ByteArray) : (a ++ b).size = a.size + b.size := ByteArray.size_append
theorem tx_inj {a b : ByteArray} (h : tx a = tx b) : a = b := by
  apply ByteArray.ext; apply Array.ext'
  exact h
theorem dbound {c : Ed.Cst} (hc : c.ok) (a b : ByteArray) (ha : a.size ≤ 60) (hb : b.size ≤ 60) : 0 ≤ Ed.D c (tx a) (tx b) ∧ Ed.D c (tx a) (tx b) ≤ 120000 := dv_bound hc a b ha hb 0 0
/-- the box of the costs -/
theorem cbox (w : World) (c : Ed.Cst) : ∃ W, W = w.alloc (.cells #[.int .i64 c.ins, .int .i64 c.del, .int .i64 c.chg, .int .i64 c.swp] 23) ∧ Below w.heap.size w W ∧ w.heap.size < W.heap.size ∧ (W.cell? ⟨w.heap.size, 0, none⟩ = some (.int .i64 c.ins) ∧ W.cell? ⟨w.heap.size, 1, none⟩ = some (.int .i64 c.del) ∧ W.cell? ⟨w.heap.size, 2, none⟩ = some (.int .i64 c.chg) ∧ W.cell? ⟨w.heap.size, 3, none⟩ = some (.int .i64 c.swp)) :=
  ⟨_, rfl, below_new w _, by simp, box4 (heap_alloc_new w _)⟩
/-- the costs' cells -/
def CB (W : World) (q : Nat) (c : Ed.Cst) : Prop := W.cell? ⟨q, 0, none⟩ = some (.int .i64 c.ins) ∧ W.cell? ⟨q, 1, none⟩ = some (.int .i64 c.del) ∧ W.cell? ⟨q, 2, none⟩ = some (.int .i64 c.chg) ∧ W.cell? ⟨q, 3, none⟩ = some (.int .i64 c.swp)
theorem CB.below {W W' : World} {q : Nat} {c : Ed.Cst} (h : CB W q c) (hb : Below W.heap.size W W') : CB W' q c :=
  ⟨cell_keep h.1 hb, cell_keep h.2.1 hb, cell_keep h.2.2.1 hb, cell_keep h.2.2.2 hb⟩
/-- what is kept along a law -/
structure LS (w W : World) (q : Nat) (c : Ed.Cst) : Prop where
  bel : Below w.heap.size w W
  cb : CB W q c
theorem LS.next {w W W' : World} {q : Nat} {c : Ed.Cst} (h : LS w W q c) (hb : Below W.heap.size W W') : LS w W' q c := ⟨h.bel.trans (hb.mono h.bel.size), h.cb.below hb⟩

set_option maxRecDepth 100000 in
set_option maxHeartbeats 4000000 in
theorem walk_editJoined (a : ByteArray) (wa : a.size ≤ maxLen) (b : ByteArray) (wb : b.size ≤ maxLen) (x : ByteArray) (wx : x.size ≤ maxLen) (y : ByteArray) (wy : y.size ≤ maxLen) (c : Ed.Cst) (w : World) :
    Calls Try.prog 8 #[.string a, .string b, .string x, .string y, cstV c] w (PostB true w) := by
  obtain ⟨mx, hmx, hmi⟩ := run_max4b a.size b.size x.size y.size
  obtain ⟨W1, hW1, hb1, hq1, hcb⟩ := cbox w c
  have aw := awake_any W1
  have rt := fun V => right_any c V
  unfold cstV at rt ⊢
  have AW := Lib.hid aw; have RT := Lib.hid rt; have L0 := Lib.hid (show LS w W1 w.heap.size c from ⟨hb1, hcb⟩)
  by_cases hin : a.size ≤ 30 ∧ b.size ≤ 30 ∧ x.size ≤ 30 ∧ y.size ≤ 30
  · have hm1 : decide (30 < mx) = false := decide_eq_false (by have := hmi.2 (by omega); omega)
    by_cases hc : c.ok
    · obtain ⟨s1, s2, s3, s4⟩ := hin
      have hr : ∀ V, Calls Try.prog 18 #[.agg #[.int .i64 c.ins, .int .i64 c.del, .int .i64 c.chg, .int .i64 c.swp]] V fun e w' => e = .returned (.bool true) ∧ Below V.heap.size V w' := fun V => (rt V).mono fun e w' ⟨h1, h2⟩ => ⟨by rw [h1, decide_eq_true hc], h2⟩
      obtain ⟨n, hn⟩ : ∃ n, Ed.D c (tx (a ++ x)) (tx (b ++ y)) = n := ⟨_, rfl⟩
      obtain ⟨m, hm⟩ : ∃ m, Ed.D c (tx a) (tx b) = m := ⟨_, rfl⟩
      obtain ⟨k, hk⟩ : ∃ k, Ed.D c (tx x) (tx y) = k := ⟨_, rfl⟩
      have z1 : (a ++ x).size ≤ 60 := by rw [cat_size]; omega
      have z2 : (b ++ y).size ≤ 60 := by rw [cat_size]; omega
      have d1 := fun V => dist_in hc (a ++ x) (b ++ y) z1 z2 hn V
      have d2 := fun V => dist_in hc a b (by omega) (by omega) hm V
      have d3 := fun V => dist_in hc x y (by omega) (by omega) hk V
      have e1 : n ≤ m + k := by rw [← hn, ← hm, ← hk, tx_cat, tx_cat]; exact Ed.D_app _ _ _ _ _
      have e2 : n ≤ ((a ++ x).size : Int) * c.del + ((b ++ y).size : Int) * c.ins := by
        have := Ed.D_del c (tx (a ++ x)) (tx (b ++ y))
        rw [tx_len, tx_len] at this; rw [← hn]; exact this
      have bn := dbound hc (a ++ x) (b ++ y) z1 z2
      have bm := dbound hc a b (by omega) (by omega)
      have bk := dbound hc x y (by omega) (by omega)
      rw [hn] at bn; rw [hm] at bm; rw [hk] at bk
      have e3 : n = 0 → a ++ x = b ++ y := fun h => tx_inj (Ed.D_zero hc _ _ _ (Nat.le_refl _) (by rw [hn, h]))
      obtain ⟨⟨i1, i2⟩, ⟨i3, i4⟩, _⟩ := hc
      rw [cat_size, cat_size, Int.natCast_add, Int.natCast_add] at e2
      obtain ⟨p, hp⟩ : ∃ p, ((a.size : Int) + (x.size : Int)) * c.del = p := ⟨_, rfl⟩
      obtain ⟨r, hr2⟩ : ∃ r, ((b.size : Int) + (y.size : Int)) * c.ins = r := ⟨_, rfl⟩
      have p0 : 0 ≤ p := by rw [← hp]; exact Int.mul_nonneg (by omega) (by omega)
      have p1 : p ≤ 60 * 1000 := by rw [← hp]; exact Int.mul_le_mul (by omega) (by omega) (by omega) (by omega)
      have r0 : 0 ≤ r := by rw [← hr2]; exact Int.mul_nonneg (by omega) (by omega)
      have r1 : r ≤ 60 * 1000 := by rw [← hr2]; exact Int.mul_le_mul (by omega) (by omega) (by omega) (by omega)
      rw [hp, hr2] at e2
      have g1 : decide (n ≤ m + k) = true := decide_eq_true e1
      have g2 : decide (n ≤ p + r) = true := decide_eq_true e2
      have lx : ¬ (9223372036854775807 < a.size + x.size) := by omega
      have ly : ¬ (9223372036854775807 < b.size + y.size) := by omega
      unfold cstV at d1 d2 d3
      have HR := Lib.hid hr; have D1 := Lib.hid d1; have D2 := Lib.hid d2; have D3 := Lib.hid d3; have E3 := Lib.hid e3
      obtain ⟨bn0, bn1⟩ := bn; obtain ⟨bm0, bm1⟩ := bm; obtain ⟨bk0, bk1⟩ := bk
      have g3 : (decide (0 < n) = true) ∨ (decide (0 < n) = false ∧ ((a ++ x).toList == (b ++ y).toList) = true) := by
        by_cases h : 0 < n
        · exact .inl (decide_eq_true h)
        · exact .inr ⟨decide_eq_false h, by rw [e3 (by omega), beq_self_eq_true]⟩
      clear hr rt aw hcb hmi hb1 RT d1 d2 d3 e3 hn hm hk e1 e2 z1 z2
      rcases g3 with g3 | ⟨g3, g4⟩
      all_goals
        go_enter Try.func8, Try.ntmps8
        go_wp2_with fail
        rw [← hW1]
        clear hW1
        go_wp2_with (first
          | (go_at_call 11; (with_reducible refine AW.out.mono ?_); rintro e V ⟨rfl, hb⟩; have h1 := L0.out.next hb; have L1 := Lib.hid h1; obtain ⟨q0, q1, q2, q3⟩ := h1.cb; clear hb h1)
          | (go_at_call 18; (with_reducible refine (HR.out _).mono ?_); rintro e V2 ⟨rfl, hb⟩; have h1 := L1.out.next hb; have L2 := Lib.hid h1; obtain ⟨u0, u1, u2, u3⟩ := h1.cb; clear hb h1 q0 q1 q2 q3)
          | (go_at_call 16; (with_reducible refine (D1.out _).mono ?_); rintro e V3 ⟨rfl, hb⟩; have h1 := L2.out.next hb; have L3 := Lib.hid h1; obtain ⟨q0, q1, q2, q3⟩ := h1.cb; clear hb h1 u0 u1 u2 u3)
          | (go_at_call 16; (with_reducible refine (D2.out _).mono ?_); rintro e V4 ⟨rfl, hb⟩; have h1 := L3.out.next hb; have L4 := Lib.hid h1; obtain ⟨u0, u1, u2, u3⟩ := h1.cb; clear hb h1 q0 q1 q2 q3)
          | (go_at_call 16; (with_reducible refine (D3.out _).mono ?_); rintro e V5 ⟨rfl, hb⟩; have h1 := L4.out.next hb; have L5 := Lib.hid h1; obtain ⟨q0, q1, q2, q3⟩ := h1.cb; clear hb h1 u0 u1 u2 u3))
        go_ret
        exact ⟨rfl, L5.out.bel⟩
    · have hr : ∀ V, Calls Try.prog 18 #[.agg #[.int .i64 c.ins, .int .i64 c.del, .int .i64 c.chg, .int .i64 c.swp]] V fun e w' => e = .returned (.bool false) ∧ Below V.heap.size V w' := fun V => (rt V).mono fun e w' ⟨h1, h2⟩ => ⟨by rw [h1, decide_eq_false hc], h2⟩
      have HR := Lib.hid hr
      clear hr rt aw hcb hmi hin hc hb1 RT
      go_enter Try.func8, Try.ntmps8
      go_wp2_with fail
      rw [← hW1]
      clear hW1
      go_wp2_with (first
        | (go_at_call 11; (with_reducible refine AW.out.mono ?_); rintro e V ⟨rfl, hb⟩; have h1 := L0.out.next hb; have L1 := Lib.hid h1; obtain ⟨q0, q1, q2, q3⟩ := h1.cb; clear hb h1)
        | (go_at_call 18; (with_reducible refine (HR.out _).mono ?_); rintro e V2 ⟨rfl, hb⟩; have L2 := Lib.hid (L1.out.next hb); clear hb))
      go_ret
      exact ⟨rfl, L2.out.bel⟩
  · have hm1 : decide (30 < mx) = true := decide_eq_true (by
      by_cases h : mx ≤ 30
      · have := hmi.1 h; omega
      · omega)
    clear hmi hin rt aw hcb hb1 RT
    go_enter Try.func8, Try.ntmps8
    go_wp2_with fail
    rw [← hW1]
    clear hW1
    go_wp2_with (go_at_call 11; (with_reducible refine AW.out.mono ?_); rintro e V ⟨rfl, hb⟩; have L1 := Lib.hid (L0.out.next hb); clear hb)
    go_ret
    exact ⟨rfl, L1.out.bel⟩
end Go.Proofs.Yticghbimldohoaa
