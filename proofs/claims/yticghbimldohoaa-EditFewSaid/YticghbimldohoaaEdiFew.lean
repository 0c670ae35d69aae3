/-
  EditFew at any arguments.
-/
import Derived.Test.YticghbimldohoaaEdiFew0
namespace Go.Proofs.Yticghbimldohoaa
open Go.RowKit Go.Shelf
set_option linter.unusedVariables false
set_option linter.unusedSimpArgs false

theorem run_min2g (x y : Int) : ∃ m, (∀ W, (Builtin.min_ #[3, 3] 3 #[.int .i64 x, .int .i64 y]).run Try.prog W = .ok (.int .i64 m) W) ∧ m = min x y := by
  refine ⟨mn2 x y, fun W => rfl, ?_⟩
  unfold mn2; split <;> omega
theorem run_max2g (x y : Int) : ∃ m, (∀ W, (Builtin.max_ #[3, 3] 3 #[.int .i64 x, .int .i64 y]).run Try.prog W = .ok (.int .i64 m) W) ∧ m = max x y := by
  refine ⟨mx2 x y, fun W => rfl, ?_⟩
  unfold mx2; split <;> omega
def rowV (l : List (Nat × Nat)) : Array Value := #[.int .i64 0, .int .i64 (cnt 1 l : Nat), .int .i64 (cnt 2 l : Nat), .int .i64 (cnt 3 l : Nat), .int .i64 (cnt 4 l : Nat), .int .i64 (cnt 5 l : Nat)]
structure FewS (l : List (Nat × Nat)) (V wr : World) (i : Nat) : Prop where
  bel : Below V.heap.size V wr
  row : wr.heap[V.heap.size]? = some (.cells (rowV (l.take i)) 54 (0, 0))
theorem FewS.next {l : List (Nat × Nat)} {V wr : World} {i : Nat} (h : FewS l V wr i) (hil : i < l.length) (k : Nat) (hk : l[i].1 = k) (h1 : 1 ≤ k) (h5 : k ≤ 5) :
    FewS l V (wr.setCell ⟨V.heap.size, k, none⟩ (.int .i64 ((cnt k (l.take i) : Nat) + 1))) (i + 1) := by
  refine ⟨h.bel.setCell (Nat.le_refl _) _, ?_⟩
  have hr := h.row
  unfold rowV at hr ⊢
  rcases (show k = 1 ∨ k = 2 ∨ k = 3 ∨ k = 4 ∨ k = 5 by omega) with rfl | rfl | rfl | rfl | rfl <;> simp [World.setCell, Array.getElem?_modify, hr, cnt_take, hil, hk]

set_option maxRecDepth 100000 in
set_option maxHeartbeats 16000000 in
theorem few_in (a b : ByteArray) (h1 : a.size ≤ 60) (h2 : b.size ≤ 60) (c : Ed.Cst) (hc : c.ok) (w : World) :
    Calls Try.prog 10 #[.string a, .string b, cstV c] w (PostB true w) := by
  have g1 : decide ((60 : Int) < (a.size : Int)) = false := decide_eq_false (by omega)
  have g2 : decide ((60 : Int) < (b.size : Int)) = false := decide_eq_false (by omega)
  obtain ⟨W1, hW1, hb1, hq1, hcb⟩ := cbox w c
  have aw := awake_any W1
  have rt := fun V => right_any c V
  have hr : ∀ V, Calls Try.prog 18 #[cstV c] V fun e w' => e = .returned (.bool true) ∧ Below V.heap.size V w' := fun V => (rt V).mono fun e w' ⟨h1, h2⟩ => ⟨by rw [h1, decide_eq_true hc], h2⟩
  obtain ⟨n, hn⟩ : ∃ n, Ed.D c (tx a) (tx b) = n := ⟨_, rfl⟩
  obtain ⟨L, hL⟩ : ∃ L, Ed.path c (tx a) (tx b) = L := ⟨_, rfl⟩
  obtain ⟨m, hm⟩ : ∃ m, Ed.D c1s (tx a) (tx b) = m := ⟨_, rfl⟩
  obtain ⟨p1, p2, p3, p4⟩ := Ed.path_ok c _ (tx a) (tx b) (Nat.le_refl _)
  rw [hL] at p1 p2 p3 p4
  rw [hn] at p2
  rw [tx_len, tx_len] at p3
  obtain ⟨q1, q2⟩ := app_cnt L _ _ (fun o ho => (p4 o ho).2.2.1) p1
  rw [tx_len] at q1 q2
  have q3 := price_cnt c L fun o ho => ⟨(p4 o ho).1, (p4 o ho).2.1⟩
  rw [p2] at q3
  have q4 := ones_max (tx a) (tx b)
  obtain ⟨q5, q6⟩ := ones_min (tx a) (tx b)
  rw [tx_len, tx_len, hm] at q4 q5 q6
  obtain ⟨sh, hsh, hshe⟩ := run_min2g a.size b.size
  obtain ⟨wd, hwd, hwde⟩ := run_max2g a.size b.size
  have s0 : 0 ≤ sh := by omega
  have s1 : sh ≤ 60 := by omega
  have w0 : 0 ≤ wd := by omega
  have w1 : wd ≤ 60 := by omega
  have c3 : decide (wd - sh ≤ m) = true := decide_eq_true (by omega)
  have c4 : decide (m ≤ wd) = true := decide_eq_true (by omega)
  have m0 : 0 ≤ m := by omega
  have m1 : m ≤ 60 := by omega
  have d1 := fun V => path_in hc a b h1 h2 n hn L hL V
  have d2 := fun V => ones_any V
  have d3 := fun V => dist_in (c := c1s) (by unfold Ed.Cst.ok c1s; simp) a b h1 h2 hm V
  unfold cstV at hr d1 d2 d3 ⊢
  unfold c1s at d2 d3
  simp only at d2 d3
  have bn := dbound hc a b h1 h2
  rw [hn] at bn
  obtain ⟨n0, n1⟩ := bn
  obtain ⟨E1, he1⟩ : ∃ E : Int, (cnt 1 L : Int) = E := ⟨_, rfl⟩
  obtain ⟨E2, he2⟩ : ∃ E : Int, (cnt 2 L : Int) = E := ⟨_, rfl⟩
  obtain ⟨E3, he3⟩ : ∃ E : Int, (cnt 3 L : Int) = E := ⟨_, rfl⟩
  obtain ⟨E4, he4⟩ : ∃ E : Int, (cnt 4 L : Int) = E := ⟨_, rfl⟩
  obtain ⟨E5, he5⟩ : ∃ E : Int, (cnt 5 L : Int) = E := ⟨_, rfl⟩
  have r1 : E1 + E2 + 2 * E3 + E4 = (a.size : Int) := by omega
  have r2 : E1 + E2 + 2 * E3 + E5 = (b.size : Int) := by omega
  obtain ⟨x1, x2, x3, x4, x5⟩ : (0 ≤ E1) ∧ (0 ≤ E2) ∧ (0 ≤ E3) ∧ (0 ≤ E4) ∧ 0 ≤ E5 := by omega
  obtain ⟨y1, y2, y3, y4, y5⟩ : (E1 ≤ 60) ∧ (E2 ≤ 60) ∧ (E3 ≤ 60) ∧ (E4 ≤ 60) ∧ E5 ≤ 60 := by omega
  rw [he2, he3, he4, he5] at q3
  have hc' := hc
  obtain ⟨⟨i1, i2⟩, ⟨i3, i4⟩, ⟨i5, i6⟩, i7, i8⟩ := hc'
  obtain ⟨P2, hP2⟩ : ∃ P, E2 * c.chg = P := ⟨_, rfl⟩
  obtain ⟨P3, hP3⟩ : ∃ P, E3 * c.swp = P := ⟨_, rfl⟩
  obtain ⟨P4, hP4⟩ : ∃ P, E4 * c.del = P := ⟨_, rfl⟩
  obtain ⟨P5, hP5⟩ : ∃ P, E5 * c.ins = P := ⟨_, rfl⟩
  rw [hP2, hP3, hP4, hP5] at q3
  obtain ⟨u2, v2⟩ : 0 ≤ P2 ∧ P2 ≤ 60 * 1000 := ⟨by rw [← hP2]; exact Int.mul_nonneg x2 (by omega), by rw [← hP2]; exact Int.mul_le_mul y2 i6 (by omega) (by omega)⟩
  obtain ⟨u3, v3⟩ : 0 ≤ P3 ∧ P3 ≤ 60 * 1000 := ⟨by rw [← hP3]; exact Int.mul_nonneg x3 (by omega), by rw [← hP3]; exact Int.mul_le_mul y3 i8 (by omega) (by omega)⟩
  obtain ⟨u4, v4⟩ : 0 ≤ P4 ∧ P4 ≤ 60 * 1000 := ⟨by rw [← hP4]; exact Int.mul_nonneg x4 (by omega), by rw [← hP4]; exact Int.mul_le_mul y4 i4 (by omega) (by omega)⟩
  obtain ⟨u5, v5⟩ : 0 ≤ P5 ∧ P5 ≤ 60 * 1000 := ⟨by rw [← hP5]; exact Int.mul_nonneg x5 (by omega), by rw [← hP5]; exact Int.mul_le_mul y5 i2 (by omega) (by omega)⟩
  have AW := Lib.hid aw; have L0 := Lib.hid (show LS w W1 w.heap.size c from ⟨hb1, hcb⟩)
  have HR := Lib.hid hr; have D1 := Lib.hid d1; have D2 := Lib.hid d2; have D3 := Lib.hid d3
  have PK := Lib.hid p4; have PL := Lib.hid (show L.length ≤ 120 by omega)
  have HEE := Lib.hid (And.intro he1 (And.intro he2 (And.intro he3 (And.intro he4 he5))))
  have HQ3 := Lib.hid q3.symm
  have HRR := Lib.hid (And.intro r1 r2)
  have HPP := Lib.hid (And.intro hP2 (And.intro hP3 (And.intro hP4 hP5)))
  clear hr rt aw hcb hb1 hc h1 h2 hn hL hm p1 p2 p3 p4 q1 q2 q3 q4 q5 q6 hshe hwde d1 d2 d3 he1 he2 he3 he4 he5 r1 r2 hP2 hP3 hP4 hP5 i1 i2 i3 i4 i5 i6 i7 i8
  go_enter Try.func10, Try.ntmps10
  go_wp2_with fail
  rw [← hW1]
  clear hW1
  go_wp2_with (first
    | (go_at_call 11; (with_reducible refine AW.out.mono ?_); rintro e V ⟨rfl, hb⟩; have h1 := L0.out.next hb; have L1 := Lib.hid h1; obtain ⟨q0, q1, q2, q3⟩ := h1.cb; clear hb h1)
    | (go_at_call 18; (with_reducible refine (HR.out _).mono ?_); rintro e V2 ⟨rfl, hb⟩; have h1 := L1.out.next hb; have L2 := Lib.hid h1; obtain ⟨b0, b1, b2, b3⟩ := h1.cb; clear hb h1 q0 q1 q2 q3)
    | (go_at_call 21; (with_reducible refine (D1.out _).mono ?_); rintro e V3 ⟨A, m', cap, rfl, ho, hb⟩; have L3 := Lib.hid (L2.out.next hb); have HL := Lib.hid ho.1; have RD := Lib.hid ho.rd; clear hb ho b0 b1 b2 b3))
  have hml := HL.out
  have hmm : m' ≤ 120 := by have := PL.out; omega
  have hmi : (m' : Int) ≤ 120 := by omega
  clear hml
  go_loopw [11] (fun s11 wr => ∃ i : Nat, s11 = .int .i64 i ∧ i ≤ m' ∧ Hid (FewS L V3 wr i)) (fun s11 _ => m' - (intOf s11).toNat)
  case atStart => exact ⟨0, rfl, Nat.zero_le _, Lib.hid ⟨below_new V3 _, heap_alloc_new V3 _⟩⟩
  case round =>
    obtain ⟨i, rfl, hi, HS⟩ := hrel
    by_cases hlt : i < m'
    · have hlti : (i : Int) < (m' : Int) := by omega
      have hil : i < L.length := by have := HL.out; omega
      obtain ⟨k1, k5, y256, hky⟩ := PK.out L[i] (List.getElem_mem _)
      obtain ⟨bb, off, rfl, _, hcs⟩ := RD.out (by omega)
      obtain ⟨z0, z1⟩ := hcs i hil
      have HN := Lib.hid (fun k hk h1 h5 => HS.out.next hil k hk h1 h5)
      obtain ⟨o, ho⟩ : ∃ o, L[i] = o := ⟨_, rfl⟩
      rw [ho] at k1 k5 hky z0 z1 HN
      obtain ⟨k, y⟩ := o
      simp only at k1 k5 hky z0 z1 HN
      have z0 := cell_keep z0 HS.out.bel
      have z1 := cell_keep z1 HS.out.bel
      rw [← Nat.add_assoc] at z1
      have hrow := HS.out.row
      unfold rowV at hrow
      obtain ⟨f1, hf1⟩ : ∃ f, cnt 1 (L.take i) = f := ⟨_, rfl⟩
      obtain ⟨f2, hf2⟩ : ∃ f, cnt 2 (L.take i) = f := ⟨_, rfl⟩
      obtain ⟨f3, hf3⟩ : ∃ f, cnt 3 (L.take i) = f := ⟨_, rfl⟩
      obtain ⟨f4, hf4⟩ : ∃ f, cnt 4 (L.take i) = f := ⟨_, rfl⟩
      obtain ⟨f5, hf5⟩ : ∃ f, cnt 5 (L.take i) = f := ⟨_, rfl⟩
      have hle := fun k => Nat.le_trans (cnt_le k (L.take i)) (show (L.take i).length ≤ 120 by rw [List.length_take]; omega)
      have j1 := hle 1; have j2 := hle 2; have j3 := hle 3; have j4 := hle 4; have j5 := hle 5
      rw [hf1] at j1 hrow; rw [hf2] at j2 hrow; rw [hf3] at j3 hrow; rw [hf4] at j4 hrow; rw [hf5] at j5 hrow
      have t1 : (f1 : Int) ≤ 120 := by omega
      have t2 : (f2 : Int) ≤ 120 := by omega
      have t3 : (f3 : Int) ≤ 120 := by omega
      have t4 : (f4 : Int) ≤ 120 := by omega
      have t5 : (f5 : Int) ≤ 120 := by omega
      obtain ⟨⟨n0', n1', n2', n3', n4', n5'⟩, fz⟩ := row6 hrow
      have fz1 := fz 1; have fz2 := fz 2; have fz3 := fz 3; have fz4 := fz 4; have fz5 := fz 5
      have HF := Lib.hid (And.intro hf1 (And.intro hf2 (And.intro hf3 (And.intro hf4 hf5))))
      have hcase : (y = 0 ∧ (k = 1 ∨ k = 2 ∨ k = 3 ∨ k = 4 ∨ k = 5)) ∨ (((y : Int) != 0) = true ∧ (k = 2 ∨ k = 5)) := by
        by_cases h : y = 0
        · exact .inl ⟨h, by omega⟩
        · exact .inr ⟨by rw [bne_iff_ne]; omega, hky h⟩
      clear hf1 hf2 hf3 hf4 hf5 fz hrow hle hky ho hcs k1 k5
      have CL := Lib.hid (PL.out)
      rcases hcase with ⟨rfl, rfl | rfl | rfl | rfl | rfl⟩ | ⟨hy, rfl | rfl⟩
      all_goals
        go_wp2
        go_roundw
        case rel =>
          refine ⟨i + 1, by go_num, by omega, Lib.hid ?_⟩
          obtain ⟨hf1, hf2, hf3, hf4, hf5⟩ := HF.out
          have h := HN.out _ rfl (by omega) (by omega)
          first | rw [hf1] at h | rw [hf2] at h | rw [hf3] at h | rw [hf4] at h | rw [hf5] at h
          exact h
        case measure => simp [intOf]; omega
    · obtain rfl : i = m' := by omega
      have hrow := HS.out.row
      rw [List.take_of_length_le (by have := HL.out; omega)] at hrow
      unfold rowV at hrow
      obtain ⟨he1, he2, he3, he4, he5⟩ := HEE.out
      rw [he1, he2, he3, he4, he5] at hrow
      have RW := Lib.hid hrow
      obtain ⟨⟨n0', n1', n2', n3', n4', n5'⟩, _⟩ := row6 hrow
      have h1 := L3.out.next HS.out.bel
      have L4 := Lib.hid h1
      obtain ⟨q0, q1, q2, q3⟩ := h1.cb
      obtain ⟨r1, r2⟩ := HRR.out
      obtain ⟨hP2, hP3, hP4, hP5⟩ := HPP.out
      have hsum := HQ3.out
      clear h1 he1 he2 he3 he4 he5 hrow
      go_wp2_with (first
        | (go_at_call 14; (with_reducible refine (D2.out _).mono ?_); rintro e V5 ⟨rfl, hb⟩; have L5 := Lib.hid (L4.out.next hb); have RW5 := Lib.hid ((hb.block _ (Array.getElem?_eq_some_iff.1 RW.out).1).trans RW.out); clear hb q0 q1 q2 q3 n0' n1' n2' n3' n4' n5')
        | (go_at_call 16; (with_reducible refine (D3.out _).mono ?_); rintro e V6 ⟨rfl, hb⟩; have L6 := Lib.hid (L5.out.next hb); have hrow := (hb.block _ (Array.getElem?_eq_some_iff.1 RW5.out).1).trans RW5.out; obtain ⟨⟨n0', n1', n2', n3', n4', n5'⟩, _⟩ := row6 hrow; clear hb hrow))
      go_ret
      exact ⟨rfl, L6.out.bel⟩
end Go.Proofs.Yticghbimldohoaa
