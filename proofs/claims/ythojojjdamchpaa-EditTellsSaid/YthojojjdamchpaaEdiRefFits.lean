/-
  The reference's fits and may.
-/
import Derived.Test.YthojojjdamchpaaEdiMap
namespace Go.Proofs.Ythojojjdamchpaa
open Go.RowKit Go.Shelf
set_option linter.unusedVariables false
set_option linter.unusedSimpArgs false

theorem results_tmp4 {fn : Func} {t u v x : Tmp} (h : fn.results = #[.tmp t, .tmp u, .tmp v, .tmp x]) (tmps : Array Value) (P : Program) (w : World) :
    (results fn tmps).run P w = .ok (.tuple #[tmps.getD t undef, tmps.getD u undef, tmps.getD v undef, tmps.getD x undef]) w := by
  simp [results, h]
def PostF (c : Ed.Cst) (k : Nat) (f : Bool) (w : World) (e : Ending) (w' : World) : Prop := e = .returned (.tuple #[.bool f, .int .i64 (Ed.tk k), .int .i64 (Ed.wr k), .int .i64 (Ed.cst c k)]) ∧ Below w.heap.size w w'
theorem ret_f {c : Ed.Cst} {k : Nat} {f g : Bool} {x y z : Int} (h : g = f) (h1 : x = Ed.tk k) (h2 : y = Ed.wr k) (h3 : z = Ed.cst c k) : Ending.returned (.tuple #[.bool g, .int .i64 x, .int .i64 y, .int .i64 z]) = .returned (.tuple #[.bool f, .int .i64 (Ed.tk k), .int .i64 (Ed.wr k), .int .i64 (Ed.cst c k)]) := by
  rw [h, h1, h2, h3]
/-- the reference's box of costs -/
theorem cboxF (w : World) (c : Ed.Cst) : ∃ W, W = w.alloc (.cells #[.int .i64 c.ins, .int .i64 c.del, .int .i64 c.chg, .int .i64 c.swp] 41) ∧ Below w.heap.size w W ∧ w.heap.size < W.heap.size ∧ W.cell? ⟨w.heap.size, 0, none⟩ = some (.int .i64 c.ins) ∧ W.cell? ⟨w.heap.size, 1, none⟩ = some (.int .i64 c.del) ∧ W.cell? ⟨w.heap.size, 2, none⟩ = some (.int .i64 c.chg) ∧ W.cell? ⟨w.heap.size, 3, none⟩ = some (.int .i64 c.swp) :=
  ⟨_, rfl, below_new w _, by simp, cell_of_row _ _ 0 _ _ _ (heap_alloc_new w _), cell_of_row _ _ 1 _ _ _ (heap_alloc_new w _), cell_of_row _ _ 2 _ _ _ (heap_alloc_new w _), cell_of_row _ _ 3 _ _ _ (heap_alloc_new w _)⟩

set_option maxRecDepth 100000 in
set_option maxHeartbeats 4000000 in
theorem fits1 (a b : ByteArray) (c : Ed.Cst) (w : World) : Calls Try.prog 26 #[.int .u8 1, .string a, .string b, cstV c] w (PostF c 1 (Ed.fit 1 (tx a) (tx b)) w) := by
  obtain ⟨W1, hW1, hb1, hq1, hcb⟩ := cboxF w c
  unfold cstV PostF
  by_cases ha : 0 < a.size
  · by_cases hb : 0 < b.size
    · have hf := (fit12_at a b 0 0 ha hb).1
      rw [List.drop_zero, List.drop_zero] at hf
      rw [hf]
      clear hf
      have ga : decide (0 < a.size) = true := decide_eq_true (by omega)
      have pa : (0 : Int) < a.size := by omega
      have gb : decide (0 < b.size) = true := decide_eq_true (by omega)
      have pb : (0 : Int) < b.size := by omega
      obtain ⟨x, hx⟩ : ∃ x, a[0] = x := ⟨_, rfl⟩
      obtain ⟨y, hy⟩ : ∃ y, b[0] = y := ⟨_, rfl⟩
      rw [hx, hy]
      have hxy : ((x.toNat : Int) == (y.toNat : Int)) = (x == y) := u8_beq x y
      obtain ⟨q0, q1, q2, q3⟩ := hcb
      have HB := Lib.hid hb1
      clear hb1
      go_enter Try.func26, Try.ntmps26
      go_wp2_with fail
      rw [← hW1]
      clear hW1
      go_region
      go_wp2
      refine bodyPost_ret (results_tmp4 rfl _ _ _) rfl ⟨?_, HB.out.drew⟩
      exact ret_f (by first | rfl | (simp [*]; done)) rfl rfl rfl
    · have hf := (fit12_b a b 0 0 (by omega)).1
      rw [List.drop_zero, List.drop_zero] at hf
      rw [hf]
      clear hf
      have ga : decide (0 < a.size) = true := decide_eq_true (by omega)
      have pa : (0 : Int) < a.size := by omega
      have gb : decide (0 < b.size) = false := decide_eq_false (by omega)
      obtain ⟨q0, q1, q2, q3⟩ := hcb
      have HB := Lib.hid hb1
      clear hb1
      go_enter Try.func26, Try.ntmps26
      go_wp2_with fail
      rw [← hW1]
      clear hW1
      go_region
      go_wp2
      refine bodyPost_ret (results_tmp4 rfl _ _ _) rfl ⟨?_, HB.out.drew⟩
      exact ret_f (by first | rfl | (simp [*]; done)) rfl rfl rfl
  · have hf := (fit12_a a b 0 0 (by omega)).1
    rw [List.drop_zero, List.drop_zero] at hf
    rw [hf]
    clear hf
    have ga : decide (0 < a.size) = false := decide_eq_false (by omega)
    obtain ⟨q0, q1, q2, q3⟩ := hcb
    have HB := Lib.hid hb1
    clear hb1
    go_enter Try.func26, Try.ntmps26
    go_wp2_with fail
    rw [← hW1]
    clear hW1
    go_region
    go_wp2
    refine bodyPost_ret (results_tmp4 rfl _ _ _) rfl ⟨?_, HB.out.drew⟩
    exact ret_f (by first | rfl | (simp [*]; done)) rfl rfl rfl
set_option maxRecDepth 100000 in
set_option maxHeartbeats 4000000 in
theorem fits2 (a b : ByteArray) (c : Ed.Cst) (w : World) : Calls Try.prog 26 #[.int .u8 2, .string a, .string b, cstV c] w (PostF c 2 (Ed.fit 2 (tx a) (tx b)) w) := by
  obtain ⟨W1, hW1, hb1, hq1, hcb⟩ := cboxF w c
  unfold cstV PostF
  by_cases ha : 0 < a.size
  · by_cases hb : 0 < b.size
    · have hf := (fit12_at a b 0 0 ha hb).2
      rw [List.drop_zero, List.drop_zero] at hf
      rw [hf]
      clear hf
      have ga : decide (0 < a.size) = true := decide_eq_true (by omega)
      have pa : (0 : Int) < a.size := by omega
      have gb : decide (0 < b.size) = true := decide_eq_true (by omega)
      have pb : (0 : Int) < b.size := by omega
      obtain ⟨x, hx⟩ : ∃ x, a[0] = x := ⟨_, rfl⟩
      obtain ⟨y, hy⟩ : ∃ y, b[0] = y := ⟨_, rfl⟩
      rw [hx, hy]
      have hxy : ((x.toNat : Int) == (y.toNat : Int)) = (x == y) := u8_beq x y
      have hxn : ((x.toNat : Int) != (y.toNat : Int)) = (x != y) := by unfold bne; rw [hxy]
      obtain ⟨q0, q1, q2, q3⟩ := hcb
      have HB := Lib.hid hb1
      clear hb1
      go_enter Try.func26, Try.ntmps26
      go_wp2_with fail
      rw [← hW1]
      clear hW1
      go_region
      go_wp2
      refine bodyPost_ret (results_tmp4 rfl _ _ _) rfl ⟨?_, HB.out.drew⟩
      exact ret_f (by first | rfl | (simp [*]; done)) rfl rfl rfl
    · have hf := (fit12_b a b 0 0 (by omega)).2
      rw [List.drop_zero, List.drop_zero] at hf
      rw [hf]
      clear hf
      have ga : decide (0 < a.size) = true := decide_eq_true (by omega)
      have pa : (0 : Int) < a.size := by omega
      have gb : decide (0 < b.size) = false := decide_eq_false (by omega)
      obtain ⟨q0, q1, q2, q3⟩ := hcb
      have HB := Lib.hid hb1
      clear hb1
      go_enter Try.func26, Try.ntmps26
      go_wp2_with fail
      rw [← hW1]
      clear hW1
      go_region
      go_wp2
      refine bodyPost_ret (results_tmp4 rfl _ _ _) rfl ⟨?_, HB.out.drew⟩
      exact ret_f (by first | rfl | (simp [*]; done)) rfl rfl rfl
  · have hf := (fit12_a a b 0 0 (by omega)).2
    rw [List.drop_zero, List.drop_zero] at hf
    rw [hf]
    clear hf
    have ga : decide (0 < a.size) = false := decide_eq_false (by omega)
    obtain ⟨q0, q1, q2, q3⟩ := hcb
    have HB := Lib.hid hb1
    clear hb1
    go_enter Try.func26, Try.ntmps26
    go_wp2_with fail
    rw [← hW1]
    clear hW1
    go_region
    go_wp2
    refine bodyPost_ret (results_tmp4 rfl _ _ _) rfl ⟨?_, HB.out.drew⟩
    exact ret_f (by first | rfl | (simp [*]; done)) rfl rfl rfl
set_option maxRecDepth 100000 in
set_option maxHeartbeats 4000000 in
theorem fits3 (a b : ByteArray) (c : Ed.Cst) (w : World) : Calls Try.prog 26 #[.int .u8 3, .string a, .string b, cstV c] w (PostF c 3 (Ed.fit 3 (tx a) (tx b)) w) := by
  obtain ⟨W1, hW1, hb1, hq1, hcb⟩ := cboxF w c
  unfold cstV PostF
  by_cases ha : 1 < a.size
  · by_cases hb : 1 < b.size
    · have hf := fit3_at a b 0 0 ha hb
      rw [List.drop_zero, List.drop_zero] at hf
      rw [hf]
      clear hf
      have ga : decide ((1 : Int) < (a.size : Int)) = true := decide_eq_true (by omega)
      have gna : decide (1 < a.size) = true := decide_eq_true (by omega)
      have pa : (1 : Int) < a.size := by omega
      have pza : (0 : Int) < a.size := by omega
      have gb : decide ((1 : Int) < (b.size : Int)) = true := decide_eq_true (by omega)
      have gnb : decide (1 < b.size) = true := decide_eq_true (by omega)
      have pb : (1 : Int) < b.size := by omega
      have pzb : (0 : Int) < b.size := by omega
      obtain ⟨x, hx⟩ : ∃ x, a[0] = x := ⟨_, rfl⟩
      obtain ⟨y, hy⟩ : ∃ y, b[0] = y := ⟨_, rfl⟩
      obtain ⟨x2, hx2⟩ : ∃ x, a[1] = x := ⟨_, rfl⟩
      obtain ⟨y2, hy2⟩ : ∃ y, b[1] = y := ⟨_, rfl⟩
      have e0 : (a[0] != a[0 + 1] && a[0] == b[0 + 1] && a[0 + 1] == b[0]) = (x != x2 && x == y2 && x2 == y) := by rw [← hx, ← hy, ← hx2, ← hy2]
      rw [e0]
      clear e0
      have k1 : ((x.toNat : Int) != (x2.toNat : Int)) = (x != x2) := by unfold bne; rw [u8_beq x x2]
      have k2 : ((x.toNat : Int) == (y2.toNat : Int)) = (x == y2) := u8_beq x y2
      have k3 : ((x2.toNat : Int) == (y.toNat : Int)) = (x2 == y) := u8_beq x2 y
      generalize (x != x2) = b1 at k1 ⊢
      generalize (x == y2) = b2 at k2 ⊢
      generalize (x2 == y) = b3 at k3 ⊢
      cases b1 <;> cases b2
      all_goals
        obtain ⟨q0, q1, q2, q3⟩ := hcb
        have HB := Lib.hid hb1
        clear hb1
        go_enter Try.func26, Try.ntmps26
        go_wp2_with fail
        rw [← hW1]
        clear hW1
        go_region
        go_wp2
        refine bodyPost_ret (results_tmp4 rfl _ _ _) rfl ⟨?_, HB.out.drew⟩
        exact ret_f (by first | rfl | (simp [*]; done)) rfl rfl rfl
    · have hf := fit3_b a b 0 0 (by omega)
      rw [List.drop_zero, List.drop_zero] at hf
      rw [hf]
      clear hf
      have ga : decide ((1 : Int) < (a.size : Int)) = true := decide_eq_true (by omega)
      have gna : decide (1 < a.size) = true := decide_eq_true (by omega)
      have pa : (1 : Int) < a.size := by omega
      have pza : (0 : Int) < a.size := by omega
      have gb : decide ((1 : Int) < (b.size : Int)) = false := decide_eq_false (by omega)
      have gnb : decide (1 < b.size) = false := decide_eq_false (by omega)
      obtain ⟨q0, q1, q2, q3⟩ := hcb
      have HB := Lib.hid hb1
      clear hb1
      go_enter Try.func26, Try.ntmps26
      go_wp2_with fail
      rw [← hW1]
      clear hW1
      go_region
      go_wp2
      refine bodyPost_ret (results_tmp4 rfl _ _ _) rfl ⟨?_, HB.out.drew⟩
      exact ret_f (by first | rfl | (simp [*]; done)) rfl rfl rfl
  · have hf := fit3_a a b 0 0 (by omega)
    rw [List.drop_zero, List.drop_zero] at hf
    rw [hf]
    clear hf
    have ga : decide ((1 : Int) < (a.size : Int)) = false := decide_eq_false (by omega)
    have gna : decide (1 < a.size) = false := decide_eq_false (by omega)
    by_cases ha0 : 0 < a.size
    · have gz : decide (0 < a.size) = true := decide_eq_true (by omega)
      obtain ⟨q0, q1, q2, q3⟩ := hcb
      have HB := Lib.hid hb1
      clear hb1
      go_enter Try.func26, Try.ntmps26
      go_wp2_with fail
      rw [← hW1]
      clear hW1
      go_region
      go_wp2
      refine bodyPost_ret (results_tmp4 rfl _ _ _) rfl ⟨?_, HB.out.drew⟩
      exact ret_f (by first | rfl | (simp [*]; done)) rfl rfl rfl
    · have gz : decide (0 < a.size) = false := decide_eq_false (by omega)
      obtain ⟨q0, q1, q2, q3⟩ := hcb
      have HB := Lib.hid hb1
      clear hb1
      go_enter Try.func26, Try.ntmps26
      go_wp2_with fail
      rw [← hW1]
      clear hW1
      go_region
      go_wp2
      refine bodyPost_ret (results_tmp4 rfl _ _ _) rfl ⟨?_, HB.out.drew⟩
      exact ret_f (by first | rfl | (simp [*]; done)) rfl rfl rfl
set_option maxRecDepth 100000 in
set_option maxHeartbeats 4000000 in
theorem fits4 (a b : ByteArray) (c : Ed.Cst) (w : World) : Calls Try.prog 26 #[.int .u8 4, .string a, .string b, cstV c] w (PostF c 4 (Ed.fit 4 (tx a) (tx b)) w) := by
  obtain ⟨W1, hW1, hb1, hq1, hcb⟩ := cboxF w c
  unfold cstV PostF
  by_cases h : 0 < a.size
  · have hf := fit4_at a b 0 0 (by omega)
    rw [List.drop_zero, List.drop_zero] at hf
    rw [hf]
    clear hf
    have ga : decide (0 < a.size) = true := decide_eq_true (by omega)
    have pa : (0 : Int) < a.size := by omega
    obtain ⟨q0, q1, q2, q3⟩ := hcb
    have HB := Lib.hid hb1
    clear hb1
    go_enter Try.func26, Try.ntmps26
    go_wp2_with fail
    rw [← hW1]
    clear hW1
    go_region
    go_wp2
    refine bodyPost_ret (results_tmp4 rfl _ _ _) rfl ⟨?_, HB.out.drew⟩
    exact ret_f (by first | rfl | (simp [*]; done)) rfl rfl rfl
  · have hf := fit4_no a b 0 0 (by omega)
    rw [List.drop_zero, List.drop_zero] at hf
    rw [hf]
    clear hf
    have ga : decide (0 < a.size) = false := decide_eq_false (by omega)
    obtain ⟨q0, q1, q2, q3⟩ := hcb
    have HB := Lib.hid hb1
    clear hb1
    go_enter Try.func26, Try.ntmps26
    go_wp2_with fail
    rw [← hW1]
    clear hW1
    go_region
    go_wp2
    refine bodyPost_ret (results_tmp4 rfl _ _ _) rfl ⟨?_, HB.out.drew⟩
    exact ret_f (by first | rfl | (simp [*]; done)) rfl rfl rfl
set_option maxRecDepth 100000 in
set_option maxHeartbeats 4000000 in
theorem fits5 (a b : ByteArray) (c : Ed.Cst) (w : World) : Calls Try.prog 26 #[.int .u8 5, .string a, .string b, cstV c] w (PostF c 5 (Ed.fit 5 (tx a) (tx b)) w) := by
  obtain ⟨W1, hW1, hb1, hq1, hcb⟩ := cboxF w c
  unfold cstV PostF
  by_cases h : 0 < b.size
  · have hf := fit5_at a b 0 0 (by omega)
    rw [List.drop_zero, List.drop_zero] at hf
    rw [hf]
    clear hf
    have gb : decide (0 < b.size) = true := decide_eq_true (by omega)
    have pb : (0 : Int) < b.size := by omega
    by_cases ha0 : 0 < a.size
    · have gz : decide (0 < a.size) = true := decide_eq_true (by omega)
      obtain ⟨q0, q1, q2, q3⟩ := hcb
      have HB := Lib.hid hb1
      clear hb1
      go_enter Try.func26, Try.ntmps26
      go_wp2_with fail
      rw [← hW1]
      clear hW1
      go_region
      go_wp2
      refine bodyPost_ret (results_tmp4 rfl _ _ _) rfl ⟨?_, HB.out.drew⟩
      exact ret_f (by first | rfl | (simp [*]; done)) rfl rfl rfl
    · have gz : decide (0 < a.size) = false := decide_eq_false (by omega)
      obtain ⟨q0, q1, q2, q3⟩ := hcb
      have HB := Lib.hid hb1
      clear hb1
      go_enter Try.func26, Try.ntmps26
      go_wp2_with fail
      rw [← hW1]
      clear hW1
      go_region
      go_wp2
      refine bodyPost_ret (results_tmp4 rfl _ _ _) rfl ⟨?_, HB.out.drew⟩
      exact ret_f (by first | rfl | (simp [*]; done)) rfl rfl rfl
  · have hf := fit5_no a b 0 0 (by omega)
    rw [List.drop_zero, List.drop_zero] at hf
    rw [hf]
    clear hf
    have gb : decide (0 < b.size) = false := decide_eq_false (by omega)
    by_cases ha0 : 0 < a.size
    · have gz : decide (0 < a.size) = true := decide_eq_true (by omega)
      obtain ⟨q0, q1, q2, q3⟩ := hcb
      have HB := Lib.hid hb1
      clear hb1
      go_enter Try.func26, Try.ntmps26
      go_wp2_with fail
      rw [← hW1]
      clear hW1
      go_region
      go_wp2
      refine bodyPost_ret (results_tmp4 rfl _ _ _) rfl ⟨?_, HB.out.drew⟩
      exact ret_f (by first | rfl | (simp [*]; done)) rfl rfl rfl
    · have gz : decide (0 < a.size) = false := decide_eq_false (by omega)
      obtain ⟨q0, q1, q2, q3⟩ := hcb
      have HB := Lib.hid hb1
      clear hb1
      go_enter Try.func26, Try.ntmps26
      go_wp2_with fail
      rw [← hW1]
      clear hW1
      go_region
      go_wp2
      refine bodyPost_ret (results_tmp4 rfl _ _ _) rfl ⟨?_, HB.out.drew⟩
      exact ret_f (by first | rfl | (simp [*]; done)) rfl rfl rfl
theorem fits_any (k : Nat) (h1 : 1 ≤ k) (h5 : k ≤ 5) (a b : ByteArray) (c : Ed.Cst) (w : World) : Calls Try.prog 26 #[.int .u8 k, .string a, .string b, cstV c] w (PostF c k (Ed.fit k (tx a) (tx b)) w) := by
  rcases (show k = 1 ∨ k = 2 ∨ k = 3 ∨ k = 4 ∨ k = 5 by omega) with rfl | rfl | rfl | rfl | rfl
  · exact fits1 a b c w
  · exact fits2 a b c w
  · exact fits3 a b c w
  · exact fits4 a b c w
  · exact fits5 a b c w
end Go.Proofs.Ythojojjdamchpaa
