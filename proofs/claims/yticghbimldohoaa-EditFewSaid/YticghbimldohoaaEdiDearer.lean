/-
  EditDearer at any arguments.
-/
import Derived.Test.YticghbimldohoaaEdiCost
import Derived.OpenShut
namespace Go.Proofs.Yticghbimldohoaa
open Go.RowKit Go.Shelf
set_option linter.unusedVariables false
set_option linter.unusedSimpArgs false

theorem run_min2 (x : Int) : ∃ m, (∀ W, (Builtin.min_ #[3, 3] 3 #[.int .i64 1000, .int .i64 x]).run Try.prog W = .ok (.int .i64 m) W) ∧ m = min 1000 x := by
  refine ⟨mn2 1000 x, fun W => rfl, ?_⟩
  unfold mn2; split <;> omega
/-- no cost is less -/
def CLe (c d : Ed.Cst) : Prop := c.ins ≤ d.ins ∧ c.del ≤ d.del ∧ c.chg ≤ d.chg ∧ c.swp ≤ d.swp
theorem cst_le {c d : Ed.Cst} (h : CLe c d) (k : Nat) : Ed.cst c k ≤ Ed.cst d k := by
  obtain ⟨h1, h2, h3, h4⟩ := h
  unfold Ed.cst
  repeat' split
  all_goals omega
theorem price_le {c d : Ed.Cst} (h : CLe c d) : ∀ l, Ed.price c l ≤ Ed.price d l
  | [] => Int.le_refl _
  | o :: l => by
    have h1 := cst_le h o.1
    have h2 := price_le h l
    show Ed.cst c o.1 + Ed.price c l ≤ Ed.cst d o.1 + Ed.price d l
    omega
theorem dearer {c d : Ed.Cst} (h : CLe c d) (a b : List UInt8) : Ed.D c a b ≤ Ed.D d a b ∧ Ed.D d a b ≤ Ed.price d (Ed.path c a b) := by
  obtain ⟨h1, h2, _, h4⟩ := Ed.path_ok d _ a b (Nat.le_refl _)
  obtain ⟨g1, g2, _, g4⟩ := Ed.path_ok c _ a b (Nat.le_refl _)
  have e1 := Ed.least c _ a b (fun o ho => (h4 o ho).2.2.1) h1
  have e2 := price_le h (Ed.path d a b)
  have e3 := Ed.least d _ a b (fun o ho => (g4 o ho).2.2.1) g1
  exact ⟨by omega, e3⟩
/-- Path, where nothing is wrong -/
theorem path_in {c : Ed.Cst} (hc : c.ok) (a b : ByteArray) (ha : a.size ≤ 60) (hb : b.size ≤ 60) (n : Int) (hn : Ed.D c (tx a) (tx b) = n) (L : List (Nat × Nat)) (hL : Ed.path c (tx a) (tx b) = L) (V : World) :
    Calls Try.prog 21 #[.string a, .string b, cstV c] V fun e w' => ∃ A m cap, e = .returned (.tuple #[.slice A m cap, .int .i64 n, .int .i64 0]) ∧ OwnO V.heap.size 40 w' A m cap L ∧ Below V.heap.size V w' := by
  have he : errOf c a b = 0 := by unfold errOf; rw [if_pos hc, if_neg (by omega)]
  refine (path_any c a b V).mono ?_
  rintro e w' ⟨A, m, cap, rfl, ho, h⟩
  refine ⟨A, m, cap, ?_, ?_, h⟩
  · unfold distOf; rw [if_pos he, hn, he]
  · unfold pathOf at ho; rw [if_pos he, hL] at ho; exact ho
theorem within_in {c : Ed.Cst} (hc : c.ok) (a b : ByteArray) (ha : a.size ≤ 60) (hb : b.size ≤ 60) (n : Int) (hn : Ed.D c (tx a) (tx b) = n) (V : World) :
    (Calls Try.prog 24 #[.string a, .string b, cstV c, .int .i64 n] V fun e w' => e = .returned (.tuple #[.int .i64 n, .bool true, .int .i64 0]) ∧ Below V.heap.size V w') ∧
    (Calls Try.prog 24 #[.string a, .string b, cstV c, .int .i64 (n - 1)] V fun e w' => e = .returned (.tuple #[.int .i64 0, .bool false, .int .i64 0]) ∧ Below V.heap.size V w') := by
  have he : errOf c a b = 0 := by unfold errOf; rw [if_pos hc, if_neg (by omega)]
  constructor
  · refine (within_any c a b n V).mono ?_
    rintro e w' ⟨rfl, h⟩
    obtain ⟨h1, h2⟩ := withinD_yes (most := n) he (by omega)
    refine ⟨?_, h⟩
    rw [h1, h2, he, hn]
  · refine (within_any c a b (n - 1) V).mono ?_
    rintro e w' ⟨rfl, h⟩
    obtain ⟨h1, h2⟩ := withinD_no (c := c) (a := a) (b := b) (most := n - 1) (by omega)
    refine ⟨?_, h⟩
    rw [h1, h2, he]

set_option maxRecDepth 100000 in
set_option maxHeartbeats 8000000 in
theorem dearer_0 (a b : ByteArray) (h1 : a.size ≤ 60) (h2 : b.size ≤ 60) (c : Ed.Cst) (hc : c.ok) (kd more : Int) (hk0 : 0 ≤ kd) (hk1 : kd ≤ 255) (ht : kd % 4 = 0) (hm0 : 0 ≤ more) (hm1 : more ≤ 255) (w : World) :
    Calls Try.prog 9 #[.string a, .string b, cstV c, .int .u8 kd, .int .u8 more] w (PostB true w) := by
  have g1 : decide ((60 : Int) < (a.size : Int)) = false := decide_eq_false (by omega)
  have g2 : decide ((60 : Int) < (b.size : Int)) = false := decide_eq_false (by omega)
  have ht2 : kd.tmod 4 = 0 := by rw [Int.tmod_eq_emod_of_nonneg (by omega)]; exact ht
  obtain ⟨W1, hW1, hb1, hq1, hcb⟩ := cbox w c
  obtain ⟨mv, hmv, hmd⟩ := run_min2 (c.chg + more)
  have aw := awake_any W1
  have rt := fun V => right_any c V
  have hr : ∀ V, Calls Try.prog 18 #[cstV c] V fun e w' => e = .returned (.bool true) ∧ Below V.heap.size V w' := fun V => (rt V).mono fun e w' ⟨h1, h2⟩ => ⟨by rw [h1, decide_eq_true hc], h2⟩
  obtain ⟨n, hn⟩ : ∃ n, Ed.D c (tx a) (tx b) = n := ⟨_, rfl⟩
  obtain ⟨L, hL⟩ : ∃ L, Ed.path c (tx a) (tx b) = L := ⟨_, rfl⟩
  have hok : (⟨c.ins, c.del, mv, c.swp⟩ : Ed.Cst).ok := by
    obtain ⟨⟨i1, i2⟩, ⟨i3, i4⟩, ⟨i5, i6⟩, i7, i8⟩ := hc
    refine ⟨?_, ?_, ?_, ?_⟩ <;> simp only <;> omega
  have hle : CLe c ⟨c.ins, c.del, mv, c.swp⟩ := by
    obtain ⟨⟨i1, i2⟩, ⟨i3, i4⟩, ⟨i5, i6⟩, i7, i8⟩ := hc
    refine ⟨?_, ?_, ?_, ?_⟩ <;> simp only <;> omega
  have hde := dearer hle (tx a) (tx b)
  obtain ⟨m, hm⟩ : ∃ m, Ed.D (⟨c.ins, c.del, mv, c.swp⟩ : Ed.Cst) (tx a) (tx b) = m := ⟨_, rfl⟩
  obtain ⟨pr, hpr⟩ : ∃ pr, Ed.price (⟨c.ins, c.del, mv, c.swp⟩ : Ed.Cst) L = pr := ⟨_, rfl⟩
  have bn := dbound hc a b h1 h2
  rw [hn] at bn
  rw [hn, hL, hm, hpr] at hde
  obtain ⟨p1, p2, p3, p4⟩ := Ed.path_ok c _ (tx a) (tx b) (Nat.le_refl _)
  rw [hL] at p3 p4
  rw [tx_len, tx_len] at p3
  have d1 := fun V => path_in hc a b h1 h2 n hn L hL V
  have d2 := fun A m' cap V (hl : L.length = m') (hrd : RdO V A L) => cost_in A m' cap L ⟨c.ins, c.del, mv, c.swp⟩ V hok hl (by omega) (fun o ho => ⟨(p4 o ho).1, (p4 o ho).2.1⟩) hrd
  rw [hpr] at d2
  have d3 := fun V => dist_in hok a b h1 h2 hm V
  have d4 := fun V => (within_in hc a b h1 h2 n hn V).1
  have d5 := fun V => (within_in hc a b h1 h2 n hn V).2
  unfold cstV at hr d1 d2 d3 d4 d5 ⊢
  simp only at d2 d3
  have c1 : decide (n ≤ m) = true := decide_eq_true hde.1
  have c2 : decide (m ≤ pr) = true := decide_eq_true hde.2
  obtain ⟨n0, n1⟩ := bn
  obtain ⟨f0, f1⟩ : 0 ≤ c.chg ∧ c.chg ≤ 1000 := by
    obtain ⟨⟨i1, i2⟩, ⟨i3, i4⟩, ⟨i5, i6⟩, i7, i8⟩ := hc
    omega
  have AW := Lib.hid aw; have L0 := Lib.hid (show LS w W1 w.heap.size c from ⟨hb1, hcb⟩)
  have HR := Lib.hid hr; have D1 := Lib.hid d1; have D2 := Lib.hid d2; have D3 := Lib.hid d3; have D4 := Lib.hid d4; have D5 := Lib.hid d5
  clear hr rt aw hcb hb1 d1 d2 d3 d4 d5 hn hL hm hpr hc hok hle hde p1 p2 p3 p4 h1 h2 hmd
  go_enter Try.func9, Try.ntmps9
  go_wp2_with fail
  rw [← hW1]
  clear hW1
  go_wp2_with (first
    | (go_at_call 11; (with_reducible refine AW.out.mono ?_); rintro e V ⟨rfl, hb⟩; have h1 := L0.out.next hb; have L1 := Lib.hid h1; obtain ⟨q0, q1, q2, q3⟩ := h1.cb; clear hb h1)
    | (go_at_call 18; (with_reducible refine (HR.out _).mono ?_); rintro e V2 ⟨rfl, hb⟩; have h1 := L1.out.next hb; have L2 := Lib.hid h1; obtain ⟨u0, u1, u2, u3⟩ := h1.cb; have z0 := fun o => cell_keep u0 (below_new V2 o); have z1 := fun o => cell_keep u1 (below_new V2 o); have z2 := fun o => cell_keep u2 (below_new V2 o); have z3 := fun o => cell_keep u3 (below_new V2 o); clear hb h1 q0 q1 q2 q3)
    | (go_at_call 21; (with_reducible refine (D1.out _).mono ?_); rintro e V3 ⟨A, m', cap, rfl, ho, hb⟩; have h1 := (L2.out.next (below_new V2 _)).next hb; have L3 := Lib.hid h1; have hd := (show CB _ V2.heap.size ⟨c.ins, c.del, mv, c.swp⟩ from box4 (heap_alloc_new V2 _)).below hb; have CD := Lib.hid hd; have HO := Lib.hid ho; have CO := Lib.hid (D2.out A m' cap V3 ho.1 ho.rd); obtain ⟨q0, q1, q2, q3⟩ := h1.cb; obtain ⟨y0, y1, y2, y3⟩ := hd; clear hb h1 u0 u1 u2 u3 z0 z1 z2 z3 ho)
    | (go_at_call 20; (with_reducible refine CO.out.mono ?_); rintro e V4 ⟨rfl, hb⟩; have h1 := L3.out.next hb; have L4 := Lib.hid h1; have hd := CD.out.below hb; obtain ⟨u0, u1, u2, u3⟩ := h1.cb; clear y0 y1 y2 y3; obtain ⟨y0, y1, y2, y3⟩ := hd; clear hb h1 q0 q1 q2 q3)
    | (go_at_call 16; (with_reducible refine (D3.out _).mono ?_); rintro e V5 ⟨rfl, hb⟩; have h1 := L4.out.next hb; have L5 := Lib.hid h1; obtain ⟨q0, q1, q2, q3⟩ := h1.cb; clear hb h1 u0 u1 u2 u3 y0 y1 y2 y3)
    | (go_at_call 24; (with_reducible refine (D4.out _).mono ?_); rintro e V6 ⟨rfl, hb⟩; have h1 := L5.out.next hb; have L6 := Lib.hid h1; obtain ⟨u0, u1, u2, u3⟩ := h1.cb; clear hb h1 q0 q1 q2 q3)
    | (go_at_call 24; (with_reducible refine (D5.out _).mono ?_); rintro e V7 ⟨rfl, hb⟩; have L7 := Lib.hid (L6.out.next hb); clear hb u0 u1 u2 u3))
  go_ret
  exact ⟨rfl, L7.out.bel⟩
set_option maxRecDepth 100000 in
set_option maxHeartbeats 8000000 in
theorem dearer_1 (a b : ByteArray) (h1 : a.size ≤ 60) (h2 : b.size ≤ 60) (c : Ed.Cst) (hc : c.ok) (kd more : Int) (hk0 : 0 ≤ kd) (hk1 : kd ≤ 255) (ht : kd % 4 = 1) (hm0 : 0 ≤ more) (hm1 : more ≤ 255) (w : World) :
    Calls Try.prog 9 #[.string a, .string b, cstV c, .int .u8 kd, .int .u8 more] w (PostB true w) := by
  have g1 : decide ((60 : Int) < (a.size : Int)) = false := decide_eq_false (by omega)
  have g2 : decide ((60 : Int) < (b.size : Int)) = false := decide_eq_false (by omega)
  have ht2 : kd.tmod 4 = 1 := by rw [Int.tmod_eq_emod_of_nonneg (by omega)]; exact ht
  obtain ⟨W1, hW1, hb1, hq1, hcb⟩ := cbox w c
  obtain ⟨mv, hmv, hmd⟩ := run_min2 (c.swp + more)
  have aw := awake_any W1
  have rt := fun V => right_any c V
  have hr : ∀ V, Calls Try.prog 18 #[cstV c] V fun e w' => e = .returned (.bool true) ∧ Below V.heap.size V w' := fun V => (rt V).mono fun e w' ⟨h1, h2⟩ => ⟨by rw [h1, decide_eq_true hc], h2⟩
  obtain ⟨n, hn⟩ : ∃ n, Ed.D c (tx a) (tx b) = n := ⟨_, rfl⟩
  obtain ⟨L, hL⟩ : ∃ L, Ed.path c (tx a) (tx b) = L := ⟨_, rfl⟩
  have hok : (⟨c.ins, c.del, c.chg, mv⟩ : Ed.Cst).ok := by
    obtain ⟨⟨i1, i2⟩, ⟨i3, i4⟩, ⟨i5, i6⟩, i7, i8⟩ := hc
    refine ⟨?_, ?_, ?_, ?_⟩ <;> simp only <;> omega
  have hle : CLe c ⟨c.ins, c.del, c.chg, mv⟩ := by
    obtain ⟨⟨i1, i2⟩, ⟨i3, i4⟩, ⟨i5, i6⟩, i7, i8⟩ := hc
    refine ⟨?_, ?_, ?_, ?_⟩ <;> simp only <;> omega
  have hde := dearer hle (tx a) (tx b)
  obtain ⟨m, hm⟩ : ∃ m, Ed.D (⟨c.ins, c.del, c.chg, mv⟩ : Ed.Cst) (tx a) (tx b) = m := ⟨_, rfl⟩
  obtain ⟨pr, hpr⟩ : ∃ pr, Ed.price (⟨c.ins, c.del, c.chg, mv⟩ : Ed.Cst) L = pr := ⟨_, rfl⟩
  have bn := dbound hc a b h1 h2
  rw [hn] at bn
  rw [hn, hL, hm, hpr] at hde
  obtain ⟨p1, p2, p3, p4⟩ := Ed.path_ok c _ (tx a) (tx b) (Nat.le_refl _)
  rw [hL] at p3 p4
  rw [tx_len, tx_len] at p3
  have d1 := fun V => path_in hc a b h1 h2 n hn L hL V
  have d2 := fun A m' cap V (hl : L.length = m') (hrd : RdO V A L) => cost_in A m' cap L ⟨c.ins, c.del, c.chg, mv⟩ V hok hl (by omega) (fun o ho => ⟨(p4 o ho).1, (p4 o ho).2.1⟩) hrd
  rw [hpr] at d2
  have d3 := fun V => dist_in hok a b h1 h2 hm V
  have d4 := fun V => (within_in hc a b h1 h2 n hn V).1
  have d5 := fun V => (within_in hc a b h1 h2 n hn V).2
  unfold cstV at hr d1 d2 d3 d4 d5 ⊢
  simp only at d2 d3
  have c1 : decide (n ≤ m) = true := decide_eq_true hde.1
  have c2 : decide (m ≤ pr) = true := decide_eq_true hde.2
  obtain ⟨n0, n1⟩ := bn
  obtain ⟨f0, f1⟩ : 0 ≤ c.swp ∧ c.swp ≤ 1000 := by
    obtain ⟨⟨i1, i2⟩, ⟨i3, i4⟩, ⟨i5, i6⟩, i7, i8⟩ := hc
    omega
  have AW := Lib.hid aw; have L0 := Lib.hid (show LS w W1 w.heap.size c from ⟨hb1, hcb⟩)
  have HR := Lib.hid hr; have D1 := Lib.hid d1; have D2 := Lib.hid d2; have D3 := Lib.hid d3; have D4 := Lib.hid d4; have D5 := Lib.hid d5
  clear hr rt aw hcb hb1 d1 d2 d3 d4 d5 hn hL hm hpr hc hok hle hde p1 p2 p3 p4 h1 h2 hmd
  go_enter Try.func9, Try.ntmps9
  go_wp2_with fail
  rw [← hW1]
  clear hW1
  go_wp2_with (first
    | (go_at_call 11; (with_reducible refine AW.out.mono ?_); rintro e V ⟨rfl, hb⟩; have h1 := L0.out.next hb; have L1 := Lib.hid h1; obtain ⟨q0, q1, q2, q3⟩ := h1.cb; clear hb h1)
    | (go_at_call 18; (with_reducible refine (HR.out _).mono ?_); rintro e V2 ⟨rfl, hb⟩; have h1 := L1.out.next hb; have L2 := Lib.hid h1; obtain ⟨u0, u1, u2, u3⟩ := h1.cb; have z0 := fun o => cell_keep u0 (below_new V2 o); have z1 := fun o => cell_keep u1 (below_new V2 o); have z2 := fun o => cell_keep u2 (below_new V2 o); have z3 := fun o => cell_keep u3 (below_new V2 o); clear hb h1 q0 q1 q2 q3)
    | (go_at_call 21; (with_reducible refine (D1.out _).mono ?_); rintro e V3 ⟨A, m', cap, rfl, ho, hb⟩; have h1 := (L2.out.next (below_new V2 _)).next hb; have L3 := Lib.hid h1; have hd := (show CB _ V2.heap.size ⟨c.ins, c.del, c.chg, mv⟩ from box4 (heap_alloc_new V2 _)).below hb; have CD := Lib.hid hd; have HO := Lib.hid ho; have CO := Lib.hid (D2.out A m' cap V3 ho.1 ho.rd); obtain ⟨q0, q1, q2, q3⟩ := h1.cb; obtain ⟨y0, y1, y2, y3⟩ := hd; clear hb h1 u0 u1 u2 u3 z0 z1 z2 z3 ho)
    | (go_at_call 20; (with_reducible refine CO.out.mono ?_); rintro e V4 ⟨rfl, hb⟩; have h1 := L3.out.next hb; have L4 := Lib.hid h1; have hd := CD.out.below hb; obtain ⟨u0, u1, u2, u3⟩ := h1.cb; clear y0 y1 y2 y3; obtain ⟨y0, y1, y2, y3⟩ := hd; clear hb h1 q0 q1 q2 q3)
    | (go_at_call 16; (with_reducible refine (D3.out _).mono ?_); rintro e V5 ⟨rfl, hb⟩; have h1 := L4.out.next hb; have L5 := Lib.hid h1; obtain ⟨q0, q1, q2, q3⟩ := h1.cb; clear hb h1 u0 u1 u2 u3 y0 y1 y2 y3)
    | (go_at_call 24; (with_reducible refine (D4.out _).mono ?_); rintro e V6 ⟨rfl, hb⟩; have h1 := L5.out.next hb; have L6 := Lib.hid h1; obtain ⟨u0, u1, u2, u3⟩ := h1.cb; clear hb h1 q0 q1 q2 q3)
    | (go_at_call 24; (with_reducible refine (D5.out _).mono ?_); rintro e V7 ⟨rfl, hb⟩; have L7 := Lib.hid (L6.out.next hb); clear hb u0 u1 u2 u3))
  go_ret
  exact ⟨rfl, L7.out.bel⟩
set_option maxRecDepth 100000 in
set_option maxHeartbeats 8000000 in
theorem dearer_2 (a b : ByteArray) (h1 : a.size ≤ 60) (h2 : b.size ≤ 60) (c : Ed.Cst) (hc : c.ok) (kd more : Int) (hk0 : 0 ≤ kd) (hk1 : kd ≤ 255) (ht : kd % 4 = 2) (hm0 : 0 ≤ more) (hm1 : more ≤ 255) (w : World) :
    Calls Try.prog 9 #[.string a, .string b, cstV c, .int .u8 kd, .int .u8 more] w (PostB true w) := by
  have g1 : decide ((60 : Int) < (a.size : Int)) = false := decide_eq_false (by omega)
  have g2 : decide ((60 : Int) < (b.size : Int)) = false := decide_eq_false (by omega)
  have ht2 : kd.tmod 4 = 2 := by rw [Int.tmod_eq_emod_of_nonneg (by omega)]; exact ht
  obtain ⟨W1, hW1, hb1, hq1, hcb⟩ := cbox w c
  obtain ⟨mv, hmv, hmd⟩ := run_min2 (c.del + more)
  have aw := awake_any W1
  have rt := fun V => right_any c V
  have hr : ∀ V, Calls Try.prog 18 #[cstV c] V fun e w' => e = .returned (.bool true) ∧ Below V.heap.size V w' := fun V => (rt V).mono fun e w' ⟨h1, h2⟩ => ⟨by rw [h1, decide_eq_true hc], h2⟩
  obtain ⟨n, hn⟩ : ∃ n, Ed.D c (tx a) (tx b) = n := ⟨_, rfl⟩
  obtain ⟨L, hL⟩ : ∃ L, Ed.path c (tx a) (tx b) = L := ⟨_, rfl⟩
  have hok : (⟨c.ins, mv, c.chg, c.swp⟩ : Ed.Cst).ok := by
    obtain ⟨⟨i1, i2⟩, ⟨i3, i4⟩, ⟨i5, i6⟩, i7, i8⟩ := hc
    refine ⟨?_, ?_, ?_, ?_⟩ <;> simp only <;> omega
  have hle : CLe c ⟨c.ins, mv, c.chg, c.swp⟩ := by
    obtain ⟨⟨i1, i2⟩, ⟨i3, i4⟩, ⟨i5, i6⟩, i7, i8⟩ := hc
    refine ⟨?_, ?_, ?_, ?_⟩ <;> simp only <;> omega
  have hde := dearer hle (tx a) (tx b)
  obtain ⟨m, hm⟩ : ∃ m, Ed.D (⟨c.ins, mv, c.chg, c.swp⟩ : Ed.Cst) (tx a) (tx b) = m := ⟨_, rfl⟩
  obtain ⟨pr, hpr⟩ : ∃ pr, Ed.price (⟨c.ins, mv, c.chg, c.swp⟩ : Ed.Cst) L = pr := ⟨_, rfl⟩
  have bn := dbound hc a b h1 h2
  rw [hn] at bn
  rw [hn, hL, hm, hpr] at hde
  obtain ⟨p1, p2, p3, p4⟩ := Ed.path_ok c _ (tx a) (tx b) (Nat.le_refl _)
  rw [hL] at p3 p4
  rw [tx_len, tx_len] at p3
  have d1 := fun V => path_in hc a b h1 h2 n hn L hL V
  have d2 := fun A m' cap V (hl : L.length = m') (hrd : RdO V A L) => cost_in A m' cap L ⟨c.ins, mv, c.chg, c.swp⟩ V hok hl (by omega) (fun o ho => ⟨(p4 o ho).1, (p4 o ho).2.1⟩) hrd
  rw [hpr] at d2
  have d3 := fun V => dist_in hok a b h1 h2 hm V
  have d4 := fun V => (within_in hc a b h1 h2 n hn V).1
  have d5 := fun V => (within_in hc a b h1 h2 n hn V).2
  unfold cstV at hr d1 d2 d3 d4 d5 ⊢
  simp only at d2 d3
  have c1 : decide (n ≤ m) = true := decide_eq_true hde.1
  have c2 : decide (m ≤ pr) = true := decide_eq_true hde.2
  obtain ⟨n0, n1⟩ := bn
  obtain ⟨f0, f1⟩ : 0 ≤ c.del ∧ c.del ≤ 1000 := by
    obtain ⟨⟨i1, i2⟩, ⟨i3, i4⟩, ⟨i5, i6⟩, i7, i8⟩ := hc
    omega
  have AW := Lib.hid aw; have L0 := Lib.hid (show LS w W1 w.heap.size c from ⟨hb1, hcb⟩)
  have HR := Lib.hid hr; have D1 := Lib.hid d1; have D2 := Lib.hid d2; have D3 := Lib.hid d3; have D4 := Lib.hid d4; have D5 := Lib.hid d5
  clear hr rt aw hcb hb1 d1 d2 d3 d4 d5 hn hL hm hpr hc hok hle hde p1 p2 p3 p4 h1 h2 hmd
  go_enter Try.func9, Try.ntmps9
  go_wp2_with fail
  rw [← hW1]
  clear hW1
  go_wp2_with (first
    | (go_at_call 11; (with_reducible refine AW.out.mono ?_); rintro e V ⟨rfl, hb⟩; have h1 := L0.out.next hb; have L1 := Lib.hid h1; obtain ⟨q0, q1, q2, q3⟩ := h1.cb; clear hb h1)
    | (go_at_call 18; (with_reducible refine (HR.out _).mono ?_); rintro e V2 ⟨rfl, hb⟩; have h1 := L1.out.next hb; have L2 := Lib.hid h1; obtain ⟨u0, u1, u2, u3⟩ := h1.cb; have z0 := fun o => cell_keep u0 (below_new V2 o); have z1 := fun o => cell_keep u1 (below_new V2 o); have z2 := fun o => cell_keep u2 (below_new V2 o); have z3 := fun o => cell_keep u3 (below_new V2 o); clear hb h1 q0 q1 q2 q3)
    | (go_at_call 21; (with_reducible refine (D1.out _).mono ?_); rintro e V3 ⟨A, m', cap, rfl, ho, hb⟩; have h1 := (L2.out.next (below_new V2 _)).next hb; have L3 := Lib.hid h1; have hd := (show CB _ V2.heap.size ⟨c.ins, mv, c.chg, c.swp⟩ from box4 (heap_alloc_new V2 _)).below hb; have CD := Lib.hid hd; have HO := Lib.hid ho; have CO := Lib.hid (D2.out A m' cap V3 ho.1 ho.rd); obtain ⟨q0, q1, q2, q3⟩ := h1.cb; obtain ⟨y0, y1, y2, y3⟩ := hd; clear hb h1 u0 u1 u2 u3 z0 z1 z2 z3 ho)
    | (go_at_call 20; (with_reducible refine CO.out.mono ?_); rintro e V4 ⟨rfl, hb⟩; have h1 := L3.out.next hb; have L4 := Lib.hid h1; have hd := CD.out.below hb; obtain ⟨u0, u1, u2, u3⟩ := h1.cb; clear y0 y1 y2 y3; obtain ⟨y0, y1, y2, y3⟩ := hd; clear hb h1 q0 q1 q2 q3)
    | (go_at_call 16; (with_reducible refine (D3.out _).mono ?_); rintro e V5 ⟨rfl, hb⟩; have h1 := L4.out.next hb; have L5 := Lib.hid h1; obtain ⟨q0, q1, q2, q3⟩ := h1.cb; clear hb h1 u0 u1 u2 u3 y0 y1 y2 y3)
    | (go_at_call 24; (with_reducible refine (D4.out _).mono ?_); rintro e V6 ⟨rfl, hb⟩; have h1 := L5.out.next hb; have L6 := Lib.hid h1; obtain ⟨u0, u1, u2, u3⟩ := h1.cb; clear hb h1 q0 q1 q2 q3)
    | (go_at_call 24; (with_reducible refine (D5.out _).mono ?_); rintro e V7 ⟨rfl, hb⟩; have L7 := Lib.hid (L6.out.next hb); clear hb u0 u1 u2 u3))
  go_ret
  exact ⟨rfl, L7.out.bel⟩
set_option maxRecDepth 100000 in
set_option maxHeartbeats 8000000 in
theorem dearer_3 (a b : ByteArray) (h1 : a.size ≤ 60) (h2 : b.size ≤ 60) (c : Ed.Cst) (hc : c.ok) (kd more : Int) (hk0 : 0 ≤ kd) (hk1 : kd ≤ 255) (ht : kd % 4 = 3) (hm0 : 0 ≤ more) (hm1 : more ≤ 255) (w : World) :
    Calls Try.prog 9 #[.string a, .string b, cstV c, .int .u8 kd, .int .u8 more] w (PostB true w) := by
  have g1 : decide ((60 : Int) < (a.size : Int)) = false := decide_eq_false (by omega)
  have g2 : decide ((60 : Int) < (b.size : Int)) = false := decide_eq_false (by omega)
  have ht2 : kd.tmod 4 = 3 := by rw [Int.tmod_eq_emod_of_nonneg (by omega)]; exact ht
  obtain ⟨W1, hW1, hb1, hq1, hcb⟩ := cbox w c
  obtain ⟨mv, hmv, hmd⟩ := run_min2 (c.ins + more)
  have aw := awake_any W1
  have rt := fun V => right_any c V
  have hr : ∀ V, Calls Try.prog 18 #[cstV c] V fun e w' => e = .returned (.bool true) ∧ Below V.heap.size V w' := fun V => (rt V).mono fun e w' ⟨h1, h2⟩ => ⟨by rw [h1, decide_eq_true hc], h2⟩
  obtain ⟨n, hn⟩ : ∃ n, Ed.D c (tx a) (tx b) = n := ⟨_, rfl⟩
  obtain ⟨L, hL⟩ : ∃ L, Ed.path c (tx a) (tx b) = L := ⟨_, rfl⟩
  have hok : (⟨mv, c.del, c.chg, c.swp⟩ : Ed.Cst).ok := by
    obtain ⟨⟨i1, i2⟩, ⟨i3, i4⟩, ⟨i5, i6⟩, i7, i8⟩ := hc
    refine ⟨?_, ?_, ?_, ?_⟩ <;> simp only <;> omega
  have hle : CLe c ⟨mv, c.del, c.chg, c.swp⟩ := by
    obtain ⟨⟨i1, i2⟩, ⟨i3, i4⟩, ⟨i5, i6⟩, i7, i8⟩ := hc
    refine ⟨?_, ?_, ?_, ?_⟩ <;> simp only <;> omega
  have hde := dearer hle (tx a) (tx b)
  obtain ⟨m, hm⟩ : ∃ m, Ed.D (⟨mv, c.del, c.chg, c.swp⟩ : Ed.Cst) (tx a) (tx b) = m := ⟨_, rfl⟩
  obtain ⟨pr, hpr⟩ : ∃ pr, Ed.price (⟨mv, c.del, c.chg, c.swp⟩ : Ed.Cst) L = pr := ⟨_, rfl⟩
  have bn := dbound hc a b h1 h2
  rw [hn] at bn
  rw [hn, hL, hm, hpr] at hde
  obtain ⟨p1, p2, p3, p4⟩ := Ed.path_ok c _ (tx a) (tx b) (Nat.le_refl _)
  rw [hL] at p3 p4
  rw [tx_len, tx_len] at p3
  have d1 := fun V => path_in hc a b h1 h2 n hn L hL V
  have d2 := fun A m' cap V (hl : L.length = m') (hrd : RdO V A L) => cost_in A m' cap L ⟨mv, c.del, c.chg, c.swp⟩ V hok hl (by omega) (fun o ho => ⟨(p4 o ho).1, (p4 o ho).2.1⟩) hrd
  rw [hpr] at d2
  have d3 := fun V => dist_in hok a b h1 h2 hm V
  have d4 := fun V => (within_in hc a b h1 h2 n hn V).1
  have d5 := fun V => (within_in hc a b h1 h2 n hn V).2
  unfold cstV at hr d1 d2 d3 d4 d5 ⊢
  simp only at d2 d3
  have c1 : decide (n ≤ m) = true := decide_eq_true hde.1
  have c2 : decide (m ≤ pr) = true := decide_eq_true hde.2
  obtain ⟨n0, n1⟩ := bn
  obtain ⟨f0, f1⟩ : 0 ≤ c.ins ∧ c.ins ≤ 1000 := by
    obtain ⟨⟨i1, i2⟩, ⟨i3, i4⟩, ⟨i5, i6⟩, i7, i8⟩ := hc
    omega
  have AW := Lib.hid aw; have L0 := Lib.hid (show LS w W1 w.heap.size c from ⟨hb1, hcb⟩)
  have HR := Lib.hid hr; have D1 := Lib.hid d1; have D2 := Lib.hid d2; have D3 := Lib.hid d3; have D4 := Lib.hid d4; have D5 := Lib.hid d5
  clear hr rt aw hcb hb1 d1 d2 d3 d4 d5 hn hL hm hpr hc hok hle hde p1 p2 p3 p4 h1 h2 hmd
  go_enter Try.func9, Try.ntmps9
  go_wp2_with fail
  rw [← hW1]
  clear hW1
  go_wp2_with (first
    | (go_at_call 11; (with_reducible refine AW.out.mono ?_); rintro e V ⟨rfl, hb⟩; have h1 := L0.out.next hb; have L1 := Lib.hid h1; obtain ⟨q0, q1, q2, q3⟩ := h1.cb; clear hb h1)
    | (go_at_call 18; (with_reducible refine (HR.out _).mono ?_); rintro e V2 ⟨rfl, hb⟩; have h1 := L1.out.next hb; have L2 := Lib.hid h1; obtain ⟨u0, u1, u2, u3⟩ := h1.cb; have z0 := fun o => cell_keep u0 (below_new V2 o); have z1 := fun o => cell_keep u1 (below_new V2 o); have z2 := fun o => cell_keep u2 (below_new V2 o); have z3 := fun o => cell_keep u3 (below_new V2 o); clear hb h1 q0 q1 q2 q3)
    | (go_at_call 21; (with_reducible refine (D1.out _).mono ?_); rintro e V3 ⟨A, m', cap, rfl, ho, hb⟩; have h1 := (L2.out.next (below_new V2 _)).next hb; have L3 := Lib.hid h1; have hd := (show CB _ V2.heap.size ⟨mv, c.del, c.chg, c.swp⟩ from box4 (heap_alloc_new V2 _)).below hb; have CD := Lib.hid hd; have HO := Lib.hid ho; have CO := Lib.hid (D2.out A m' cap V3 ho.1 ho.rd); obtain ⟨q0, q1, q2, q3⟩ := h1.cb; obtain ⟨y0, y1, y2, y3⟩ := hd; clear hb h1 u0 u1 u2 u3 z0 z1 z2 z3 ho)
    | (go_at_call 20; (with_reducible refine CO.out.mono ?_); rintro e V4 ⟨rfl, hb⟩; have h1 := L3.out.next hb; have L4 := Lib.hid h1; have hd := CD.out.below hb; obtain ⟨u0, u1, u2, u3⟩ := h1.cb; clear y0 y1 y2 y3; obtain ⟨y0, y1, y2, y3⟩ := hd; clear hb h1 q0 q1 q2 q3)
    | (go_at_call 16; (with_reducible refine (D3.out _).mono ?_); rintro e V5 ⟨rfl, hb⟩; have h1 := L4.out.next hb; have L5 := Lib.hid h1; obtain ⟨q0, q1, q2, q3⟩ := h1.cb; clear hb h1 u0 u1 u2 u3 y0 y1 y2 y3)
    | (go_at_call 24; (with_reducible refine (D4.out _).mono ?_); rintro e V6 ⟨rfl, hb⟩; have h1 := L5.out.next hb; have L6 := Lib.hid h1; obtain ⟨u0, u1, u2, u3⟩ := h1.cb; clear hb h1 q0 q1 q2 q3)
    | (go_at_call 24; (with_reducible refine (D5.out _).mono ?_); rintro e V7 ⟨rfl, hb⟩; have L7 := Lib.hid (L6.out.next hb); clear hb u0 u1 u2 u3))
  go_ret
  exact ⟨rfl, L7.out.bel⟩
set_option maxRecDepth 100000 in
set_option maxHeartbeats 4000000 in
theorem walk_editDearer (a : ByteArray) (wa : a.size ≤ maxLen) (b : ByteArray) (wb : b.size ≤ maxLen) (c : Ed.Cst) (kd : Int) (wk : (Lit.int .u8 kd).wf = true) (more : Int) (wm : (Lit.int .u8 more).wf = true) (w : World) :
    Calls Try.prog 9 #[.string a, .string b, cstV c, .int .u8 kd, .int .u8 more] w (PostB true w) := by
  obtain ⟨k0, k1⟩ := bounds_u8 wk
  obtain ⟨m0, m1⟩ := bounds_u8 wm
  by_cases h1 : a.size ≤ 60
  · by_cases h2 : b.size ≤ 60
    · by_cases hc : c.ok
      · rcases (show kd % 4 = 0 ∨ kd % 4 = 1 ∨ kd % 4 = 2 ∨ kd % 4 = 3 by omega) with h | h | h | h
        · exact dearer_0 a b h1 h2 c hc kd more k0 k1 h m0 m1 w
        · exact dearer_1 a b h1 h2 c hc kd more k0 k1 h m0 m1 w
        · exact dearer_2 a b h1 h2 c hc kd more k0 k1 h m0 m1 w
        · exact dearer_3 a b h1 h2 c hc kd more k0 k1 h m0 m1 w
      · obtain ⟨W1, hW1, hb1, hq1, hcb⟩ := cbox w c
        have aw := awake_any W1
        have rt := fun V => right_any c V
        have hr : ∀ V, Calls Try.prog 18 #[cstV c] V fun e w' => e = .returned (.bool false) ∧ Below V.heap.size V w' := fun V => (rt V).mono fun e w' ⟨h1, h2⟩ => ⟨by rw [h1, decide_eq_false hc], h2⟩
        have g1 : decide ((60 : Int) < (a.size : Int)) = false := decide_eq_false (by omega)
        have g2 : decide ((60 : Int) < (b.size : Int)) = false := decide_eq_false (by omega)
        unfold cstV at hr ⊢
        have AW := Lib.hid aw; have L0 := Lib.hid (show LS w W1 w.heap.size c from ⟨hb1, hcb⟩); have HR := Lib.hid hr
        clear hr rt aw hcb hc hb1 h1 h2
        go_enter Try.func9, Try.ntmps9
        go_wp2_with fail
        rw [← hW1]
        clear hW1
        go_wp2_with (first
          | (go_at_call 11; (with_reducible refine AW.out.mono ?_); rintro e V ⟨rfl, hb⟩; have h1 := L0.out.next hb; have L1 := Lib.hid h1; obtain ⟨q0, q1, q2, q3⟩ := h1.cb; clear hb h1)
          | (go_at_call 18; (with_reducible refine (HR.out _).mono ?_); rintro e V2 ⟨rfl, hb⟩; have L2 := Lib.hid (L1.out.next hb); clear hb))
        go_ret
        exact ⟨rfl, L2.out.bel⟩
    · have g1 : decide ((60 : Int) < (a.size : Int)) = false := decide_eq_false (by omega)
      have g2 : decide ((60 : Int) < (b.size : Int)) = true := decide_eq_true (by omega)
      obtain ⟨W1, hW1, hb1, hq1, hcb⟩ := cbox w c
      have aw := awake_any W1
      unfold cstV
      have AW := Lib.hid aw; have L0 := Lib.hid (show LS w W1 w.heap.size c from ⟨hb1, hcb⟩)
      clear aw hcb hb1 h1 h2
      go_enter Try.func9, Try.ntmps9
      go_wp2_with fail
      rw [← hW1]
      clear hW1
      go_wp2_with (go_at_call 11; (with_reducible refine AW.out.mono ?_); rintro e V ⟨rfl, hb⟩; have h1 := L0.out.next hb; have L1 := Lib.hid h1; obtain ⟨q0, q1, q2, q3⟩ := h1.cb; clear hb h1)
      go_ret
      exact ⟨rfl, L1.out.bel⟩
  · have g1 : decide ((60 : Int) < (a.size : Int)) = true := decide_eq_true (by omega)
    obtain ⟨W1, hW1, hb1, hq1, hcb⟩ := cbox w c
    have aw := awake_any W1
    unfold cstV
    have AW := Lib.hid aw; have L0 := Lib.hid (show LS w W1 w.heap.size c from ⟨hb1, hcb⟩)
    clear aw hcb hb1 h1
    go_enter Try.func9, Try.ntmps9
    go_wp2_with fail
    rw [← hW1]
    clear hW1
    go_wp2_with (go_at_call 11; (with_reducible refine AW.out.mono ?_); rintro e V ⟨rfl, hb⟩; have h1 := L0.out.next hb; have L1 := Lib.hid h1; obtain ⟨q0, q1, q2, q3⟩ := h1.cb; clear hb h1)
    go_ret
    exact ⟨rfl, L1.out.bel⟩
end Go.Proofs.Yticghbimldohoaa
