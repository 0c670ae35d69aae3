/-
  The walk of the law MoneyTurns.
-/
import Derived.Test.YtbbmpjndalkgbaaDoorMonRounds
namespace Go.Proofs.YtbbmpjndalkgbaaDoor
open Go.RowKit
set_option linter.unusedVariables false

set_option maxRecDepth 100000 in
set_option maxHeartbeats 4000000 in
theorem walk_moneyTurns (a0 : Int) (w0 : (Lit.int .i64 a0).wf = true) (a1 : Int) (w1 : (Lit.int .i64 a1).wf = true) (w : World) (hw : Rdy w) :
    Calls Tryd.prog 6 #[.int .i64 a0, .int .i64 a1] w fun e w' => e = .returned (.bool true) ∧ Below w.heap.size w w' := by
  have b0 := int_bd w0
  have b1 := int_bd w1
  clear w0 w1
  have R0 := Lib.hid hw; clear hw
  have ham := fun W => amount_any a0 W b0.1 b0.2
  have hbd := amount_bd a0
  have hpk : ∀ W, Calls Tryd.prog 17 #[.int .i64 a1, .int .i64 10001] W fun e w' => e = .returned (.int .i64 (a1 % 10001)) ∧ W = w' := fun W => pick_any a1 _ W (by omega) (by omega)
  have s0 : 0 ≤ a1 % 10001 := by omega
  have s1 : a1 % 10001 ≤ 10000 := by omega
  generalize a0 % 2000000000000001 - 1000000000000000 = a at *
  generalize a1 % 10001 = s at *
  have hrt : Mo.rt a = true := (Mo.rt_iff a).2 hbd
  have hrt2 : Mo.rt (-a) = true := (Mo.rt_iff (-a)).2 (by omega)
  obtain ⟨t1, t2, t3, t4⟩ := Mo.turns a s
  have q1 := fun W => share_s a s 1 hrt s0 s1 (by omega) (by omega) W
  have q2 := fun W => share_s a s 2 hrt s0 s1 (by omega) (by omega) W
  have q3 := fun W => share_s a s 3 hrt s0 s1 (by omega) (by omega) W
  have q4 := fun W => share_s a s 4 hrt s0 s1 (by omega) (by omega) W
  have p1 := fun W => share_s (-a) s 1 hrt2 s0 s1 (by omega) (by omega) W
  have p2 := fun W => share_s (-a) s 2 hrt2 s0 s1 (by omega) (by omega) W
  have p3 := fun W => share_s (-a) s 3 hrt2 s0 s1 (by omega) (by omega) W
  have p4 := fun W => share_s (-a) s 4 hrt2 s0 s1 (by omega) (by omega) W
  have bd1 := Mo.shS_bd (-a) s 1 hrt2 s0 s1
  have bd2 := Mo.shS_bd (-a) s 2 hrt2 s0 s1
  have bd3 := Mo.shS_bd (-a) s 3 hrt2 s0 s1
  have bd4 := Mo.shS_bd (-a) s 4 hrt2 s0 s1
  rw [t1] at q1
  rw [t2] at q2
  rw [t3] at q3
  rw [t4] at q4
  clear t1 t2 t3 t4
  generalize Mo.shS (-a) s 1 = D at *
  generalize Mo.shS (-a) s 2 = U at *
  generalize Mo.shS (-a) s 3 = H at *
  generalize Mo.shS (-a) s 4 = E at *
  obtain ⟨d0, d1⟩ := bd1
  obtain ⟨u0, u1⟩ := bd2
  obtain ⟨h0, h1⟩ := bd3
  obtain ⟨e0, e1⟩ := bd4
  obtain ⟨a0', a1'⟩ := hbd
  have A0 := Lib.hid ham; have PK := Lib.hid hpk
  have Q1 := Lib.hid q1; have Q2 := Lib.hid q2; have Q3 := Lib.hid q3; have Q4 := Lib.hid q4
  have P1 := Lib.hid p1; have P2 := Lib.hid p2; have P3 := Lib.hid p3; have P4 := Lib.hid p4
  clear q1 q2 q3 q4 p1 p2 p3 p4 ham hpk hrt hrt2 b0 b1
  go_enter Tryd.func6, Tryd.ntmps6
  go_wp2_with (first
    | (go_at_call 11; refine (awake_any _ R0.out).mono ?_; rintro e x1 ⟨rfl, hb⟩; have B1 := Lib.hid hb; clear hb)
    | (go_at_call 13; refine (A0.out _).mono ?_; rintro e w' ⟨rfl, rfl⟩)
    | (go_at_call 17; refine (PK.out _).mono ?_; rintro e w' ⟨rfl, rfl⟩))
  have hcs : ∀ q, q < 8 → (x1.alloc (.cells #[.int .u8 1, .int .u8 2, .int .u8 2, .int .u8 1, .int .u8 3, .int .u8 3, .int .u8 4, .int .u8 4] 38)).cell? ⟨x1.heap.size, q, none⟩ = some (.int .u8 (([1, 2, 2, 1, 3, 3, 4, 4] : List Int).getD q 0)) := by
    intro q hq
    refine new_cell _ _ _ _ _ ?_
    have : q = 0 ∨ q = 1 ∨ q = 2 ∨ q = 3 ∨ q = 4 ∨ q = 5 ∨ q = 6 ∨ q = 7 := by omega
    rcases this with rfl | rfl | rfl | rfl | rfl | rfl | rfl | rfl <;> rfl
  have hlt : x1.heap.size < (x1.alloc (.cells #[.int .u8 1, .int .u8 2, .int .u8 2, .int .u8 1, .int .u8 3, .int .u8 3, .int .u8 4, .int .u8 4] 38)).heap.size := by simp
  have B2 := Lib.hid (B1.out.alloc B1.out.size (.cells #[.int .u8 1, .int .u8 2, .int .u8 2, .int .u8 1, .int .u8 3, .int .u8 3, .int .u8 4, .int .u8 4] 38))
  have HC := Lib.hid hcs; clear hcs
  generalize x1.heap.size = b at *
  generalize World.alloc x1 _ = W2 at *
  go_loopw [25] (fun i wr => ∃ k : Int, 0 ≤ k ∧ k ≤ 4 ∧ i = .int .i64 k ∧ Hid (Below W2.heap.size W2 wr)) (fun i _ => 4 - (intOf i).toNat)
  case atStart => exact ⟨0, by omega, by omega, rfl, Lib.hid (Below.refl _ _)⟩
  case round =>
    obtain ⟨k, hk0, hk, rfl, HB⟩ := hrel
    rcases (by omega : k = 0 ∨ k = 1 ∨ k = 2 ∨ k = 3 ∨ k = 4) with rfl | rfl | rfl | rfl | rfl
    · have c0 := (bcell HB.out b 0 hlt).trans (HC.out 0 (by omega))
      have c1 := (bcell HB.out b 1 hlt).trans (HC.out 1 (by omega))
      simp only [List.getD_cons_zero, List.getD_cons_succ] at c0 c1
      go_wp2_with fail
      clear c0 c1
      have e1 : (wr.alloc (.cells #[.int .u8 1, .int .u8 2] 38)).cell? ⟨wr.heap.size, 1, none⟩ = some (.int .u8 2) := new_cell _ _ _ _ _ rfl
      have hlt3 : wr.heap.size < (wr.alloc (.cells #[.int .u8 1, .int .u8 2] 38)).heap.size := by simp
      have HB3 := Lib.hid (HB.out.alloc HB.out.size (.cells #[.int .u8 1, .int .u8 2] 38))
      have HE := Lib.hid e1; clear e1
      generalize wr.heap.size = g at *
      generalize World.alloc wr _ = W3 at *
      refine (Q1.out W3).mono ?_
      rintro e x4 ⟨rfl, hb⟩
      have f1 := (bcell hb g 1 hlt3).trans HE.out
      have HB4 := Lib.hid (HB3.out.trans (hb.mono HB3.out.size))
      clear hb
      go_wp2_with (go_at_call 18; (with_reducible refine (P2.out _).mono ?_); rintro e x5 ⟨rfl, hb⟩; have HB5 := Lib.hid (HB4.out.trans (hb.mono HB4.out.size)); clear hb)
      exact ⟨⟨1, by omega, by omega, by go_num, HB5⟩, by simp [intOf]⟩
    · have c0 := (bcell HB.out b 2 hlt).trans (HC.out 2 (by omega))
      have c1 := (bcell HB.out b 3 hlt).trans (HC.out 3 (by omega))
      simp only [List.getD_cons_zero, List.getD_cons_succ] at c0 c1
      go_wp2_with fail
      clear c0 c1
      have e1 : (wr.alloc (.cells #[.int .u8 2, .int .u8 1] 38)).cell? ⟨wr.heap.size, 1, none⟩ = some (.int .u8 1) := new_cell _ _ _ _ _ rfl
      have hlt3 : wr.heap.size < (wr.alloc (.cells #[.int .u8 2, .int .u8 1] 38)).heap.size := by simp
      have HB3 := Lib.hid (HB.out.alloc HB.out.size (.cells #[.int .u8 2, .int .u8 1] 38))
      have HE := Lib.hid e1; clear e1
      generalize wr.heap.size = g at *
      generalize World.alloc wr _ = W3 at *
      refine (Q2.out W3).mono ?_
      rintro e x4 ⟨rfl, hb⟩
      have f1 := (bcell hb g 1 hlt3).trans HE.out
      have HB4 := Lib.hid (HB3.out.trans (hb.mono HB3.out.size))
      clear hb
      go_wp2_with (go_at_call 18; (with_reducible refine (P1.out _).mono ?_); rintro e x5 ⟨rfl, hb⟩; have HB5 := Lib.hid (HB4.out.trans (hb.mono HB4.out.size)); clear hb)
      exact ⟨⟨2, by omega, by omega, by go_num, HB5⟩, by simp [intOf]⟩
    · have c0 := (bcell HB.out b 4 hlt).trans (HC.out 4 (by omega))
      have c1 := (bcell HB.out b 5 hlt).trans (HC.out 5 (by omega))
      simp only [List.getD_cons_zero, List.getD_cons_succ] at c0 c1
      go_wp2_with fail
      clear c0 c1
      have e1 : (wr.alloc (.cells #[.int .u8 3, .int .u8 3] 38)).cell? ⟨wr.heap.size, 1, none⟩ = some (.int .u8 3) := new_cell _ _ _ _ _ rfl
      have hlt3 : wr.heap.size < (wr.alloc (.cells #[.int .u8 3, .int .u8 3] 38)).heap.size := by simp
      have HB3 := Lib.hid (HB.out.alloc HB.out.size (.cells #[.int .u8 3, .int .u8 3] 38))
      have HE := Lib.hid e1; clear e1
      generalize wr.heap.size = g at *
      generalize World.alloc wr _ = W3 at *
      refine (Q3.out W3).mono ?_
      rintro e x4 ⟨rfl, hb⟩
      have f1 := (bcell hb g 1 hlt3).trans HE.out
      have HB4 := Lib.hid (HB3.out.trans (hb.mono HB3.out.size))
      clear hb
      go_wp2_with (go_at_call 18; (with_reducible refine (P3.out _).mono ?_); rintro e x5 ⟨rfl, hb⟩; have HB5 := Lib.hid (HB4.out.trans (hb.mono HB4.out.size)); clear hb)
      exact ⟨⟨3, by omega, by omega, by go_num, HB5⟩, by simp [intOf]⟩
    · have c0 := (bcell HB.out b 6 hlt).trans (HC.out 6 (by omega))
      have c1 := (bcell HB.out b 7 hlt).trans (HC.out 7 (by omega))
      simp only [List.getD_cons_zero, List.getD_cons_succ] at c0 c1
      go_wp2_with fail
      clear c0 c1
      have e1 : (wr.alloc (.cells #[.int .u8 4, .int .u8 4] 38)).cell? ⟨wr.heap.size, 1, none⟩ = some (.int .u8 4) := new_cell _ _ _ _ _ rfl
      have hlt3 : wr.heap.size < (wr.alloc (.cells #[.int .u8 4, .int .u8 4] 38)).heap.size := by simp
      have HB3 := Lib.hid (HB.out.alloc HB.out.size (.cells #[.int .u8 4, .int .u8 4] 38))
      have HE := Lib.hid e1; clear e1
      generalize wr.heap.size = g at *
      generalize World.alloc wr _ = W3 at *
      refine (Q4.out W3).mono ?_
      rintro e x4 ⟨rfl, hb⟩
      have f1 := (bcell hb g 1 hlt3).trans HE.out
      have HB4 := Lib.hid (HB3.out.trans (hb.mono HB3.out.size))
      clear hb
      go_wp2_with (go_at_call 18; (with_reducible refine (P4.out _).mono ?_); rintro e x5 ⟨rfl, hb⟩; have HB5 := Lib.hid (HB4.out.trans (hb.mono HB4.out.size)); clear hb)
      exact ⟨⟨4, by omega, by omega, by go_num, HB5⟩, by simp [intOf]⟩
    · go_wp2_with fail
      go_ret
      exact ⟨rfl, B2.out.trans (HB.out.mono B2.out.size)⟩

end Go.Proofs.YtbbmpjndalkgbaaDoor
