/-
  The examples of the chapter hold: awake answers true.
-/
import Derived.Test.YtbbmpjndalkgbaaDoorMonRead
import Derived.Test.YtbbmpjndalkgbaaDoorMonSplit
import Derived.Test.YtbbmpjndalkgbaaDoorMonSame
namespace Go.Proofs.YtbbmpjndalkgbaaDoor
open Go.RowKit
set_option linter.unusedVariables false

theorem share_is (a s way v : Int) (w : World) (v0 : 0 ≤ way) (v1 : way ≤ 255) (h : Mo.shV a s way = v ∧ Mo.shE a s way = 0) :
    Calls Tryd.prog 18 #[.int .i64 a, .int .i64 s, .int .u8 way] w fun e w' => e = .returned (.tuple #[.int .i64 v, .int .i64 0]) ∧ Below w.heap.size w w' := by
  refine (share_any a s way w v0 v1).mono ?_
  rintro e w' ⟨rfl, hb⟩
  exact ⟨ret_two h.1 h.2, hb⟩

theorem text_is (a : Int) (l : List UInt8) (w : World) (hw : P10 w) (h : Mo.txV a = l ∧ Mo.txE a = 0) :
    Calls Tryd.prog 21 #[.int .i64 a] w fun e w' => e = .returned (.tuple #[.string ⟨l.toArray⟩, .int .i64 0]) ∧ Below w.heap.size w w' := by
  refine (text_any a w hw).mono ?_
  rintro e w' ⟨rfl, hb⟩
  exact ⟨ret_si (by rw [h.1]) h.2, hb⟩
theorem read_is (l : List UInt8) (v er : Int) (w : World) (hw : Rdy w) (hs : l.length ≤ 1000) (h : Mo.RdIs l v er) :
    Calls Tryd.prog 22 #[.string ⟨l.toArray⟩] w fun e w' => e = .returned (.tuple #[.int .i64 v, .int .i64 er]) ∧ Below w.heap.size w w' := by
  have e2 : (⟨l.toArray⟩ : ByteArray).size = l.length := by show Array.size _ = _; simp
  refine (read_any ⟨l.toArray⟩ w hw (by rw [e2]; omega)).mono ?_
  rintro e w' ⟨v', e', rfl, hr, hb⟩
  obtain ⟨h1, h2⟩ := Mo.rdIs_one hr h
  exact ⟨ret_two h1 h2, hb⟩
theorem dec_lt (n : Nat) (h : n < 10) : Lib.decDigits n = [UInt8.ofNat (48 + n)] := Lib.decDigits_one h
theorem tx_m5 : Mo.txV (-5) = [45, 48, 46, 48, 53] ∧ Mo.txE (-5) = 0 := by
  refine ⟨?_, by decide⟩
  rw [Mo.txV, if_pos (by decide), Mo.tx, if_pos (by decide), Mo.body, show (Int.natAbs (-5)) = 5 from rfl, dec_lt _ (by decide)]; rfl
theorem tx_big : Mo.txV 123456 = [49, 50, 51, 52, 46, 53, 54] ∧ Mo.txE 123456 = 0 := by
  refine ⟨?_, by decide⟩
  rw [Mo.txV, if_pos (by decide), Mo.tx, if_neg (by decide), Mo.body, show (Int.natAbs 123456) = 123456 from rfl]
  rw [Lib.decDigits, dif_neg (by decide), Lib.decDigits, dif_neg (by decide), Lib.decDigits, dif_neg (by decide), dec_lt _ (by decide)]; rfl
theorem rd_bad (l : List UInt8) (v : Int) (h : Lib.atoiAll (Mo.rm1 l) = .ok v) (x : List UInt8) (hx : Mo.tx v = x) (hne : x ≠ l) : Mo.RdIs l 0 20 :=
  (Mo.rdIs_of_atoi l v h).2 fun y => hne (hx ▸ y.2)
theorem tx_small (n : Nat) (h : n < 1000) : Mo.tx n = [UInt8.ofNat (48 + n / 100), 46, Mo.dgt (n / 10), Mo.dgt n] := by
  rw [Mo.tx, if_neg (by omega), Mo.body, show (Int.natAbs (n : Int)) = n from rfl, dec_lt _ (by omega)]; rfl
theorem rd1 : Mo.RdIs [48, 48, 55, 46, 48, 48] 0 20 := rd_bad _ 700 (by decide) _ (tx_small 700 (by decide)) (by decide)
theorem rd2 : Mo.RdIs [45, 48, 46, 48, 48] 0 20 := rd_bad _ 0 (by decide) _ (tx_small 0 (by decide)) (by decide)
theorem rd3 : Mo.RdIs [49, 46, 53] 0 20 := rd_bad _ 15 (by decide) _ (tx_small 15 (by decide)) (by decide)
theorem split3 (c x y z a b d : Int) (A : Option Addr) (w : World) (hr : Rd w A [x, y, z]) (h : Mo.spV c [x, y, z] = [a, b, d] ∧ Mo.spE c [x, y, z] = 0) :
    Calls Tryd.prog 15 #[.int .i64 c, .slice A 3 3] w fun e w' => ∃ B cap, e = .returned (.tuple #[.slice B 3 cap, .int .i64 0]) ∧ Rd w' B [a, b, d] ∧ Below w.heap.size w w' := by
  refine (split_any c A 3 [x, y, z] w hr (by simp)).mono ?_
  rintro e w' ⟨B, cap, rfl, ho, hb⟩
  rw [h.1] at ho ⊢
  rw [h.2]
  obtain ⟨B', cap', e, -, hrd⟩ := own_rd ho
  have hB : B = B' := by simp at e; exact e.1
  exact ⟨B, cap, rfl, hB ▸ hrd, hb⟩
theorem same3 (a b d : Int) (A B : Option Addr) (cap : Nat) (w : World) (ha : Rd w A [a, b, d]) (hb : Rd w B [a, b, d]) :
    Calls Tryd.prog 19 #[.slice A 3 cap, .slice B 3 3] w fun e w' => e = .returned (.bool true) ∧ Below w.heap.size w w' :=
  same_yes A B 3 cap 3 [a, b, d] w ha hb (by simp)
set_option maxHeartbeats 4000000 in
set_option maxRecDepth 100000 in
theorem awake_any (w : World) (hw : Rdy w) : Calls Tryd.prog 11 #[] w fun e w' => e = .returned (.bool true) ∧ Below w.heap.size w w' := by
  have R0 := Lib.hid hw; clear hw
  go_enter Tryd.func11, Tryd.ntmps11
  go_wp2_with fail
  have hlt := new_lt w (.int .i64 1050) #[.int .i64 1050, .int .i64 5000, .int .i64 525, .int .i64 525, .int .i64 525, .int .i64 525, .int .i64 105, .int .i64 5000, .int .i64 52, .int .i64 53, .int .i64 53, .int .i64 52, .int .i64 (-105), .int .i64 5000, .int .i64 (-53), .int .i64 (-52), .int .i64 (-53), .int .i64 (-52)] 51 rfl
  have hcs : ∀ q, q < 18 → (w.alloc (.cells #[.int .i64 1050, .int .i64 5000, .int .i64 525, .int .i64 525, .int .i64 525, .int .i64 525, .int .i64 105, .int .i64 5000, .int .i64 52, .int .i64 53, .int .i64 53, .int .i64 52, .int .i64 (-105), .int .i64 5000, .int .i64 (-53), .int .i64 (-52), .int .i64 (-53), .int .i64 (-52)] 51)).cell? ⟨w.heap.size, q, none⟩ = some (.int .i64 (([1050, 5000, 525, 525, 525, 525, 105, 5000, 52, 53, 53, 52, (-105), 5000, (-53), (-52), (-53), (-52)] : List Int).getD q 0)) := by
    intro q hq
    refine new_cell _ _ _ _ _ ?_
    have : q = 0 ∨ q = 1 ∨ q = 2 ∨ q = 3 ∨ q = 4 ∨ q = 5 ∨ q = 6 ∨ q = 7 ∨ q = 8 ∨ q = 9 ∨ q = 10 ∨ q = 11 ∨ q = 12 ∨ q = 13 ∨ q = 14 ∨ q = 15 ∨ q = 16 ∨ q = 17 := by omega
    rcases this with rfl | rfl | rfl | rfl | rfl | rfl | rfl | rfl | rfl | rfl | rfl | rfl | rfl | rfl | rfl | rfl | rfl | rfl <;> rfl
  have HB2 := Lib.hid ((Below.refl w.heap.size w).alloc (Nat.le_refl _) (.cells #[.int .i64 1050, .int .i64 5000, .int .i64 525, .int .i64 525, .int .i64 525, .int .i64 525, .int .i64 105, .int .i64 5000, .int .i64 52, .int .i64 53, .int .i64 53, .int .i64 52, .int .i64 (-105), .int .i64 5000, .int .i64 (-53), .int .i64 (-52), .int .i64 (-53), .int .i64 (-52)] 51))
  have HC := Lib.hid hcs; clear hcs
  generalize hW2 : World.alloc w _ = W2 at *
  clear hW2
  go_loopw [29] (fun i wr => ∃ k : Int, 0 ≤ k ∧ k ≤ 3 ∧ i = .int .i64 k ∧ Hid (Below W2.heap.size W2 wr)) (fun i _ => 3 - (intOf i).toNat)
  case atStart => exact ⟨0, by omega, by omega, rfl, Lib.hid (Below.refl _ _)⟩
  case round =>
    obtain ⟨k, hk0, hk, rfl, HB⟩ := hrel
    rcases (by omega : k = 0 ∨ k = 1 ∨ k = 2 ∨ k = 3) with rfl | rfl | rfl | rfl
    · have d0 := (bcell HB.out w.heap.size 0 hlt).trans (HC.out 0 (by omega))
      have d1 := (bcell HB.out w.heap.size 1 hlt).trans (HC.out 1 (by omega))
      have d2 := (bcell HB.out w.heap.size 2 hlt).trans (HC.out 2 (by omega))
      have d3 := (bcell HB.out w.heap.size 3 hlt).trans (HC.out 3 (by omega))
      have d4 := (bcell HB.out w.heap.size 4 hlt).trans (HC.out 4 (by omega))
      have d5 := (bcell HB.out w.heap.size 5 hlt).trans (HC.out 5 (by omega))
      simp only [List.getD_cons_zero, List.getD_cons_succ] at d0 d1 d2 d3 d4 d5
      go_wp2_with fail
      clear d0 d1 d2 d3 d4 d5
      have e0 : (wr.alloc (.cells #[.int .i64 1050, .int .i64 5000, .int .i64 525, .int .i64 525, .int .i64 525, .int .i64 525] 51)).cell? ⟨wr.heap.size, 0, none⟩ = some (.int .i64 1050) := new_cell _ _ _ _ _ rfl
      have e1 : (wr.alloc (.cells #[.int .i64 1050, .int .i64 5000, .int .i64 525, .int .i64 525, .int .i64 525, .int .i64 525] 51)).cell? ⟨wr.heap.size, 1, none⟩ = some (.int .i64 5000) := new_cell _ _ _ _ _ rfl
      have hlt3 := new_lt wr (.int .i64 1050) #[.int .i64 1050, .int .i64 5000, .int .i64 525, .int .i64 525, .int .i64 525, .int .i64 525] 51 rfl
      have HB3 := Lib.hid (HB.out.alloc HB.out.size (.cells #[.int .i64 1050, .int .i64 5000, .int .i64 525, .int .i64 525, .int .i64 525, .int .i64 525] 51))
      have HE := Lib.hid (And.intro e0 e1); clear e0 e1
      generalize wr.heap.size = b at *
      generalize World.alloc wr _ = W3 at *
      have x0 : ∀ W, (Instr.index 50 (.agg #[.int .i64 525, .int .i64 525, .int .i64 525, .int .i64 525]) (.int .i64 0)).run Tryd.prog W = .ok (.int .i64 525) W := fun _ => by kernel_rfl
      have x1 : ∀ W, (Instr.index 50 (.agg #[.int .i64 525, .int .i64 525, .int .i64 525, .int .i64 525]) (.int .i64 1)).run Tryd.prog W = .ok (.int .i64 525) W := fun _ => by kernel_rfl
      have x2 : ∀ W, (Instr.index 50 (.agg #[.int .i64 525, .int .i64 525, .int .i64 525, .int .i64 525]) (.int .i64 2)).run Tryd.prog W = .ok (.int .i64 525) W := fun _ => by kernel_rfl
      have x3 : ∀ W, (Instr.index 50 (.agg #[.int .i64 525, .int .i64 525, .int .i64 525, .int .i64 525]) (.int .i64 3)).run Tryd.prog W = .ok (.int .i64 525) W := fun _ => by kernel_rfl
      have S0 := Lib.hid (fun W => share_is 1050 5000 1 525 W (by omega) (by omega) (by decide +kernel))
      have S1 := Lib.hid (fun W => share_is 1050 5000 2 525 W (by omega) (by omega) (by decide +kernel))
      have S2 := Lib.hid (fun W => share_is 1050 5000 3 525 W (by omega) (by omega) (by decide +kernel))
      have S3 := Lib.hid (fun W => share_is 1050 5000 4 525 W (by omega) (by omega) (by decide +kernel))
      go_loopw [35] (fun y wx => ∃ j : Int, 0 ≤ j ∧ j ≤ 4 ∧ y = .int .i64 j ∧ Hid (Below W3.heap.size W3 wx)) (fun y _ => 4 - (intOf y).toNat)
      case atStart => exact ⟨0, by omega, by omega, rfl, Lib.hid (Below.refl _ _)⟩
      case round =>
        obtain ⟨j, hj0, hj, rfl, HBX⟩ := hrel
        have f0 := (bcell HBX.out b 0 hlt3).trans HE.out.1
        have f1 := (bcell HBX.out b 1 hlt3).trans HE.out.2
        rcases (by omega : j = 0 ∨ j = 1 ∨ j = 2 ∨ j = 3 ∨ j = 4) with rfl | rfl | rfl | rfl | rfl
        · go_wp2_with (go_at_call 18; (with_reducible refine (S0.out _).mono ?_); rintro e w5 ⟨rfl, hb5⟩; have HB5 := Lib.hid (HBX.out.trans (hb5.mono HBX.out.size)); clear hb5)
          exact ⟨⟨1, by omega, by omega, by go_num, HB5⟩, by simp [intOf]⟩
        · go_wp2_with (go_at_call 18; (with_reducible refine (S1.out _).mono ?_); rintro e w5 ⟨rfl, hb5⟩; have HB5 := Lib.hid (HBX.out.trans (hb5.mono HBX.out.size)); clear hb5)
          exact ⟨⟨2, by omega, by omega, by go_num, HB5⟩, by simp [intOf]⟩
        · go_wp2_with (go_at_call 18; (with_reducible refine (S2.out _).mono ?_); rintro e w5 ⟨rfl, hb5⟩; have HB5 := Lib.hid (HBX.out.trans (hb5.mono HBX.out.size)); clear hb5)
          exact ⟨⟨3, by omega, by omega, by go_num, HB5⟩, by simp [intOf]⟩
        · go_wp2_with (go_at_call 18; (with_reducible refine (S3.out _).mono ?_); rintro e w5 ⟨rfl, hb5⟩; have HB5 := Lib.hid (HBX.out.trans (hb5.mono HBX.out.size)); clear hb5)
          exact ⟨⟨4, by omega, by omega, by go_num, HB5⟩, by simp [intOf]⟩
        · go_wp2_with fail
          exact ⟨⟨1, by omega, by omega, by go_num, Lib.hid (HB3.out.trans (HBX.out.mono HB3.out.size))⟩, by simp [intOf]⟩
    · have d0 := (bcell HB.out w.heap.size 6 hlt).trans (HC.out 6 (by omega))
      have d1 := (bcell HB.out w.heap.size 7 hlt).trans (HC.out 7 (by omega))
      have d2 := (bcell HB.out w.heap.size 8 hlt).trans (HC.out 8 (by omega))
      have d3 := (bcell HB.out w.heap.size 9 hlt).trans (HC.out 9 (by omega))
      have d4 := (bcell HB.out w.heap.size 10 hlt).trans (HC.out 10 (by omega))
      have d5 := (bcell HB.out w.heap.size 11 hlt).trans (HC.out 11 (by omega))
      simp only [List.getD_cons_zero, List.getD_cons_succ] at d0 d1 d2 d3 d4 d5
      go_wp2_with fail
      clear d0 d1 d2 d3 d4 d5
      have e0 : (wr.alloc (.cells #[.int .i64 105, .int .i64 5000, .int .i64 52, .int .i64 53, .int .i64 53, .int .i64 52] 51)).cell? ⟨wr.heap.size, 0, none⟩ = some (.int .i64 105) := new_cell _ _ _ _ _ rfl
      have e1 : (wr.alloc (.cells #[.int .i64 105, .int .i64 5000, .int .i64 52, .int .i64 53, .int .i64 53, .int .i64 52] 51)).cell? ⟨wr.heap.size, 1, none⟩ = some (.int .i64 5000) := new_cell _ _ _ _ _ rfl
      have hlt3 := new_lt wr (.int .i64 105) #[.int .i64 105, .int .i64 5000, .int .i64 52, .int .i64 53, .int .i64 53, .int .i64 52] 51 rfl
      have HB3 := Lib.hid (HB.out.alloc HB.out.size (.cells #[.int .i64 105, .int .i64 5000, .int .i64 52, .int .i64 53, .int .i64 53, .int .i64 52] 51))
      have HE := Lib.hid (And.intro e0 e1); clear e0 e1
      generalize wr.heap.size = b at *
      generalize World.alloc wr _ = W3 at *
      have x0 : ∀ W, (Instr.index 50 (.agg #[.int .i64 52, .int .i64 53, .int .i64 53, .int .i64 52]) (.int .i64 0)).run Tryd.prog W = .ok (.int .i64 52) W := fun _ => by kernel_rfl
      have x1 : ∀ W, (Instr.index 50 (.agg #[.int .i64 52, .int .i64 53, .int .i64 53, .int .i64 52]) (.int .i64 1)).run Tryd.prog W = .ok (.int .i64 53) W := fun _ => by kernel_rfl
      have x2 : ∀ W, (Instr.index 50 (.agg #[.int .i64 52, .int .i64 53, .int .i64 53, .int .i64 52]) (.int .i64 2)).run Tryd.prog W = .ok (.int .i64 53) W := fun _ => by kernel_rfl
      have x3 : ∀ W, (Instr.index 50 (.agg #[.int .i64 52, .int .i64 53, .int .i64 53, .int .i64 52]) (.int .i64 3)).run Tryd.prog W = .ok (.int .i64 52) W := fun _ => by kernel_rfl
      have S0 := Lib.hid (fun W => share_is 105 5000 1 52 W (by omega) (by omega) (by decide +kernel))
      have S1 := Lib.hid (fun W => share_is 105 5000 2 53 W (by omega) (by omega) (by decide +kernel))
      have S2 := Lib.hid (fun W => share_is 105 5000 3 53 W (by omega) (by omega) (by decide +kernel))
      have S3 := Lib.hid (fun W => share_is 105 5000 4 52 W (by omega) (by omega) (by decide +kernel))
      go_loopw [35] (fun y wx => ∃ j : Int, 0 ≤ j ∧ j ≤ 4 ∧ y = .int .i64 j ∧ Hid (Below W3.heap.size W3 wx)) (fun y _ => 4 - (intOf y).toNat)
      case atStart => exact ⟨0, by omega, by omega, rfl, Lib.hid (Below.refl _ _)⟩
      case round =>
        obtain ⟨j, hj0, hj, rfl, HBX⟩ := hrel
        have f0 := (bcell HBX.out b 0 hlt3).trans HE.out.1
        have f1 := (bcell HBX.out b 1 hlt3).trans HE.out.2
        rcases (by omega : j = 0 ∨ j = 1 ∨ j = 2 ∨ j = 3 ∨ j = 4) with rfl | rfl | rfl | rfl | rfl
        · go_wp2_with (go_at_call 18; (with_reducible refine (S0.out _).mono ?_); rintro e w5 ⟨rfl, hb5⟩; have HB5 := Lib.hid (HBX.out.trans (hb5.mono HBX.out.size)); clear hb5)
          exact ⟨⟨1, by omega, by omega, by go_num, HB5⟩, by simp [intOf]⟩
        · go_wp2_with (go_at_call 18; (with_reducible refine (S1.out _).mono ?_); rintro e w5 ⟨rfl, hb5⟩; have HB5 := Lib.hid (HBX.out.trans (hb5.mono HBX.out.size)); clear hb5)
          exact ⟨⟨2, by omega, by omega, by go_num, HB5⟩, by simp [intOf]⟩
        · go_wp2_with (go_at_call 18; (with_reducible refine (S2.out _).mono ?_); rintro e w5 ⟨rfl, hb5⟩; have HB5 := Lib.hid (HBX.out.trans (hb5.mono HBX.out.size)); clear hb5)
          exact ⟨⟨3, by omega, by omega, by go_num, HB5⟩, by simp [intOf]⟩
        · go_wp2_with (go_at_call 18; (with_reducible refine (S3.out _).mono ?_); rintro e w5 ⟨rfl, hb5⟩; have HB5 := Lib.hid (HBX.out.trans (hb5.mono HBX.out.size)); clear hb5)
          exact ⟨⟨4, by omega, by omega, by go_num, HB5⟩, by simp [intOf]⟩
        · go_wp2_with fail
          exact ⟨⟨2, by omega, by omega, by go_num, Lib.hid (HB3.out.trans (HBX.out.mono HB3.out.size))⟩, by simp [intOf]⟩
    · have d0 := (bcell HB.out w.heap.size 12 hlt).trans (HC.out 12 (by omega))
      have d1 := (bcell HB.out w.heap.size 13 hlt).trans (HC.out 13 (by omega))
      have d2 := (bcell HB.out w.heap.size 14 hlt).trans (HC.out 14 (by omega))
      have d3 := (bcell HB.out w.heap.size 15 hlt).trans (HC.out 15 (by omega))
      have d4 := (bcell HB.out w.heap.size 16 hlt).trans (HC.out 16 (by omega))
      have d5 := (bcell HB.out w.heap.size 17 hlt).trans (HC.out 17 (by omega))
      simp only [List.getD_cons_zero, List.getD_cons_succ] at d0 d1 d2 d3 d4 d5
      go_wp2_with fail
      clear d0 d1 d2 d3 d4 d5
      have e0 : (wr.alloc (.cells #[.int .i64 (-105), .int .i64 5000, .int .i64 (-53), .int .i64 (-52), .int .i64 (-53), .int .i64 (-52)] 51)).cell? ⟨wr.heap.size, 0, none⟩ = some (.int .i64 (-105)) := new_cell _ _ _ _ _ rfl
      have e1 : (wr.alloc (.cells #[.int .i64 (-105), .int .i64 5000, .int .i64 (-53), .int .i64 (-52), .int .i64 (-53), .int .i64 (-52)] 51)).cell? ⟨wr.heap.size, 1, none⟩ = some (.int .i64 5000) := new_cell _ _ _ _ _ rfl
      have hlt3 := new_lt wr (.int .i64 (-105)) #[.int .i64 (-105), .int .i64 5000, .int .i64 (-53), .int .i64 (-52), .int .i64 (-53), .int .i64 (-52)] 51 rfl
      have HB3 := Lib.hid (HB.out.alloc HB.out.size (.cells #[.int .i64 (-105), .int .i64 5000, .int .i64 (-53), .int .i64 (-52), .int .i64 (-53), .int .i64 (-52)] 51))
      have HE := Lib.hid (And.intro e0 e1); clear e0 e1
      generalize wr.heap.size = b at *
      generalize World.alloc wr _ = W3 at *
      have x0 : ∀ W, (Instr.index 50 (.agg #[.int .i64 (-53), .int .i64 (-52), .int .i64 (-53), .int .i64 (-52)]) (.int .i64 0)).run Tryd.prog W = .ok (.int .i64 (-53)) W := fun _ => by kernel_rfl
      have x1 : ∀ W, (Instr.index 50 (.agg #[.int .i64 (-53), .int .i64 (-52), .int .i64 (-53), .int .i64 (-52)]) (.int .i64 1)).run Tryd.prog W = .ok (.int .i64 (-52)) W := fun _ => by kernel_rfl
      have x2 : ∀ W, (Instr.index 50 (.agg #[.int .i64 (-53), .int .i64 (-52), .int .i64 (-53), .int .i64 (-52)]) (.int .i64 2)).run Tryd.prog W = .ok (.int .i64 (-53)) W := fun _ => by kernel_rfl
      have x3 : ∀ W, (Instr.index 50 (.agg #[.int .i64 (-53), .int .i64 (-52), .int .i64 (-53), .int .i64 (-52)]) (.int .i64 3)).run Tryd.prog W = .ok (.int .i64 (-52)) W := fun _ => by kernel_rfl
      have S0 := Lib.hid (fun W => share_is (-105) 5000 1 (-53) W (by omega) (by omega) (by decide +kernel))
      have S1 := Lib.hid (fun W => share_is (-105) 5000 2 (-52) W (by omega) (by omega) (by decide +kernel))
      have S2 := Lib.hid (fun W => share_is (-105) 5000 3 (-53) W (by omega) (by omega) (by decide +kernel))
      have S3 := Lib.hid (fun W => share_is (-105) 5000 4 (-52) W (by omega) (by omega) (by decide +kernel))
      go_loopw [35] (fun y wx => ∃ j : Int, 0 ≤ j ∧ j ≤ 4 ∧ y = .int .i64 j ∧ Hid (Below W3.heap.size W3 wx)) (fun y _ => 4 - (intOf y).toNat)
      case atStart => exact ⟨0, by omega, by omega, rfl, Lib.hid (Below.refl _ _)⟩
      case round =>
        obtain ⟨j, hj0, hj, rfl, HBX⟩ := hrel
        have f0 := (bcell HBX.out b 0 hlt3).trans HE.out.1
        have f1 := (bcell HBX.out b 1 hlt3).trans HE.out.2
        rcases (by omega : j = 0 ∨ j = 1 ∨ j = 2 ∨ j = 3 ∨ j = 4) with rfl | rfl | rfl | rfl | rfl
        · go_wp2_with (go_at_call 18; (with_reducible refine (S0.out _).mono ?_); rintro e w5 ⟨rfl, hb5⟩; have HB5 := Lib.hid (HBX.out.trans (hb5.mono HBX.out.size)); clear hb5)
          exact ⟨⟨1, by omega, by omega, by go_num, HB5⟩, by simp [intOf]⟩
        · go_wp2_with (go_at_call 18; (with_reducible refine (S1.out _).mono ?_); rintro e w5 ⟨rfl, hb5⟩; have HB5 := Lib.hid (HBX.out.trans (hb5.mono HBX.out.size)); clear hb5)
          exact ⟨⟨2, by omega, by omega, by go_num, HB5⟩, by simp [intOf]⟩
        · go_wp2_with (go_at_call 18; (with_reducible refine (S2.out _).mono ?_); rintro e w5 ⟨rfl, hb5⟩; have HB5 := Lib.hid (HBX.out.trans (hb5.mono HBX.out.size)); clear hb5)
          exact ⟨⟨3, by omega, by omega, by go_num, HB5⟩, by simp [intOf]⟩
        · go_wp2_with (go_at_call 18; (with_reducible refine (S3.out _).mono ?_); rintro e w5 ⟨rfl, hb5⟩; have HB5 := Lib.hid (HBX.out.trans (hb5.mono HBX.out.size)); clear hb5)
          exact ⟨⟨4, by omega, by omega, by go_num, HB5⟩, by simp [intOf]⟩
        · go_wp2_with fail
          exact ⟨⟨3, by omega, by omega, by go_num, Lib.hid (HB3.out.trans (HBX.out.mono HB3.out.size))⟩, by simp [intOf]⟩
    · clear HC hlt
      go_wp2_with fail
      obtain ⟨A0, hA0⟩ : ∃ x : World, x = wr := ⟨_, rfl⟩
      rw [← hA0]
      have BB0 : Below w.heap.size w A0 := by rw [hA0]; exact HB2.out.trans (HB.out.mono HB2.out.size)
      clear hA0 HB HB2
      obtain ⟨A1, hA1⟩ : ∃ x, x = A0.alloc (Obj.cells #[.int .i64 1, .int .i64 1, .int .i64 1] 3) := ⟨_, rfl⟩
      rw [← hA1]
      have s1 : A1.heap.size = A0.heap.size + 1 := by rw [hA1]; simp
      have r1 : Rd A1 (some ⟨A0.heap.size, 0, none⟩) [1, 1, 1] := by rw [hA1]; exact rd_new A0 [1, 1, 1] 3
      have b1 : Below A0.heap.size A0 A1 := by rw [hA1]; exact (Below.refl _ _).alloc (Nat.le_refl _) _
      rw [← s1]
      clear hA1
      obtain ⟨A2, hA2⟩ : ∃ x, x = A1.alloc (Obj.cells #[.int .i64 34, .int .i64 33, .int .i64 33] 3) := ⟨_, rfl⟩
      rw [← hA2]
      have s2 : A2.heap.size = A1.heap.size + 1 := by rw [hA2]; simp
      have r2 : Rd A2 (some ⟨A1.heap.size, 0, none⟩) [34, 33, 33] := by rw [hA2]; exact rd_new A1 [34, 33, 33] 3
      have b2 : Below A1.heap.size A1 A2 := by rw [hA2]; exact (Below.refl _ _).alloc (Nat.le_refl _) _
      rw [← s2]
      clear hA2
      obtain ⟨A3, hA3⟩ : ∃ x, x = A2.alloc (Obj.cells #[.int .i64 1, .int .i64 1, .int .i64 1] 3) := ⟨_, rfl⟩
      rw [← hA3]
      have s3 : A3.heap.size = A2.heap.size + 1 := by rw [hA3]; simp
      have r3 : Rd A3 (some ⟨A2.heap.size, 0, none⟩) [1, 1, 1] := by rw [hA3]; exact rd_new A2 [1, 1, 1] 3
      have b3 : Below A2.heap.size A2 A3 := by rw [hA3]; exact (Below.refl _ _).alloc (Nat.le_refl _) _
      rw [← s3]
      clear hA3
      obtain ⟨A4, hA4⟩ : ∃ x, x = A3.alloc (Obj.cells #[.int .i64 (-33), .int .i64 (-33), .int .i64 (-34)] 3) := ⟨_, rfl⟩
      rw [← hA4]
      have s4 : A4.heap.size = A3.heap.size + 1 := by rw [hA4]; simp
      have r4 : Rd A4 (some ⟨A3.heap.size, 0, none⟩) [(-33), (-33), (-34)] := by rw [hA4]; exact rd_new A3 [(-33), (-33), (-34)] 3
      have b4 : Below A3.heap.size A3 A4 := by rw [hA4]; exact (Below.refl _ _).alloc (Nat.le_refl _) _
      rw [← s4]
      clear hA4
      obtain ⟨A5, hA5⟩ : ∃ x, x = A4.alloc (Obj.cells #[.int .i64 0, .int .i64 3, .int .i64 1] 3) := ⟨_, rfl⟩
      rw [← hA5]
      have s5 : A5.heap.size = A4.heap.size + 1 := by rw [hA5]; simp
      have r5 : Rd A5 (some ⟨A4.heap.size, 0, none⟩) [0, 3, 1] := by rw [hA5]; exact rd_new A4 [0, 3, 1] 3
      have b5 : Below A4.heap.size A4 A5 := by rw [hA5]; exact (Below.refl _ _).alloc (Nat.le_refl _) _
      rw [← s5]
      clear hA5
      obtain ⟨A6, hA6⟩ : ∃ x, x = A5.alloc (Obj.cells #[.int .i64 0, .int .i64 8, .int .i64 2] 3) := ⟨_, rfl⟩
      rw [← hA6]
      have s6 : A6.heap.size = A5.heap.size + 1 := by rw [hA6]; simp
      have r6 : Rd A6 (some ⟨A5.heap.size, 0, none⟩) [0, 8, 2] := by rw [hA6]; exact rd_new A5 [0, 8, 2] 3
      have b6 : Below A5.heap.size A5 A6 := by rw [hA6]; exact (Below.refl _ _).alloc (Nat.le_refl _) _
      rw [← s6]
      clear hA6
      obtain ⟨A7, hA7⟩ : ∃ x, x = A6.alloc (Obj.cells #[.int .i64 100, .slice (some ⟨A0.heap.size, 0, none⟩) 3 3, .slice (some ⟨A1.heap.size, 0, none⟩) 3 3, .int .i64 (-100), .slice (some ⟨A2.heap.size, 0, none⟩) 3 3, .slice (some ⟨A3.heap.size, 0, none⟩) 3 3, .int .i64 10, .slice (some ⟨A4.heap.size, 0, none⟩) 3 3, .slice (some ⟨A5.heap.size, 0, none⟩) 3 3] 53) := ⟨_, rfl⟩
      rw [← hA7]
      have c0 : A7.cell? ⟨A6.heap.size, 0, none⟩ = some (.int .i64 100) := by rw [hA7]; exact new_cell _ _ _ _ _ rfl
      have c1 : A7.cell? ⟨A6.heap.size, 1, none⟩ = some (.slice (some ⟨A0.heap.size, 0, none⟩) 3 3) := by rw [hA7]; exact new_cell _ _ _ _ _ rfl
      have c2 : A7.cell? ⟨A6.heap.size, 2, none⟩ = some (.slice (some ⟨A1.heap.size, 0, none⟩) 3 3) := by rw [hA7]; exact new_cell _ _ _ _ _ rfl
      have c3 : A7.cell? ⟨A6.heap.size, 3, none⟩ = some (.int .i64 (-100)) := by rw [hA7]; exact new_cell _ _ _ _ _ rfl
      have c4 : A7.cell? ⟨A6.heap.size, 4, none⟩ = some (.slice (some ⟨A2.heap.size, 0, none⟩) 3 3) := by rw [hA7]; exact new_cell _ _ _ _ _ rfl
      have c5 : A7.cell? ⟨A6.heap.size, 5, none⟩ = some (.slice (some ⟨A3.heap.size, 0, none⟩) 3 3) := by rw [hA7]; exact new_cell _ _ _ _ _ rfl
      have c6 : A7.cell? ⟨A6.heap.size, 6, none⟩ = some (.int .i64 10) := by rw [hA7]; exact new_cell _ _ _ _ _ rfl
      have c7 : A7.cell? ⟨A6.heap.size, 7, none⟩ = some (.slice (some ⟨A4.heap.size, 0, none⟩) 3 3) := by rw [hA7]; exact new_cell _ _ _ _ _ rfl
      have c8 : A7.cell? ⟨A6.heap.size, 8, none⟩ = some (.slice (some ⟨A5.heap.size, 0, none⟩) 3 3) := by rw [hA7]; exact new_cell _ _ _ _ _ rfl
      have hlt : A6.heap.size < A7.heap.size := by rw [hA7]; simp
      have b7 : Below A6.heap.size A6 A7 := by rw [hA7]; exact (Below.refl _ _).alloc (Nat.le_refl _) _
      clear hA7
      have q1 := Lib.hid ((((((r1.below b2).below b3).below b4).below b5).below b6).below b7)
      have q2 := Lib.hid (((((r2.below b3).below b4).below b5).below b6).below b7)
      have q3 := Lib.hid ((((r3.below b4).below b5).below b6).below b7)
      have q4 := Lib.hid (((r4.below b5).below b6).below b7)
      have q5 := Lib.hid ((r5.below b6).below b7)
      have q6 := Lib.hid (r6.below b7)
      have BB := Lib.hid (((((((BB0.trans (b1.mono BB0.size)).trans (b2.mono (by have := BB0.size; omega))).trans (b3.mono (by have := BB0.size; omega))).trans (b4.mono (by have := BB0.size; omega))).trans (b5.mono (by have := BB0.size; omega))).trans (b6.mono (by have := BB0.size; omega))).trans (b7.mono (by have := BB0.size; omega)))
      have CC := Lib.hid (show _ ∧ _ ∧ _ ∧ _ ∧ _ ∧ _ ∧ _ ∧ _ ∧ _ from ⟨c0, c1, c2, c3, c4, c5, c6, c7, c8⟩)
      clear c0 c1 c2 c3 c4 c5 c6 c7 c8 r1 r2 r3 r4 r5 r6 b1 b2 b3 b4 b5 b6 b7 BB0 s1 s2 s3 s4 s5 s6
      generalize A0.heap.size = g0 at *
      generalize A1.heap.size = g1 at *
      generalize A2.heap.size = g2 at *
      generalize A3.heap.size = g3 at *
      generalize A4.heap.size = g4 at *
      generalize A5.heap.size = g5 at *
      generalize A6.heap.size = g6 at *
      go_loopw [70] (fun i wr => ∃ k : Int, 0 ≤ k ∧ k ≤ 3 ∧ i = .int .i64 k ∧ Hid (Below A7.heap.size A7 wr)) (fun i _ => 3 - (intOf i).toNat)
      case atStart => exact ⟨0, by omega, by omega, rfl, Lib.hid (Below.refl _ _)⟩
      case round =>
        obtain ⟨k, hk0, hk, rfl, HB⟩ := hrel
        rcases (by omega : k = 0 ∨ k = 1 ∨ k = 2 ∨ k = 3) with rfl | rfl | rfl | rfl
        · have d0 := (bcell HB.out g6 0 hlt).trans CC.out.1
          have d1 := (bcell HB.out g6 1 hlt).trans CC.out.2.1
          have d2 := (bcell HB.out g6 2 hlt).trans CC.out.2.2.1
          go_wp2_with fail
          clear d0 d1 d2
          have e2 : (wr.alloc (.cells #[.int .i64 100, .slice (some ⟨g0, 0, none⟩) 3 3, .slice (some ⟨g1, 0, none⟩) 3 3] 53)).cell? ⟨wr.heap.size, 2, none⟩ = some (.slice (some ⟨g1, 0, none⟩) 3 3) := new_cell _ _ _ _ _ rfl
          have hlt3 : wr.heap.size < (wr.alloc (.cells #[.int .i64 100, .slice (some ⟨g0, 0, none⟩) 3 3, .slice (some ⟨g1, 0, none⟩) 3 3] 53)).heap.size := by simp
          have HB3 := Lib.hid (HB.out.alloc HB.out.size (.cells #[.int .i64 100, .slice (some ⟨g0, 0, none⟩) 3 3, .slice (some ⟨g1, 0, none⟩) 3 3] 53))
          have HE := Lib.hid e2; clear e2
          generalize wr.heap.size = b at *
          generalize World.alloc wr _ = W3 at *
          refine (split3 100 1 1 1 34 33 33 (some ⟨g0, 0, none⟩) W3 (q1.out.below HB3.out) (by decide +kernel)).mono ?_
          rintro e W4 ⟨B, cap, rfl, hrd, hb⟩
          have f2 := (bcell hb b 2 hlt3).trans HE.out
          have HD := Lib.hid hrd
          have HB4 := Lib.hid (HB3.out.trans (hb.mono HB3.out.size))
          clear hb hrd
          go_wp2_with fail
          refine (same3 34 33 33 _ _ _ W4 HD.out (q2.out.below HB4.out)).mono ?_
          rintro e W5 ⟨rfl, hb⟩
          have HB5 := Lib.hid (HB4.out.trans (hb.mono HB4.out.size))
          clear hb
          go_wp2_with fail
          exact ⟨⟨1, by omega, by omega, by go_num, HB5⟩, by simp [intOf]⟩
        · have d0 := (bcell HB.out g6 3 hlt).trans CC.out.2.2.2.1
          have d1 := (bcell HB.out g6 4 hlt).trans CC.out.2.2.2.2.1
          have d2 := (bcell HB.out g6 5 hlt).trans CC.out.2.2.2.2.2.1
          go_wp2_with fail
          clear d0 d1 d2
          have e2 : (wr.alloc (.cells #[.int .i64 (-100), .slice (some ⟨g2, 0, none⟩) 3 3, .slice (some ⟨g3, 0, none⟩) 3 3] 53)).cell? ⟨wr.heap.size, 2, none⟩ = some (.slice (some ⟨g3, 0, none⟩) 3 3) := new_cell _ _ _ _ _ rfl
          have hlt3 : wr.heap.size < (wr.alloc (.cells #[.int .i64 (-100), .slice (some ⟨g2, 0, none⟩) 3 3, .slice (some ⟨g3, 0, none⟩) 3 3] 53)).heap.size := by simp
          have HB3 := Lib.hid (HB.out.alloc HB.out.size (.cells #[.int .i64 (-100), .slice (some ⟨g2, 0, none⟩) 3 3, .slice (some ⟨g3, 0, none⟩) 3 3] 53))
          have HE := Lib.hid e2; clear e2
          generalize wr.heap.size = b at *
          generalize World.alloc wr _ = W3 at *
          refine (split3 (-100) 1 1 1 (-33) (-33) (-34) (some ⟨g2, 0, none⟩) W3 (q3.out.below HB3.out) (by decide +kernel)).mono ?_
          rintro e W4 ⟨B, cap, rfl, hrd, hb⟩
          have f2 := (bcell hb b 2 hlt3).trans HE.out
          have HD := Lib.hid hrd
          have HB4 := Lib.hid (HB3.out.trans (hb.mono HB3.out.size))
          clear hb hrd
          go_wp2_with fail
          refine (same3 (-33) (-33) (-34) _ _ _ W4 HD.out (q4.out.below HB4.out)).mono ?_
          rintro e W5 ⟨rfl, hb⟩
          have HB5 := Lib.hid (HB4.out.trans (hb.mono HB4.out.size))
          clear hb
          go_wp2_with fail
          exact ⟨⟨2, by omega, by omega, by go_num, HB5⟩, by simp [intOf]⟩
        · have d0 := (bcell HB.out g6 6 hlt).trans CC.out.2.2.2.2.2.2.1
          have d1 := (bcell HB.out g6 7 hlt).trans CC.out.2.2.2.2.2.2.2.1
          have d2 := (bcell HB.out g6 8 hlt).trans CC.out.2.2.2.2.2.2.2.2
          go_wp2_with fail
          clear d0 d1 d2
          have e2 : (wr.alloc (.cells #[.int .i64 10, .slice (some ⟨g4, 0, none⟩) 3 3, .slice (some ⟨g5, 0, none⟩) 3 3] 53)).cell? ⟨wr.heap.size, 2, none⟩ = some (.slice (some ⟨g5, 0, none⟩) 3 3) := new_cell _ _ _ _ _ rfl
          have hlt3 : wr.heap.size < (wr.alloc (.cells #[.int .i64 10, .slice (some ⟨g4, 0, none⟩) 3 3, .slice (some ⟨g5, 0, none⟩) 3 3] 53)).heap.size := by simp
          have HB3 := Lib.hid (HB.out.alloc HB.out.size (.cells #[.int .i64 10, .slice (some ⟨g4, 0, none⟩) 3 3, .slice (some ⟨g5, 0, none⟩) 3 3] 53))
          have HE := Lib.hid e2; clear e2
          generalize wr.heap.size = b at *
          generalize World.alloc wr _ = W3 at *
          refine (split3 10 0 3 1 0 8 2 (some ⟨g4, 0, none⟩) W3 (q5.out.below HB3.out) (by decide +kernel)).mono ?_
          rintro e W4 ⟨B, cap, rfl, hrd, hb⟩
          have f2 := (bcell hb b 2 hlt3).trans HE.out
          have HD := Lib.hid hrd
          have HB4 := Lib.hid (HB3.out.trans (hb.mono HB3.out.size))
          clear hb hrd
          go_wp2_with fail
          refine (same3 0 8 2 _ _ _ W4 HD.out (q6.out.below HB4.out)).mono ?_
          rintro e W5 ⟨rfl, hb⟩
          have HB5 := Lib.hid (HB4.out.trans (hb.mono HB4.out.size))
          clear hb
          go_wp2_with fail
          exact ⟨⟨3, by omega, by omega, by go_num, HB5⟩, by simp [intOf]⟩
        · have HBZ := Lib.hid (BB.out.trans (HB.out.mono BB.out.size))
          clear CC BB q1 q2 q3 q4 q5 q6 HB hlt
          have R1 := Lib.hid (R0.out.below HBZ.out)
          go_wp2_with fail
          refine (text_is (-5) _ wr R1.out.p10 tx_m5).mono ?_
          rintro e w2 ⟨rfl, hb⟩
          have R2 := Lib.hid (R1.out.below hb)
          have HB2 := Lib.hid (HBZ.out.trans (hb.mono HBZ.out.size))
          clear hb
          go_wp2_with fail
          refine (text_is 123456 _ w2 R2.out.p10 tx_big).mono ?_
          rintro e w3 ⟨rfl, hb⟩
          have R3 := Lib.hid (R2.out.below hb)
          have HB3 := Lib.hid (HB2.out.trans (hb.mono HB2.out.size))
          clear hb
          go_wp2_with fail
          refine (read_is [48, 48, 55, 46, 48, 48] 0 20 w3 R3.out (by decide) rd1).mono ?_
          rintro e w4 ⟨rfl, hb⟩
          have R4 := Lib.hid (R3.out.below hb)
          have HB4 := Lib.hid (HB3.out.trans (hb.mono HB3.out.size))
          clear hb
          go_wp2_with fail
          refine (read_is [45, 48, 46, 48, 48] 0 20 w4 R4.out (by decide) rd2).mono ?_
          rintro e w5 ⟨rfl, hb⟩
          have R5 := Lib.hid (R4.out.below hb)
          have HB5 := Lib.hid (HB4.out.trans (hb.mono HB4.out.size))
          clear hb
          go_wp2_with fail
          refine (read_is [49, 46, 53] 0 20 w5 R5.out (by decide) rd3).mono ?_
          rintro e w6 ⟨rfl, hb⟩
          have HB6 := Lib.hid (HB5.out.trans (hb.mono HB5.out.size))
          clear hb
          go_wp2_with fail
          go_ret
          exact ⟨rfl, HB6.out⟩

end Go.Proofs.YtbbmpjndalkgbaaDoor
