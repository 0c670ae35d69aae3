/-
  SameTexts, and the law's awake.
-/
import Derived.Test.YtoenaehkhdcdmaaDoorFolKinds
namespace Go.Proofs.YtoenaehkhdcdmaaDoor
open Go.RowKit
set_option linter.unusedVariables false
set_option linter.unusedSimpArgs false

theorem rdS_new1 (w : World) (x : ByteArray) : RdS (w.alloc (.cells #[.string x] 9)) (some ⟨w.heap.size, 0, none⟩) [x.data.toList] := by
  intro _
  refine ⟨w.heap.size, 0, rfl, lt_of_heap (heap_alloc_new w _), fun i hi => ?_⟩
  have : i = 0 := by simpa using hi
  subst this
  exact cell_of_row _ _ 0 _ _ _ (heap_alloc_new w _)
theorem rdS_new2 (w : World) (x y : ByteArray) : RdS (w.alloc (.cells #[.string x, .string y] 9)) (some ⟨w.heap.size, 0, none⟩) [x.data.toList, y.data.toList] := by
  intro _
  refine ⟨w.heap.size, 0, rfl, lt_of_heap (heap_alloc_new w _), fun i hi => ?_⟩
  have : i = 0 ∨ i = 1 := by simp at hi; omega
  rcases this with rfl | rfl
  · exact cell_of_row _ _ 0 _ _ _ (heap_alloc_new w _)
  · exact cell_of_row _ _ 1 _ _ _ (heap_alloc_new w _)
set_option maxRecDepth 100000 in
set_option maxHeartbeats 4000000 in
theorem sameTexts_any (A1 A2 : Option Addr) (n1 c1 n2 c2 : Nat) (l1 l2 : List (List UInt8)) (w : World) (hl1 : l1.length = n1) (hl2 : l2.length = n2) (hn : n1 ≤ 1000000000) (h1 : RdS w A1 l1) (h2 : RdS w A2 l2) :
    Calls Tryd.prog 26 #[.slice A1 n1 c1, .slice A2 n2 c2] w (PostB (l1 == l2) w) := by
  by_cases hnn : n1 = n2
  · subst hnn
    have H1 := Lib.hid h1; have H2 := Lib.hid h2; have L1 := Lib.hid hl1; have L2 := Lib.hid hl2
    clear h1 h2 hl1 hl2
    go_enter Tryd.func26, Tryd.ntmps26
    go_wp2
    go_loopw [5] (fun s5 wr => Hid (Below w.heap.size w wr) ∧ ∃ k : Nat, s5 = .int .i64 k ∧ k ≤ n1 ∧ Hid (∀ j, j < k → l1.getD j [] = l2.getD j [])) (fun s5 _ => n1 - (intOf s5).toNat)
    case atStart => exact ⟨Lib.hid (Below.refl _ _), 0, rfl, by omega, Lib.hid (fun j h => by omega)⟩
    case round =>
      obtain ⟨HB, k, rfl, hk, HS⟩ := hrel
      by_cases hlt : k < n1
      · have hlt2 : (k : Int) < n1 := by omega
        have hle : ¬ n1 ≤ k := by omega
        obtain ⟨b1, o1, e1, hb1, hc1⟩ := (H1.out.below HB.out) (by rw [L1.out]; omega)
        obtain ⟨b2, o2, e2, hb2, hc2⟩ := (H2.out.below HB.out) (by rw [L2.out]; omega)
        subst e1 e2
        have d1 := hc1 k (by rw [L1.out]; omega)
        have d2 := hc2 k (by rw [L2.out]; omega)
        obtain ⟨X, hX⟩ : ∃ X : ByteArray, X = ⟨(l1.getD k []).toArray⟩ := ⟨_, rfl⟩
        obtain ⟨Y, hY⟩ : ∃ Y : ByteArray, Y = ⟨(l2.getD k []).toArray⟩ := ⟨_, rfl⟩
        rw [← hX] at d1
        rw [← hY] at d2
        have x1 : X.toList = l1.getD k [] := by rw [ByteArray.toList_eq, hX]
        have y1 : Y.toList = l2.getD k [] := by rw [ByteArray.toList_eq, hY]
        have X1 := Lib.hid x1; have Y1 := Lib.hid y1
        clear hc1 hc2 hX hY hb1 hb2 x1 y1
        by_cases hxy : X.toList = Y.toList
        · have he : (X.toList == Y.toList) = true := beq_iff_eq.2 hxy
          have HE := Lib.hid hxy
          clear hxy
          go_wp2
          go_quiet (fail)
          go_wp2
          go_roundw
          case rel =>
            refine ⟨Lib.hid (below_drewN HB.out _), k + 1, by go_num, by omega, Lib.hid (fun j hj => ?_)⟩
            rcases Nat.lt_or_ge j k with h | h
            · exact HS.out j h
            · obtain rfl : j = k := by omega
              rw [← X1.out, ← Y1.out]; exact HE.out
          case measure => simp [intOf]; omega
        · have he : (X.toList == Y.toList) = false := beq_eq_false_iff_ne.2 hxy
          have HE := Lib.hid hxy
          clear hxy
          go_wp2
          go_quiet (fail)
          go_wp2
          go_ret
          refine ⟨ret_bool ?_, below_drewN HB.out _⟩
          symm
          rw [beq_eq_false_iff_ne]
          rintro rfl
          exact HE.out (X1.out.trans Y1.out.symm)
      · have hge : ¬ (k : Int) < n1 := by omega
        go_wp2
        go_ret
        refine ⟨ret_bool ?_, HB.out⟩
        symm
        rw [beq_iff_eq]
        apply List.ext_getElem (by rw [L1.out, L2.out])
        intro i hi1 hi2
        have := HS.out i (by rw [L1.out] at hi1; omega)
        rw [List.getD_eq_getElem?_getD, List.getD_eq_getElem?_getD, List.getElem?_eq_getElem hi1, List.getElem?_eq_getElem hi2] at this
        exact this
  · have hne : ((n1 : Int) == n2) = false := by rw [beq_eq_false_iff_ne]; omega
    have e : (l1 == l2) = false := by
      rw [beq_eq_false_iff_ne]
      rintro rfl
      omega
    rw [e]
    clear h1 h2 hl1 hl2 e
    go_enter Tryd.func26, Tryd.ntmps26
    go_wp2
    go_ret
    exact ⟨rfl, Below.refl _ _⟩
theorem sameT_any (A1 A2 : Option Addr) (n1 c1 n2 c2 : Nat) (l : List (List UInt8)) (w : World) (hl1 : l.length = n1) (hl2 : l.length = n2) (hn : l.length ≤ 1000000000) (h1 : RdS w A1 l) (h2 : RdS w A2 l) :
    Calls Tryd.prog 26 #[.slice A1 n1 c1, .slice A2 n2 c2] w (PostB true w) := by
  have := sameTexts_any A1 A2 n1 c1 n2 c2 l l w hl1 hl2 (by omega) h1 h2
  rwa [show (l == l) = true from beq_self_eq_true l] at this

theorem step0 (w : World) (hw : Rdy w) : Calls Tryd.prog 13 #[.string ⟨#[32, 49, 50, 45, 97, 32, 32, 82, 117, 101, 194, 160, 83, 116, 46, 32, 74, 101, 97, 110, 44]⟩] w fun e w' => ∃ S : ByteArray, e = .returned (.string S) ∧ (S.toList == [49, 50, 45, 65, 32, 82, 85, 69, 32, 83, 84, 32, 74, 69, 65, 78]) = true ∧ Below w.heap.size w w' := by
  refine (fold_any ⟨#[32, 49, 50, 45, 97, 32, 32, 82, 117, 101, 194, 160, 83, 116, 46, 32, 74, 101, 97, 110, 44]⟩ w hw (by decide)).mono ?_
  rintro e w' ⟨rfl, hb⟩
  refine ⟨_, rfl, ?_, hb⟩
  rw [ByteArray.toList_eq]
  have : Fo.fold [32, 49, 50, 45, 97, 32, 32, 82, 117, 101, 194, 160, 83, 116, 46, 32, 74, 101, 97, 110, 44] = [49, 50, 45, 65, 32, 82, 85, 69, 32, 83, 84, 32, 74, 69, 65, 78] := by decide +kernel
  exact beq_iff_eq.2 this
theorem step1 (w : World) (hw : Rdy w) : Calls Tryd.prog 13 #[.string ⟨#[195, 132, 120, 195, 159]⟩] w fun e w' => ∃ S : ByteArray, e = .returned (.string S) ∧ (S.toList == [65, 69, 88, 83, 83]) = true ∧ Below w.heap.size w w' := by
  refine (fold_any ⟨#[195, 132, 120, 195, 159]⟩ w hw (by decide)).mono ?_
  rintro e w' ⟨rfl, hb⟩
  refine ⟨_, rfl, ?_, hb⟩
  rw [ByteArray.toList_eq]
  have : Fo.fold [195, 132, 120, 195, 159] = [65, 69, 88, 83, 83] := by decide +kernel
  exact beq_iff_eq.2 this
theorem step2 (w : World) (hw : Rdy w) : Calls Tryd.prog 13 #[.string ⟨#[195, 151]⟩] w fun e w' => ∃ S : ByteArray, e = .returned (.string S) ∧ (S.toList == []) = true ∧ Below w.heap.size w w' := by
  refine (fold_any ⟨#[195, 151]⟩ w hw (by decide)).mono ?_
  rintro e w' ⟨rfl, hb⟩
  refine ⟨_, rfl, ?_, hb⟩
  rw [ByteArray.toList_eq]
  have : Fo.fold [195, 151] = [] := by decide +kernel
  exact beq_iff_eq.2 this
theorem step3 (w : World) (hw : Rdy w) : Calls Tryd.prog 13 #[.string ⟨#[195]⟩] w fun e w' => ∃ S : ByteArray, e = .returned (.string S) ∧ (S.toList == []) = true ∧ Below w.heap.size w w' := by
  refine (fold_any ⟨#[195]⟩ w hw (by decide)).mono ?_
  rintro e w' ⟨rfl, hb⟩
  refine ⟨_, rfl, ?_, hb⟩
  rw [ByteArray.toList_eq]
  have : Fo.fold [195] = [] := by decide +kernel
  exact beq_iff_eq.2 this
theorem step4 (w : World) (hw : Rdy w) : Calls Tryd.prog 24 #[.int .u8 2, .string ⟨#[65, 86, 69, 78, 85, 69]⟩] w fun e w' => ∃ S : ByteArray, e = .returned (.tuple #[.string S, .bool true]) ∧ (S.toList == [65, 86, 69]) = true ∧ Below w.heap.size w w' := by
  have h1 : Fo.short 2 [65, 86, 69, 78, 85, 69] = [65, 86, 69] := by decide +kernel
  have h2 : Fo.hasShort 2 [65, 86, 69, 78, 85, 69] = true := by decide +kernel
  have hq := short_any 2 ⟨#[65, 86, 69, 78, 85, 69]⟩ w hw
  unfold PostShort at hq
  rw [show (⟨#[65, 86, 69, 78, 85, 69]⟩ : ByteArray).data.toList = [65, 86, 69, 78, 85, 69] from rfl, h1, h2] at hq
  refine hq.mono ?_
  rintro e w' ⟨rfl, hb⟩
  exact ⟨_, rfl, by rw [ByteArray.toList_eq]; rfl, hb⟩
theorem step5 (w : World) (hw : Rdy w) : Calls Tryd.prog 24 #[.int .u8 2, .string ⟨#[83, 84]⟩] w fun e w' => ∃ S : ByteArray, e = .returned (.tuple #[.string S, .bool false]) ∧ (S.toList == []) = true ∧ Below w.heap.size w w' := by
  have h1 : Fo.short 2 [83, 84] = [] := by decide +kernel
  have h2 : Fo.hasShort 2 [83, 84] = false := by decide +kernel
  have hq := short_any 2 ⟨#[83, 84]⟩ w hw
  unfold PostShort at hq
  rw [show (⟨#[83, 84]⟩ : ByteArray).data.toList = [83, 84] from rfl, h1, h2] at hq
  refine hq.mono ?_
  rintro e w' ⟨rfl, hb⟩
  exact ⟨_, rfl, by rw [ByteArray.toList_eq]; rfl, hb⟩
theorem step6 (w : World) (hw : Rdy w) : Calls Tryd.prog 23 #[.string ⟨#[83, 84]⟩] w fun e w' => e = .returned (.int .u8 36) ∧ Below w.heap.size w w' := by
  have h1 : Fo.kinds [83, 84] = 36 := by decide +kernel
  have hq := kinds_any ⟨#[83, 84]⟩ w hw
  unfold PostU8 at hq
  rw [show (⟨#[83, 84]⟩ : ByteArray).data.toList = [83, 84] from rfl, h1] at hq
  exact hq
theorem step7 (w : World) (hw : Rdy w) : Calls Tryd.prog 23 #[.string ⟨#[88]⟩] w fun e w' => e = .returned (.int .u8 0) ∧ Below w.heap.size w w' := by
  have h1 : Fo.kinds [88] = 0 := by decide +kernel
  have hq := kinds_any ⟨#[88]⟩ w hw
  unfold PostU8 at hq
  rw [show (⟨#[88]⟩ : ByteArray).data.toList = [88] from rfl, h1] at hq
  exact hq
theorem step8 (w : World) (hw : Rdy w) : Calls Tryd.prog 20 #[.int .u8 2, .string ⟨#[80, 76, 65, 84, 90]⟩, .string ⟨#[80, 76, 65, 67, 69]⟩] w fun e w' => e = .returned (.bool false) ∧ Below w.heap.size w w' := by
  have h1 : Fo.same 2 [80, 76, 65, 84, 90] [80, 76, 65, 67, 69] = false := by decide +kernel
  have hq := same_any 2 ⟨#[80, 76, 65, 84, 90]⟩ ⟨#[80, 76, 65, 67, 69]⟩ w hw
  unfold PostB at hq
  rw [show (⟨#[80, 76, 65, 84, 90]⟩ : ByteArray).data.toList = [80, 76, 65, 84, 90] from rfl, show (⟨#[80, 76, 65, 67, 69]⟩ : ByteArray).data.toList = [80, 76, 65, 67, 69] from rfl, h1] at hq
  exact hq
theorem step9 (w : World) (hw : Rdy w) : Calls Tryd.prog 20 #[.int .u8 2, .string ⟨#[80, 76]⟩, .string ⟨#[80, 76, 65, 67, 69]⟩] w fun e w' => e = .returned (.bool true) ∧ Below w.heap.size w w' := by
  have h1 : Fo.same 2 [80, 76] [80, 76, 65, 67, 69] = true := by decide +kernel
  have hq := same_any 2 ⟨#[80, 76]⟩ ⟨#[80, 76, 65, 67, 69]⟩ w hw
  unfold PostB at hq
  rw [show (⟨#[80, 76]⟩ : ByteArray).data.toList = [80, 76] from rfl, show (⟨#[80, 76, 65, 67, 69]⟩ : ByteArray).data.toList = [80, 76, 65, 67, 69] from rfl, h1] at hq
  exact hq
theorem step10 (w : World) (hw : Rdy w) : Calls Tryd.prog 20 #[.int .u8 0, .string ⟨#[83, 84]⟩, .string ⟨#[83, 65, 73, 78, 84]⟩] w fun e w' => e = .returned (.bool true) ∧ Below w.heap.size w w' := by
  have h1 : Fo.same 0 [83, 84] [83, 65, 73, 78, 84] = true := by decide +kernel
  have hq := same_any 0 ⟨#[83, 84]⟩ ⟨#[83, 65, 73, 78, 84]⟩ w hw
  unfold PostB at hq
  rw [show (⟨#[83, 84]⟩ : ByteArray).data.toList = [83, 84] from rfl, show (⟨#[83, 65, 73, 78, 84]⟩ : ByteArray).data.toList = [83, 65, 73, 78, 84] from rfl, h1] at hq
  exact hq
theorem step11 (w : World) (hw : Rdy w) : Calls Tryd.prog 22 #[.int .u8 0, .string ⟨#[83, 84]⟩] w (PostStrs [[83, 84, 82, 69, 69, 84], [83, 65, 73, 78, 84]] w) := by
  have h1 : Fo.longs 0 [83, 84] = [[83, 84, 82, 69, 69, 84], [83, 65, 73, 78, 84]] := by decide +kernel
  have hq := longs_any 0 ⟨#[83, 84]⟩ w hw
  rw [show (⟨#[83, 84]⟩ : ByteArray).data.toList = [83, 84] from rfl, h1] at hq
  exact hq
theorem step12 (w : World) (hw : Rdy w) : Calls Tryd.prog 22 #[.int .u8 5, .string ⟨#[83, 84]⟩] w (PostStrs [[83, 65, 73, 78, 84]] w) := by
  have h1 : Fo.longs 5 [83, 84] = [[83, 65, 73, 78, 84]] := by decide +kernel
  have hq := longs_any 5 ⟨#[83, 84]⟩ w hw
  rw [show (⟨#[83, 84]⟩ : ByteArray).data.toList = [83, 84] from rfl, h1] at hq
  exact hq
theorem step13 (w : World) (hw : Rdy w) : Calls Tryd.prog 22 #[.int .u8 2, .string ⟨#[65, 86, 69, 78, 85, 69]⟩] w (PostStrs [[65, 86, 69, 78, 85, 69]] w) := by
  have h1 : Fo.longs 2 [65, 86, 69, 78, 85, 69] = [[65, 86, 69, 78, 85, 69]] := by decide +kernel
  have hq := longs_any 2 ⟨#[65, 86, 69, 78, 85, 69]⟩ w hw
  rw [show (⟨#[65, 86, 69, 78, 85, 69]⟩ : ByteArray).data.toList = [65, 86, 69, 78, 85, 69] from rfl, h1] at hq
  exact hq
theorem step14 (w : World) (hw : Rdy w) : Calls Tryd.prog 22 #[.int .u8 2, .string ⟨#[80, 76]⟩] w (PostStrs [[80, 76, 65, 67, 69], [80, 76, 65, 84, 90]] w) := by
  have h1 : Fo.longs 2 [80, 76] = [[80, 76, 65, 67, 69], [80, 76, 65, 84, 90]] := by decide +kernel
  have hq := longs_any 2 ⟨#[80, 76]⟩ w hw
  rw [show (⟨#[80, 76]⟩ : ByteArray).data.toList = [80, 76] from rfl, h1] at hq
  exact hq
set_option maxRecDepth 100000 in
set_option maxHeartbeats 8000000 in
theorem awake_any (w : World) (hw : Rdy w) : Calls Tryd.prog 12 #[] w (PostB true w) := by
  have HB0 := Lib.hid (Below.refl w.heap.size w)
  have HR0 := Lib.hid hw
  clear hw
  go_enter Tryd.func12, Tryd.ntmps12
  go_wp2_with (first
    | (go_at_call 13; (with_reducible refine (step0 w HR0.out).mono ?_); rintro e w1 ⟨S0, rfl, s0, hb⟩; have B0 := Lib.hid (below_next HB0.out hb); have R0 := Lib.hid (HR0.out.below hb); clear hb)
    | (go_at_call 13; (with_reducible refine (step1 w1 R0.out).mono ?_); rintro e w2 ⟨S1, rfl, s1, hb⟩; have B1 := Lib.hid (below_next B0.out hb); have R1 := Lib.hid (R0.out.below hb); clear hb)
    | (go_at_call 13; (with_reducible refine (step2 w2 R1.out).mono ?_); rintro e w3 ⟨S2, rfl, s2, hb⟩; have B2 := Lib.hid (below_next B1.out hb); have R2 := Lib.hid (R1.out.below hb); clear hb)
    | (go_at_call 13; (with_reducible refine (step3 w3 R2.out).mono ?_); rintro e w4 ⟨S3, rfl, s3, hb⟩; have B3 := Lib.hid (below_next B2.out hb); have R3 := Lib.hid (R2.out.below hb); clear hb)
    | (go_at_call 24; (with_reducible refine (step4 w4 R3.out).mono ?_); rintro e w5 ⟨S4, rfl, s4, hb⟩; have B4 := Lib.hid (below_next B3.out hb); have R4 := Lib.hid (R3.out.below hb); clear hb)
    | (go_at_call 24; (with_reducible refine (step5 w5 R4.out).mono ?_); rintro e w6 ⟨S5, rfl, s5, hb⟩; have B5 := Lib.hid (below_next B4.out hb); have R5 := Lib.hid (R4.out.below hb); clear hb)
    | (go_at_call 23; (with_reducible refine (step6 w6 R5.out).mono ?_); rintro e w7 ⟨rfl, hb⟩; have B6 := Lib.hid (below_next B5.out hb); have R6 := Lib.hid (R5.out.below hb); clear hb)
    | (go_at_call 23; (with_reducible refine (step7 w7 R6.out).mono ?_); rintro e w8 ⟨rfl, hb⟩; have B7 := Lib.hid (below_next B6.out hb); have R7 := Lib.hid (R6.out.below hb); clear hb)
    | (go_at_call 20; (with_reducible refine (step8 w8 R7.out).mono ?_); rintro e w9 ⟨rfl, hb⟩; have B8 := Lib.hid (below_next B7.out hb); have R8 := Lib.hid (R7.out.below hb); clear hb)
    | (go_at_call 20; (with_reducible refine (step9 w9 R8.out).mono ?_); rintro e w10 ⟨rfl, hb⟩; have B9 := Lib.hid (below_next B8.out hb); have R9 := Lib.hid (R8.out.below hb); clear hb)
    | (go_at_call 20; (with_reducible refine (step10 w10 R9.out).mono ?_); rintro e w11 ⟨rfl, hb⟩; have B10 := Lib.hid (below_next B9.out hb); have R10 := Lib.hid (R9.out.below hb); clear hb)
    | (go_at_call 22; (with_reducible refine (step11 w11 R10.out).mono ?_); rintro e w12 ⟨A11, n11, c11, rfl, h, hb⟩; have M11 := Lib.hid (h.rd.below (below_new w12 (.cells #[.string ⟨#[83, 84, 82, 69, 69, 84]⟩, .string ⟨#[83, 65, 73, 78, 84]⟩] 9))); have L11 := Lib.hid h.len; have T11 : Hid (RdS (w12.alloc (.cells #[.string ⟨#[83, 84, 82, 69, 69, 84]⟩, .string ⟨#[83, 65, 73, 78, 84]⟩] 9)) (some ⟨w12.heap.size, 0, none⟩) [[83, 84, 82, 69, 69, 84], [83, 65, 73, 78, 84]]) := Lib.hid (rdS_new2 w12 ⟨#[83, 84, 82, 69, 69, 84]⟩ ⟨#[83, 65, 73, 78, 84]⟩); have B11 := Lib.hid (below_next B10.out hb); have R11 := Lib.hid (R10.out.below hb); clear hb)
    | (go_at_call 26; (with_reducible refine (sameT_any A11 (some ⟨w12.heap.size, 0, none⟩) n11 c11 2 2 [[83, 84, 82, 69, 69, 84], [83, 65, 73, 78, 84]] (w12.alloc (.cells #[.string ⟨#[83, 84, 82, 69, 69, 84]⟩, .string ⟨#[83, 65, 73, 78, 84]⟩] 9)) L11.out rfl (by decide) M11.out T11.out).mono ?_); rintro e v11 ⟨rfl, hb⟩; have C11 := Lib.hid (below_next (B11.out.alloc B11.out.size (.cells #[.string ⟨#[83, 84, 82, 69, 69, 84]⟩, .string ⟨#[83, 65, 73, 78, 84]⟩] 9)) hb); have Q11 := Lib.hid ((R11.out.below (below_new w12 (.cells #[.string ⟨#[83, 84, 82, 69, 69, 84]⟩, .string ⟨#[83, 65, 73, 78, 84]⟩] 9))).below hb); clear hb)
    | (go_at_call 22; (with_reducible refine (step12 v11 Q11.out).mono ?_); rintro e w13 ⟨A12, n12, c12, rfl, h, hb⟩; have M12 := Lib.hid (h.rd.below (below_new w13 (.cells #[.string ⟨#[83, 65, 73, 78, 84]⟩] 9))); have L12 := Lib.hid h.len; have T12 : Hid (RdS (w13.alloc (.cells #[.string ⟨#[83, 65, 73, 78, 84]⟩] 9)) (some ⟨w13.heap.size, 0, none⟩) [[83, 65, 73, 78, 84]]) := Lib.hid (rdS_new1 w13 ⟨#[83, 65, 73, 78, 84]⟩); have B12 := Lib.hid (below_next C11.out hb); have R12 := Lib.hid (Q11.out.below hb); clear hb)
    | (go_at_call 26; (with_reducible refine (sameT_any A12 (some ⟨w13.heap.size, 0, none⟩) n12 c12 1 1 [[83, 65, 73, 78, 84]] (w13.alloc (.cells #[.string ⟨#[83, 65, 73, 78, 84]⟩] 9)) L12.out rfl (by decide) M12.out T12.out).mono ?_); rintro e v12 ⟨rfl, hb⟩; have C12 := Lib.hid (below_next (B12.out.alloc B12.out.size (.cells #[.string ⟨#[83, 65, 73, 78, 84]⟩] 9)) hb); have Q12 := Lib.hid ((R12.out.below (below_new w13 (.cells #[.string ⟨#[83, 65, 73, 78, 84]⟩] 9))).below hb); clear hb)
    | (go_at_call 22; (with_reducible refine (step13 v12 Q12.out).mono ?_); rintro e w14 ⟨A13, n13, c13, rfl, h, hb⟩; have M13 := Lib.hid (h.rd.below (below_new w14 (.cells #[.string ⟨#[65, 86, 69, 78, 85, 69]⟩] 9))); have L13 := Lib.hid h.len; have T13 : Hid (RdS (w14.alloc (.cells #[.string ⟨#[65, 86, 69, 78, 85, 69]⟩] 9)) (some ⟨w14.heap.size, 0, none⟩) [[65, 86, 69, 78, 85, 69]]) := Lib.hid (rdS_new1 w14 ⟨#[65, 86, 69, 78, 85, 69]⟩); have B13 := Lib.hid (below_next C12.out hb); have R13 := Lib.hid (Q12.out.below hb); clear hb)
    | (go_at_call 26; (with_reducible refine (sameT_any A13 (some ⟨w14.heap.size, 0, none⟩) n13 c13 1 1 [[65, 86, 69, 78, 85, 69]] (w14.alloc (.cells #[.string ⟨#[65, 86, 69, 78, 85, 69]⟩] 9)) L13.out rfl (by decide) M13.out T13.out).mono ?_); rintro e v13 ⟨rfl, hb⟩; have C13 := Lib.hid (below_next (B13.out.alloc B13.out.size (.cells #[.string ⟨#[65, 86, 69, 78, 85, 69]⟩] 9)) hb); have Q13 := Lib.hid ((R13.out.below (below_new w14 (.cells #[.string ⟨#[65, 86, 69, 78, 85, 69]⟩] 9))).below hb); clear hb)
    | (go_at_call 22; (with_reducible refine (step14 v13 Q13.out).mono ?_); rintro e w15 ⟨A14, n14, c14, rfl, h, hb⟩; have M14 := Lib.hid (h.rd.below (below_new w15 (.cells #[.string ⟨#[80, 76, 65, 67, 69]⟩, .string ⟨#[80, 76, 65, 84, 90]⟩] 9))); have L14 := Lib.hid h.len; have T14 : Hid (RdS (w15.alloc (.cells #[.string ⟨#[80, 76, 65, 67, 69]⟩, .string ⟨#[80, 76, 65, 84, 90]⟩] 9)) (some ⟨w15.heap.size, 0, none⟩) [[80, 76, 65, 67, 69], [80, 76, 65, 84, 90]]) := Lib.hid (rdS_new2 w15 ⟨#[80, 76, 65, 67, 69]⟩ ⟨#[80, 76, 65, 84, 90]⟩); have B14 := Lib.hid (below_next C13.out hb); have R14 := Lib.hid (Q13.out.below hb); clear hb)
    | (go_at_call 26; (with_reducible refine (sameT_any A14 (some ⟨w15.heap.size, 0, none⟩) n14 c14 2 2 [[80, 76, 65, 67, 69], [80, 76, 65, 84, 90]] (w15.alloc (.cells #[.string ⟨#[80, 76, 65, 67, 69]⟩, .string ⟨#[80, 76, 65, 84, 90]⟩] 9)) L14.out rfl (by decide) M14.out T14.out).mono ?_); rintro e v14 ⟨rfl, hb⟩; have C14 := Lib.hid (below_next (B14.out.alloc B14.out.size (.cells #[.string ⟨#[80, 76, 65, 67, 69]⟩, .string ⟨#[80, 76, 65, 84, 90]⟩] 9)) hb); have Q14 := Lib.hid ((R14.out.below (below_new w15 (.cells #[.string ⟨#[80, 76, 65, 67, 69]⟩, .string ⟨#[80, 76, 65, 84, 90]⟩] 9))).below hb); clear hb))
  go_ret
  exact ⟨rfl, C14.out⟩
end Go.Proofs.YtoenaehkhdcdmaaDoor
