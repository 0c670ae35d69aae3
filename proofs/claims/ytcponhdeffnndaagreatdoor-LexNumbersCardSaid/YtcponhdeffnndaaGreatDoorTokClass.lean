/-
  Tests of words: with a letter, names, flats, kinds, patterns.
-/
import Derived.Test.YtcponhdeffnndaaGreatDoorTokWord
namespace Go.Proofs.YtcponhdeffnndaaGreatDoor
open Go.RowKit
set_option linter.unusedVariables false
set_option linter.unusedSimpArgs false

theorem empty_of (l : List UInt8) : ((⟨l.toArray⟩ : ByteArray).toList == []) = l.isEmpty := by
  rw [ByteArray.toList_eq]
  cases l <;> rfl
theorem data_of (l : List UInt8) : (⟨l.toArray⟩ : ByteArray).data.toList = l := rfl
theorem size_of (l : List UInt8) : (⟨l.toArray⟩ : ByteArray).size = l.length := by show Array.size _ = _; simp
theorem cut_len (w : List UInt8) : (Tk.cutD w).length ≤ w.length ∧ (Tk.cutL w).length ≤ w.length := by
  unfold Tk.cutD Tk.cutL
  constructor <;> split <;> simp <;> omega
set_option maxHeartbeats 1000000 in
theorem isLettered_any (s : ByteArray) (w : World) (hs : s.size ≤ 100000000) : Calls Tryz.prog 136 #[.string s] w (PostB (Tk.lettered s.data.toList) w) := by
  have hl : s.data.toList.length = s.size := by simp
  obtain ⟨l1, l2⟩ := cut_len s.data.toList
  have q1 := cutLetter_any s w hs
  have q2 := fun V => isNumber_any ⟨(Tk.cutD s.data.toList).toArray⟩ V (by rw [size_of]; omega)
  have e := empty_of (Tk.cutL s.data.toList)
  rw [data_of] at q2
  unfold PostCut strV at q1
  unfold Tk.lettered
  generalize Tk.num (Tk.cutD s.data.toList) = N at *
  obtain ⟨DB, hDB⟩ : ∃ DB : ByteArray, DB = ⟨(Tk.cutD s.data.toList).toArray⟩ := ⟨_, rfl⟩
  obtain ⟨LB, hLB⟩ : ∃ LB : ByteArray, LB = ⟨(Tk.cutL s.data.toList).toArray⟩ := ⟨_, rfl⟩
  rw [← hDB] at q1 q2
  rw [← hLB] at q1 e
  generalize (Tk.cutL s.data.toList).isEmpty = E at *
  have Q1 := Lib.hid q1; have Q2 := Lib.hid q2
  clear q1 q2 hDB hLB hl l1 l2
  cases E
  all_goals
    go_enter Tryz.func136, Tryz.ntmps136
    go_wp2_with (first
      | (go_at_call 72; (with_reducible refine Q1.out.mono ?_); rintro e w1 ⟨rfl, hb⟩; have B1 := Lib.hid hb; clear hb)
      | (go_at_call 73; (with_reducible refine (Q2.out w1).mono ?_); rintro e w2 ⟨rfl, hb⟩; have B2 := Lib.hid (below_next B1.out hb); clear hb))
    all_goals go_ret
    all_goals exact ⟨rfl, by first | exact B2.out | exact B1.out⟩
theorem isName_any (s : ByteArray) (w : World) (hs : s.size ≤ 100000000) : Calls Tryz.prog 137 #[.string s] w (PostB (Tk.name s.data.toList) w) := by
  have q1 := all_any s 227 Tk.isS w isS_fits hs
  have q2 := fun V => all_any s 228 Tk.isN V isN_fits hs
  unfold Tk.name
  generalize s.data.toList.all Tk.isS = a at *
  generalize s.data.toList.all Tk.isN = b at *
  have Q1 := Lib.hid q1; have Q2 := Lib.hid q2
  clear q1 q2
  cases a
  all_goals
    go_enter Tryz.func137, Tryz.ntmps137
    go_wp2_with (first
      | (go_at_call 153; (with_reducible refine Q1.out.mono ?_); rintro e w1 ⟨rfl, hb⟩; have B1 := Lib.hid hb; clear hb)
      | (go_at_call 153; (with_reducible refine (Q2.out w1).mono ?_); rintro e w2 ⟨rfl, hb⟩; have B2 := Lib.hid (below_next B1.out hb); clear hb))
    all_goals go_ret
    all_goals exact ⟨rfl, by first | exact B2.out | exact B1.out⟩
theorem isFlat_any (s : ByteArray) (w : World) (hs : s.size ≤ 100000000) : Calls Tryz.prog 139 #[.string s] w (PostB (Tk.flat s.data.toList) w) := by
  have q1 := isShort_any s w
  have q2 := fun V => all_any s 230 Tk.isLD V isLD_fits hs
  unfold Tk.flat
  generalize Tk.shortW s.data.toList = a at *
  generalize s.data.toList.all Tk.isLD = b at *
  have Q1 := Lib.hid q1; have Q2 := Lib.hid q2
  clear q1 q2
  cases a
  all_goals
    go_enter Tryz.func139, Tryz.ntmps139
    go_wp2_with (first
      | (go_at_call 152; (with_reducible refine Q1.out.mono ?_); rintro e w1 ⟨rfl, hb⟩; have B1 := Lib.hid hb; clear hb)
      | (go_at_call 153; (with_reducible refine (Q2.out w1).mono ?_); rintro e w2 ⟨rfl, hb⟩; have B2 := Lib.hid (below_next B1.out hb); clear hb))
    all_goals go_ret
    all_goals exact ⟨rfl, by first | exact B2.out | exact B1.out⟩
theorem hasKind_any (k : Nat) (w : World) : Calls Tryz.prog 138 #[.int .u8 k] w fun e w' => e = .returned (.func (.func 229) #[] #[.pointer (some ⟨w.heap.size, 0, none⟩)]) ∧ w' = w.alloc (.cells #[.int .u8 k] 5) := by
  go_enter Tryz.func138, Tryz.ntmps138
  go_wp2
  go_ret
  exact ⟨rfl, rfl⟩
theorem kinds_le (z : List UInt8) : Fo.kinds z ≤ 62 := by
  have := Fo.upTo_le z 5
  rw [Fo.kinds_upTo]; omega
set_option maxHeartbeats 1000000 in
theorem kind1_1 (b : Nat) (s : ByteArray) (w : World) (hw : Rdy w) (hc : w.cell? ⟨b, 0, none⟩ = some (.int .u8 1)) :
    Calls Tryz.prog 229 #[.string s, .pointer (some ⟨b, 0, none⟩)] w (PostB (Tk.hasK 1 s.data.toList) w) := by
  have q1 := fun V (h : Rdy V) => kinds_any s V h
  have hle := kinds_le s.data.toList
  unfold Tk.hasK
  generalize Fo.kinds s.data.toList = K at *
  have Q1 := Lib.hid q1
  have RD := Lib.hid (show Rdy w.drew from hw.below (Below.refl _ _).drew)
  have BD := Lib.hid (show Below w.heap.size w w.drew from (Below.refl _ _).drew)
  have HC := Lib.hid (show w.drew.cell? ⟨b, 0, none⟩ = some (.int .u8 1) from hc)
  have HLe := Lib.hid hle
  clear q1 hw hle
  go_enter Tryz.func229, Tryz.ntmps229
  go_wp2
  go_region_held3 (fun V => V.cell? ⟨b, 0, none⟩ = some (.int .u8 1))
    (first | exact hc1 | exact hc)
    (first | (go_at_call 33; (with_reducible refine (Q1.out _ RD.out).mono ?_); rintro e w1 ⟨rfl, hb⟩; have B1 := Lib.hid (below_next BD.out hb); have hc1 := cell_keep HC.out hb; clear hb))
  all_goals go_wp2
  all_goals go_ret
  all_goals refine ⟨ret_bool ?_, B1.out⟩
  have H : ∀ K : Nat, K < 63 → (bits BinOp.and IntKind.u8 (K : Int) (IntKind.u8.wrap 2) != 0) = decide (K / 2 ^ 1 % 2 = 1) := by decide +kernel
  exact H K (by have := HLe.out; omega)
set_option maxHeartbeats 1000000 in
theorem kind1_2 (b : Nat) (s : ByteArray) (w : World) (hw : Rdy w) (hc : w.cell? ⟨b, 0, none⟩ = some (.int .u8 2)) :
    Calls Tryz.prog 229 #[.string s, .pointer (some ⟨b, 0, none⟩)] w (PostB (Tk.hasK 2 s.data.toList) w) := by
  have q1 := fun V (h : Rdy V) => kinds_any s V h
  have hle := kinds_le s.data.toList
  unfold Tk.hasK
  generalize Fo.kinds s.data.toList = K at *
  have Q1 := Lib.hid q1
  have RD := Lib.hid (show Rdy w.drew from hw.below (Below.refl _ _).drew)
  have BD := Lib.hid (show Below w.heap.size w w.drew from (Below.refl _ _).drew)
  have HC := Lib.hid (show w.drew.cell? ⟨b, 0, none⟩ = some (.int .u8 2) from hc)
  have HLe := Lib.hid hle
  clear q1 hw hle
  go_enter Tryz.func229, Tryz.ntmps229
  go_wp2
  go_region_held3 (fun V => V.cell? ⟨b, 0, none⟩ = some (.int .u8 2))
    (first | exact hc1 | exact hc)
    (first | (go_at_call 33; (with_reducible refine (Q1.out _ RD.out).mono ?_); rintro e w1 ⟨rfl, hb⟩; have B1 := Lib.hid (below_next BD.out hb); have hc1 := cell_keep HC.out hb; clear hb))
  all_goals go_wp2
  all_goals go_ret
  all_goals refine ⟨ret_bool ?_, B1.out⟩
  have H : ∀ K : Nat, K < 63 → (bits BinOp.and IntKind.u8 (K : Int) (IntKind.u8.wrap 4) != 0) = decide (K / 2 ^ 2 % 2 = 1) := by decide +kernel
  exact H K (by have := HLe.out; omega)
set_option maxHeartbeats 1000000 in
theorem kind1_3 (b : Nat) (s : ByteArray) (w : World) (hw : Rdy w) (hc : w.cell? ⟨b, 0, none⟩ = some (.int .u8 3)) :
    Calls Tryz.prog 229 #[.string s, .pointer (some ⟨b, 0, none⟩)] w (PostB (Tk.hasK 3 s.data.toList) w) := by
  have q1 := fun V (h : Rdy V) => kinds_any s V h
  have hle := kinds_le s.data.toList
  unfold Tk.hasK
  generalize Fo.kinds s.data.toList = K at *
  have Q1 := Lib.hid q1
  have RD := Lib.hid (show Rdy w.drew from hw.below (Below.refl _ _).drew)
  have BD := Lib.hid (show Below w.heap.size w w.drew from (Below.refl _ _).drew)
  have HC := Lib.hid (show w.drew.cell? ⟨b, 0, none⟩ = some (.int .u8 3) from hc)
  have HLe := Lib.hid hle
  clear q1 hw hle
  go_enter Tryz.func229, Tryz.ntmps229
  go_wp2
  go_region_held3 (fun V => V.cell? ⟨b, 0, none⟩ = some (.int .u8 3))
    (first | exact hc1 | exact hc)
    (first | (go_at_call 33; (with_reducible refine (Q1.out _ RD.out).mono ?_); rintro e w1 ⟨rfl, hb⟩; have B1 := Lib.hid (below_next BD.out hb); have hc1 := cell_keep HC.out hb; clear hb))
  all_goals go_wp2
  all_goals go_ret
  all_goals refine ⟨ret_bool ?_, B1.out⟩
  have H : ∀ K : Nat, K < 63 → (bits BinOp.and IntKind.u8 (K : Int) (IntKind.u8.wrap 8) != 0) = decide (K / 2 ^ 3 % 2 = 1) := by decide +kernel
  exact H K (by have := HLe.out; omega)
set_option maxHeartbeats 1000000 in
theorem kind1_4 (b : Nat) (s : ByteArray) (w : World) (hw : Rdy w) (hc : w.cell? ⟨b, 0, none⟩ = some (.int .u8 4)) :
    Calls Tryz.prog 229 #[.string s, .pointer (some ⟨b, 0, none⟩)] w (PostB (Tk.hasK 4 s.data.toList) w) := by
  have q1 := fun V (h : Rdy V) => kinds_any s V h
  have hle := kinds_le s.data.toList
  unfold Tk.hasK
  generalize Fo.kinds s.data.toList = K at *
  have Q1 := Lib.hid q1
  have RD := Lib.hid (show Rdy w.drew from hw.below (Below.refl _ _).drew)
  have BD := Lib.hid (show Below w.heap.size w w.drew from (Below.refl _ _).drew)
  have HC := Lib.hid (show w.drew.cell? ⟨b, 0, none⟩ = some (.int .u8 4) from hc)
  have HLe := Lib.hid hle
  clear q1 hw hle
  go_enter Tryz.func229, Tryz.ntmps229
  go_wp2
  go_region_held3 (fun V => V.cell? ⟨b, 0, none⟩ = some (.int .u8 4))
    (first | exact hc1 | exact hc)
    (first | (go_at_call 33; (with_reducible refine (Q1.out _ RD.out).mono ?_); rintro e w1 ⟨rfl, hb⟩; have B1 := Lib.hid (below_next BD.out hb); have hc1 := cell_keep HC.out hb; clear hb))
  all_goals go_wp2
  all_goals go_ret
  all_goals refine ⟨ret_bool ?_, B1.out⟩
  have H : ∀ K : Nat, K < 63 → (bits BinOp.and IntKind.u8 (K : Int) (IntKind.u8.wrap 16) != 0) = decide (K / 2 ^ 4 % 2 = 1) := by decide +kernel
  exact H K (by have := HLe.out; omega)
end Go.Proofs.YtcponhdeffnndaaGreatDoor
