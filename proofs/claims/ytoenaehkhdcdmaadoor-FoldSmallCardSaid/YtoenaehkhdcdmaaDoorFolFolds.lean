/-
  The law's folds, words, same.
-/
import Derived.Test.YtoenaehkhdcdmaaDoorFolRefC
import Derived.Test.YtoenaehkhdcdmaaDoorFolRefG
namespace Go.Proofs.YtoenaehkhdcdmaaDoor
open Go.RowKit
set_option linter.unusedVariables false
set_option linter.unusedSimpArgs false

set_option maxRecDepth 100000 in
set_option maxHeartbeats 8000000 in
theorem folds_any (s : ByteArray) (w : World) (hw : Rdy w) (hs : s.size ≤ 2000) : Calls Tryd.prog 8 #[.string s] w (PostB true w) := by
  have q1 := fun V (h : Rdy V) => fold_any s V h (by omega)
  have q2 := fun V => foldRef_any s V (by omega)
  have q3 := fun V (h : Rdy V) => right_any s V h (by omega)
  have q4 := fun V => words_any s V (by omega)
  have q5 := fun V => wordsRef_any s V (by omega)
  have hwl := words_len2 s.data.toList []
  have hL : s.data.toList.length = s.size := by simp
  have hwn : (Fo.words s.data.toList).length ≤ 3000 := by unfold Fo.words; omega
  obtain ⟨FB, hFB⟩ : ∃ FB : ByteArray, FB = ⟨(Fo.fold s.data.toList).toArray⟩ := ⟨_, rfl⟩
  have hE : (FB.toList == s.toList) = (Fo.fold s.data.toList == s.data.toList) := by rw [ByteArray.toList_eq, ByteArray.toList_eq, hFB]
  unfold PostStr at q1 q2
  rw [← hFB] at q1 q2
  rw [← hE] at q3
  have hFF : (FB.toList == FB.toList) = true := beq_self_eq_true _
  generalize Fo.words s.data.toList = l at *
  have Q1 := Lib.hid q1; have Q2 := Lib.hid q2; have Q3 := Lib.hid q3; have Q4 := Lib.hid q4; have Q5 := Lib.hid q5; have HWN := Lib.hid hwn
  have R0 := Lib.hid hw
  clear q1 q2 q3 q4 q5 hwl hL hwn hE hFB hw
  go_enter Tryd.func8, Tryd.ntmps8
  go_wp2_with (first
    | (go_at_call 13; (with_reducible refine (Q1.out w R0.out).mono ?_); rintro e w1 ⟨rfl, hb⟩; have B1 := Lib.hid hb; have R1 := Lib.hid (R0.out.below hb); clear hb)
    | (go_at_call 25; (with_reducible refine (Q2.out w1).mono ?_); rintro e w2 ⟨rfl, hb⟩; have B2 := Lib.hid (below_next B1.out hb); have R2 := Lib.hid (R1.out.below hb); clear hb)
    | (go_at_call 15; (with_reducible refine (Q3.out w2 R2.out).mono ?_); rintro e w3 ⟨rfl, hb⟩; have B3 := Lib.hid (below_next B2.out hb); clear hb)
    | (go_at_call 25; (with_reducible refine (Q2.out w3).mono ?_); rintro e w4 ⟨rfl, hb⟩; have B4 := Lib.hid (below_next B3.out hb); clear hb)
    | (go_at_call 17; (with_reducible refine (Q4.out w4).mono ?_); rintro e w5 ⟨A1, n1, c1, rfl, h, hb⟩; have S5 := Lib.hid h; have B5 := Lib.hid (below_next B4.out hb); clear h hb)
    | (go_at_call 27; (with_reducible refine (Q5.out w5).mono ?_); rintro e w6 ⟨A2, n2, c2, rfl, h, hb⟩; have S6 := Lib.hid h; have S5b := Lib.hid (S5.out.rd.below hb); have B6 := Lib.hid (below_next B5.out hb); clear h hb)
    | (go_at_call 26; (with_reducible refine (sameT_any A1 A2 n1 c1 n2 c2 l w6 S5.out.len S6.out.len (Nat.le_trans HWN.out (by decide)) S5b.out S6.out.rd).mono ?_); rintro e w7 ⟨rfl, hb⟩; have B7 := Lib.hid (below_next B6.out hb); clear hb))
  all_goals go_ret
  all_goals exact ⟨ret_bool (by simp), B7.out⟩

set_option maxRecDepth 100000 in
set_option maxHeartbeats 8000000 in
theorem wordsL_any (q : Nat) (a b : ByteArray) (w : World) (hw : Rdy w) : Calls Tryd.prog 11 #[.int .u8 q, .string a, .string b] w (PostB true w) := by
  have q1 := fun V (h : Rdy V) => short_any q a V h
  have q2 := fun V => shortRef_any q a V
  have q3 := fun V (h : Rdy V) => longs_any q a V h
  have q4 := fun V => longsRef_any q a V
  have q5 := fun V (h : Rdy V) => kinds_any a V h
  have q6 := fun V => kindsRef_any a V
  have q7 := fun V (h : Rdy V) => same_any q a b V h
  have q8 := fun V => sameRef_any q a b V
  have hln := longs_len q a.data.toList
  obtain ⟨SB, hSB⟩ : ∃ SB : ByteArray, SB = ⟨(Fo.short q a.data.toList).toArray⟩ := ⟨_, rfl⟩
  unfold PostShort at q1 q2
  rw [← hSB] at q1 q2
  have hSS : (SB.toList == SB.toList) = true := beq_self_eq_true _
  generalize Fo.hasShort q a.data.toList = H at *
  generalize Fo.longs q a.data.toList = l at *
  generalize Fo.kinds a.data.toList = K at *
  generalize Fo.same q a.data.toList b.data.toList = D at *
  have hHH : (H == H) = true := beq_self_eq_true _
  have hDD : (D == D) = true := beq_self_eq_true _
  have hKK : ((K : Int) == (K : Int)) = true := beq_self_eq_true _
  have Q1 := Lib.hid q1; have Q2 := Lib.hid q2; have Q3 := Lib.hid q3; have Q4 := Lib.hid q4; have Q5 := Lib.hid q5; have Q6 := Lib.hid q6; have Q7 := Lib.hid q7; have Q8 := Lib.hid q8; have HLN := Lib.hid hln
  have R0 := Lib.hid hw
  clear q1 q2 q3 q4 q5 q6 q7 q8 hSB hw hln
  go_enter Tryd.func11, Tryd.ntmps11
  go_wp2_with (first
    | (go_at_call 24; (with_reducible refine (Q1.out w R0.out).mono ?_); rintro e w1 ⟨rfl, hb⟩; have B1 := Lib.hid hb; have R1 := Lib.hid (R0.out.below hb); clear hb)
    | (go_at_call 29; (with_reducible refine (Q2.out w1).mono ?_); rintro e w2 ⟨rfl, hb⟩; have B2 := Lib.hid (below_next B1.out hb); have R2 := Lib.hid (R1.out.below hb); clear hb)
    | (go_at_call 22; (with_reducible refine (Q3.out w2 R2.out).mono ?_); rintro e w3 ⟨A1, n1, c1, rfl, h, hb⟩; have S3 := Lib.hid h; have B3 := Lib.hid (below_next B2.out hb); have R3 := Lib.hid (R2.out.below hb); clear h hb)
    | (go_at_call 30; (with_reducible refine (Q4.out w3).mono ?_); rintro e w4 ⟨A2, n2, c2, rfl, h, hb⟩; have S4 := Lib.hid h; have S3b := Lib.hid (S3.out.rd.below hb); have B4 := Lib.hid (below_next B3.out hb); have R4 := Lib.hid (R3.out.below hb); clear h hb)
    | (go_at_call 26; (with_reducible refine (sameT_any A1 A2 n1 c1 n2 c2 l w4 S3.out.len S4.out.len (Nat.le_trans HLN.out (by decide)) S3b.out S4.out.rd).mono ?_); rintro e w5 ⟨rfl, hb⟩; have B5 := Lib.hid (below_next B4.out hb); have R5 := Lib.hid (R4.out.below hb); clear hb)
    | (go_at_call 23; (with_reducible refine (Q5.out w5 R5.out).mono ?_); rintro e w6 ⟨rfl, hb⟩; have B6 := Lib.hid (below_next B5.out hb); have R6 := Lib.hid (R5.out.below hb); clear hb)
    | (go_at_call 31; (with_reducible refine (Q6.out w6).mono ?_); rintro e w7 ⟨rfl, hb⟩; have B7 := Lib.hid (below_next B6.out hb); have R7 := Lib.hid (R6.out.below hb); clear hb)
    | (go_at_call 20; (with_reducible refine (Q7.out w7 R7.out).mono ?_); rintro e w8 ⟨rfl, hb⟩; have B8 := Lib.hid (below_next B7.out hb); clear hb)
    | (go_at_call 32; (with_reducible refine (Q8.out w8).mono ?_); rintro e w9 ⟨rfl, hb⟩; have B9 := Lib.hid (below_next B8.out hb); clear hb))
  all_goals go_ret
  all_goals exact ⟨ret_bool (by simp), B9.out⟩

structure SameS (w wr : World) (g h : Nat) : Prop where
  bel : Below w.heap.size w wr
  one : Tab wr g
  two : Tab wr h
set_option maxRecDepth 100000 in
set_option maxHeartbeats 8000000 in
theorem sameTab_any (g c : Nat) (w : World) (hg : Tab w g) : Calls Tryd.prog 10 #[.slice (some ⟨g, 0, none⟩) 40 c] w (PostB true w) := by
  have HT := Lib.hid (tableRef_any w)
  have HG := Lib.hid hg
  clear hg
  go_enter Tryd.func10, Tryd.ntmps10
  go_wp2_with (go_at_call 28; (with_reducible refine HT.out.mono ?_); rintro e w1 ⟨h, rfl, hh, hhw, hb⟩; have H0 := Lib.hid (show SameS w w1 g h from ⟨hb, HG.out.below hb, Tab.of_block hh⟩); clear hh hhw hb)
  go_loopw [4] (fun s4 wr => ∃ k : Nat, s4 = .int .i64 k ∧ k ≤ 40 ∧ Hid (SameS w wr g h)) (fun s4 _ => 40 - (intOf s4).toNat)
  case atStart => exact ⟨0, rfl, by omega, H0⟩
  case round =>
    obtain ⟨k, rfl, hk, HS⟩ := hrel
    by_cases hlt : k < 40
    · have hlt2 : (k : Int) < 40 := by omega
      have hle : ¬ 40 ≤ k := by omega
      obtain ⟨d0, d1, d2⟩ := HS.out.one.2 k hlt
      obtain ⟨e0, e1, e2⟩ := HS.out.two.2 k hlt
      obtain ⟨⟨x, lx, ly⟩, hr⟩ : ∃ r, rowAt k = r := ⟨_, rfl⟩
      rw [hr] at d0 d1 d2 e0 e1 e2
      obtain ⟨X, hX⟩ : ∃ X : ByteArray, X = ⟨lx.toArray⟩ := ⟨_, rfl⟩
      obtain ⟨Y, hY⟩ : ∃ Y : ByteArray, Y = ⟨ly.toArray⟩ := ⟨_, rfl⟩
      rw [← hX] at d1 e1
      rw [← hY] at d2 e2
      have f1 : (X.toList == X.toList) = true := beq_self_eq_true _
      have f2 : (Y.toList == Y.toList) = true := beq_self_eq_true _
      clear hX hY hr
      go_wp2
      go_quiet (fail)
      go_wp2
      exact ⟨⟨k + 1, by go_num, by omega, Lib.hid ⟨below_drewN HS.out.bel _, HS.out.one, HS.out.two⟩⟩, by simp [intOf]; omega⟩
    · have hge : ¬ (k : Int) < 40 := by omega
      go_wp2
      go_ret
      exact ⟨rfl, HS.out.bel⟩
end Go.Proofs.YtoenaehkhdcdmaaDoor
