/-
  The walk of FoldSmall.
-/
import Derived.Test.YtoenaehkhdcdmaaDoorFolSmall0
namespace Go.Proofs.YtoenaehkhdcdmaaDoor
open Go.RowKit
set_option linter.unusedVariables false
set_option linter.unusedSimpArgs false

set_option maxRecDepth 100000 in
set_option maxHeartbeats 16000000 in
theorem walk_foldSmall (w : World) (hw : Rdy w) : Calls Tryd.prog 3 #[] w fun e w' => e = .returned (.bool true) ∧ Below w.heap.size w w' := by
  have HR := Lib.hid hw
  clear hw
  go_enter Tryd.func3, Tryd.ntmps3
  go_wp2
  go_loopw [1] (fun s1 wr => ∃ i : Nat, s1 = .int .i64 i ∧ i ≤ 65536 ∧ Hid (Below w.heap.size w wr)) (fun s1 _ => 65536 - (intOf s1).toNat)
  case atStart => exact ⟨0, rfl, by omega, Lib.hid (Below.refl _ _)⟩
  case round =>
    obtain ⟨i, rfl, hi, HB⟩ := hrel
    by_cases hlt : i < 65536
    · have hlt2 : (i : Int) < 65536 := by omega
      obtain ⟨S, hSs, hcv⟩ := conv_two8 wr i hlt
      have q1 := fun V (h : Rdy V) => folds_any S V h (by omega)
      have q2 := fun V (h : Rdy V) => folds_any ((⟨#[120]⟩ : ByteArray) ++ S ++ (⟨#[55]⟩ : ByteArray)) V h (by rw [ByteArray.size_append, ByteArray.size_append]; show 1 + _ + 1 ≤ _; omega)
      have q3 := fun V (h : Rdy V) => folds_any (S ++ S) V h (by rw [ByteArray.size_append]; omega)
      have hs2 : S.size ≤ 2 := by omega
      have hs2i : (S.size : Int) ≤ 2 := by omega
      have B0 := Lib.hid (HB.out.alloc HB.out.size (.cells #[.int .u8 ((i : Int) % 256), .int .u8 ((i : Int) / 256)] 5))
      have R0 := Lib.hid (HR.out.below B0.out)
      have Q1 := Lib.hid q1; have Q2 := Lib.hid q2; have Q3 := Lib.hid q3
      clear q1 q2 q3 hSs
      by_cases h7 : i % 7 = 0
      · have m1 : (((i : Int).tmod 7) == 0) = true := by rw [beq_iff_eq, Int.tmod_eq_emod_of_nonneg (by omega)]; omega
        have m2 : (((i : Int) % 7) == 0) = true := by rw [beq_iff_eq]; omega
        clear h7
        go_wp2_with (first
          | (go_at_call 8; (with_reducible refine (Q1.out _ R0.out).mono ?_); rintro e v1 ⟨rfl, hb⟩; have B1 := Lib.hid (below_next B0.out hb); have R1 := Lib.hid (R0.out.below hb); clear hb)
          | (go_at_call 8; (with_reducible refine (Q2.out v1 R1.out).mono ?_); rintro e v2 ⟨rfl, hb⟩; have B2 := Lib.hid (below_next B1.out hb); have R2 := Lib.hid (R1.out.below hb); clear hb)
          | (go_at_call 8; (with_reducible refine (Q3.out v2 R2.out).mono ?_); rintro e v3 ⟨rfl, hb⟩; have B3 := Lib.hid (below_next B2.out hb); have R3 := Lib.hid (R2.out.below hb); clear hb))
        go_roundw
        case rel => exact ⟨i + 1, by go_num, by omega, B3⟩
        case measure => simp [intOf]; omega
      · have m1 : (((i : Int).tmod 7) == 0) = false := by rw [beq_eq_false_iff_ne, Int.tmod_eq_emod_of_nonneg (by omega)]; omega
        have m2 : (((i : Int) % 7) == 0) = false := by rw [beq_eq_false_iff_ne]; omega
        clear h7
        go_wp2_with (first
          | (go_at_call 8; (with_reducible refine (Q1.out _ R0.out).mono ?_); rintro e v1 ⟨rfl, hb⟩; have B1 := Lib.hid (below_next B0.out hb); have R1 := Lib.hid (R0.out.below hb); clear hb))
        go_roundw
        case rel => exact ⟨i + 1, by go_num, by omega, B1⟩
        case measure => simp [intOf]; omega
    · have hge : ¬ (i : Int) < 65536 := by omega
      have R0 := Lib.hid (HR.out.below HB.out)
      have HT := Lib.hid (table_any wr R0.out)
      go_wp2_with (first
        | (go_at_call 9; (with_reducible refine HT.out.mono ?_); rintro e w1 ⟨g, rfl, hg, hgw, hb⟩; have H1 := Lib.hid (show SmS w w1 g from ⟨below_next HB.out hb, hg, Nat.le_trans HB.out.size hgw⟩); clear hg hgw hb)
        | (go_at_call 10; (with_reducible refine (sameTab_any g 40 w1 (Tab.of_block H1.out.tab)).mono ?_); rintro e w2 ⟨rfl, hb⟩; have H2 := Lib.hid (H1.out.next hb); clear hb))
      clear HT R0 HB H1
      go_loopw [4] (fun s4 wr => ∃ i : Nat, s4 = .int .i64 i ∧ i ≤ 40 ∧ Hid (SmS w wr g)) (fun s4 _ => 40 - (intOf s4).toNat)
      case atStart => exact ⟨0, rfl, by omega, H2⟩
      case round =>
        obtain ⟨i, rfl, hi, HS⟩ := hrel
        by_cases hlt : i < 40
        · have hlt2 : (i : Int) < 40 := by omega
          have hle : ¬ 40 ≤ i := by omega
          obtain ⟨wo, hwo⟩ : ∃ W, W = wr := ⟨_, rfl⟩
          rw [← hwo] at HS ⊢
          clear hwo
          go_wp2
          go_loopw [5] (fun s5 wr => ∃ k : Nat, s5 = .int .i64 k ∧ k ≤ 40 ∧ Hid (SmS w wr g)) (fun s5 _ => 40 - (intOf s5).toNat)
          case atStart => exact ⟨0, rfl, by omega, HS⟩
          case round =>
            obtain ⟨k, rfl, hk, HS2⟩ := hrel
            by_cases hkt : k < 40
            · have hkt2 : (k : Int) < 40 := by omega
              have hkle : ¬ 40 ≤ k := by omega
              obtain ⟨wo2, hwo⟩ : ∃ W, W = wr := ⟨_, rfl⟩
              rw [← hwo] at HS2 ⊢
              clear hwo
              go_wp2
              go_loopw [6] (fun s6 wr => ∃ q : Nat, s6 = .int .u8 q ∧ q ≤ 8 ∧ Hid (SmS w wr g)) (fun s6 _ => 8 - (intOf s6).toNat)
              case atStart => exact ⟨0, rfl, by omega, HS2⟩
              case round =>
                obtain ⟨q, rfl, hq, HS3⟩ := hrel
                by_cases hqt : q < 8
                · have hqt2 : (q : Int) < 8 := by omega
                  have hq4 := HS3.out.quad i k hlt hkt
                  obtain ⟨a, ha⟩ : ∃ a : ByteArray, a = ⟨(rowAt i).2.1.toArray⟩ := ⟨_, rfl⟩
                  obtain ⟨b, hb⟩ : ∃ b : ByteArray, b = ⟨(rowAt i).2.2.toArray⟩ := ⟨_, rfl⟩
                  obtain ⟨c, hc⟩ : ∃ c : ByteArray, c = ⟨(rowAt k).2.1.toArray⟩ := ⟨_, rfl⟩
                  obtain ⟨d, hd⟩ : ∃ d : ByteArray, d = ⟨(rowAt k).2.2.toArray⟩ := ⟨_, rfl⟩
                  rw [← ha, ← hb, ← hc, ← hd] at hq4
                  clear ha hb hc hd
                  have K1 := Lib.hid (fun V (h : Rdy V) => wordsL_any q a d V h)
                  have K2 := Lib.hid (fun V (h : Rdy V) => wordsL_any q b d V h)
                  have K3 := Lib.hid (fun V (h : Rdy V) => wordsL_any q b c V h)
                  have K4 := Lib.hid (fun V (h : Rdy V) => wordsL_any q a c V h)
                  have C0 := Lib.hid (show Below wr.heap.size wr wr.drew from below_drewN (Below.refl _ wr) 1)
                  have T0 := Lib.hid (show Rdy wr.drew from HR.out.below (below_next HS3.out.bel C0.out))
                  have Z0 := Lib.hid (show Q4 wr.drew g i k a b c d from hq4)
                  obtain ⟨o0, o1, o2, o3⟩ := hq4
                  go_wp2
                  go_region_held3 (fun V => V.cell? ⟨g, i * 3 + 1, none⟩ = some (.string a) ∧ V.cell? ⟨g, i * 3 + 2, none⟩ = some (.string b) ∧ V.cell? ⟨g, k * 3 + 1, none⟩ = some (.string c) ∧ V.cell? ⟨g, k * 3 + 2, none⟩ = some (.string d))
                    (first | exact ⟨s0, s1, s2, s3⟩ | exact ⟨r0, r1, r2, r3⟩ | exact ⟨q0, q1, q2, q3⟩ | exact ⟨p0, p1, p2, p3⟩ | exact ⟨o0, o1, o2, o3⟩)
                    (first
                      | (go_at_call 11; (with_reducible refine (K1.out _ T0.out).mono ?_); rintro e V1 ⟨rfl, hb⟩; have Z1 := Lib.hid (Z0.out.below hb); obtain ⟨p0, p1, p2, p3⟩ := Z0.out.below hb; have C1 := Lib.hid (below_next C0.out hb); have T1 := Lib.hid (T0.out.below hb); clear hb)
                      | (go_at_call 11; (with_reducible refine (K2.out _ T1.out).mono ?_); rintro e V2 ⟨rfl, hb⟩; have Z2 := Lib.hid (Z1.out.below hb); obtain ⟨q0, q1, q2, q3⟩ := Z1.out.below hb; have C2 := Lib.hid (below_next C1.out hb); have T2 := Lib.hid (T1.out.below hb); clear hb)
                      | (go_at_call 11; (with_reducible refine (K3.out _ T2.out).mono ?_); rintro e V3 ⟨rfl, hb⟩; have Z3 := Lib.hid (Z2.out.below hb); obtain ⟨r0, r1, r2, r3⟩ := Z2.out.below hb; have C3 := Lib.hid (below_next C2.out hb); have T3 := Lib.hid (T2.out.below hb); clear hb)
                      | (go_at_call 11; (with_reducible refine (K4.out _ T3.out).mono ?_); rintro e V4 ⟨rfl, hb⟩; have Z4 := Lib.hid (Z3.out.below hb); obtain ⟨s0, s1, s2, s3⟩ := Z3.out.below hb; have C4 := Lib.hid (below_next C3.out hb); have T4 := Lib.hid (T3.out.below hb); clear hb))
                  clear o0 o1 o2 o3 p0 p1 p2 p3 q0 q1 q2 q3 r0 r1 r2 r3 s0 s1 s2 s3
                  go_wp2
                  go_roundw
                  case rel => exact ⟨q + 1, by go_num, by omega, Lib.hid (HS3.out.next C4.out)⟩
                  case measure => simp [intOf]; omega
                · have hqt2 : ¬ (q : Int) < 8 := by omega
                  go_wp2
                  exact ⟨⟨k + 1, by go_num, by omega, HS3⟩, by simp [intOf]; omega⟩
            · have hkt2 : ¬ (k : Int) < 40 := by omega
              have hq4 := HS2.out.quad i i hlt hlt
              have hok := rows_OK _ (rowAt_mem i hlt)
              obtain ⟨a, ha⟩ : ∃ a : ByteArray, a = ⟨(rowAt i).2.1.toArray⟩ := ⟨_, rfl⟩
              obtain ⟨b, hb⟩ : ∃ b : ByteArray, b = ⟨(rowAt i).2.2.toArray⟩ := ⟨_, rfl⟩
              have hal : a.size ≤ 100 := by
                obtain ⟨_, _, _, _, _, _, _, _, _, h10, _⟩ := rowOK_of (x := (rowAt i).1) (lx := (rowAt i).2.1) (ly := (rowAt i).2.2) hok
                rw [ha]; show Array.size _ ≤ _; simpa using h10
              have hali : (a.size : Int) ≤ 100 := by omega
              have hg1 : ¬ 9223372036854775807 < a.size + 1 := by omega
              have hg2 : a.size + 1 ≤ 9223372036854775807 := by omega
              have hg3 : ¬ maxLen < a.size + 1 := by unfold maxLen; omega
              have hg4 : ¬ 9223372036854775807 < a.size + ByteArray.size ⟨#[83]⟩ := by show ¬ _ < a.size + 1; omega
              rw [← ha, ← hb] at hq4
              clear ha hb hok
              have k1 : ∀ V, Rdy V → Calls Tryd.prog 11 #[.int .u8 255, .string a, .string b] V (PostB true V) := fun V h => wordsL_any 255 a b V h
              have k2 : ∀ V, Rdy V → Calls Tryd.prog 11 #[.int .u8 0, .string (a ++ (⟨#[83]⟩ : ByteArray)), .string a] V (PostB true V) := fun V h => wordsL_any 0 (a ++ (⟨#[83]⟩ : ByteArray)) a V h
              have K1 := Lib.hid k1; have K2 := Lib.hid k2
              have C0 := Lib.hid (show Below wr.heap.size wr wr.drew from below_drewN (Below.refl _ wr) 1)
              have T0 := Lib.hid (show Rdy wr.drew from HR.out.below (below_next HS2.out.bel C0.out))
              have Z0 := Lib.hid (show Q4 wr.drew g i i a b a b from hq4)
              obtain ⟨o0, o1, o2, o3⟩ := hq4
              clear k1 k2
              go_wp2
              go_region_held3 (fun V => V.cell? ⟨g, i * 3 + 1, none⟩ = some (.string a) ∧ V.cell? ⟨g, i * 3 + 2, none⟩ = some (.string b) ∧ V.cell? ⟨g, i * 3 + 1, none⟩ = some (.string a) ∧ V.cell? ⟨g, i * 3 + 2, none⟩ = some (.string b))
                (first | exact ⟨q0, q1, q2, q3⟩ | exact ⟨p0, p1, p2, p3⟩ | exact ⟨o0, o1, o2, o3⟩)
                (first
                  | (go_at_call 11; (with_reducible refine (K1.out _ T0.out).mono ?_); rintro e V1 ⟨rfl, hb⟩; have Z1 := Lib.hid (Z0.out.below hb); obtain ⟨p0, p1, p2, p3⟩ := Z0.out.below hb; have C1 := Lib.hid (below_next C0.out hb); have T1 := Lib.hid (T0.out.below hb); clear hb)
                  | (go_at_call 11; (with_reducible refine (K2.out _ T1.out).mono ?_); rintro e V2 ⟨rfl, hb⟩; have Z2 := Lib.hid (Z1.out.below hb); obtain ⟨q0, q1, q2, q3⟩ := Z1.out.below hb; have C2 := Lib.hid (below_next C1.out hb); have T2 := Lib.hid (T1.out.below hb); clear hb))
              clear o0 o1 o2 o3 p0 p1 p2 p3 q0 q1 q2 q3
              go_wp2
              exact ⟨⟨i + 1, by go_num, by omega, Lib.hid (HS2.out.next C2.out)⟩, by simp [intOf]; omega⟩
        · have hge : ¬ (i : Int) < 40 := by omega
          have hz := res_facts0 HS.out.tab
          obtain ⟨⟨d0, d1, d2⟩, f0, f1, f2⟩ := hz
          have hb1 := ((HS.out.bel.setCell (p := ⟨g, 0, none⟩) HS.out.gw (.int .u8 0)).setCell (p := ⟨g, 1, none⟩) HS.out.gw (.string ⟨#[]⟩)).setCell (p := ⟨g, 2, none⟩) HS.out.gw (.string ⟨#[]⟩)
          obtain ⟨W1, hW1⟩ : ∃ W1, W1 = ((wr.setCell ⟨g, 0, none⟩ (.int .u8 0)).setCell ⟨g, 1, none⟩ (.string ⟨#[]⟩)).setCell ⟨g, 2, none⟩ (.string ⟨#[]⟩) := ⟨_, rfl⟩
          rw [← hW1] at hb1
          have HW1 := Lib.hid hW1
          have B1 := Lib.hid hb1
          have R1 := Lib.hid (HR.out.below hb1)
          have KT := Lib.hid table_any
          have AW := Lib.hid (fun V (h : Rdy V) => awake_any V h)
          clear hW1 hb1
          go_wp2_with (first
            | (go_at_call 9; rw [← HW1.out]; (with_reducible refine (KT.out W1 R1.out).mono ?_); rintro e w2 ⟨g2, rfl, hg, hgw, hb⟩; have B2 := Lib.hid (below_next B1.out hb); have G2 := Lib.hid ((below_new w2 (.cells #[.int .u8 9, .string ⟨#[]⟩, .string ⟨#[]⟩] 30)).block g2 (lt_of_heap hg) |>.trans hg); have B3 := Lib.hid ((below_next B1.out hb).alloc (below_next B1.out hb).size (.cells #[.int .u8 9, .string ⟨#[]⟩, .string ⟨#[]⟩] 30)); clear hg hgw hb)
            | (at_builtin; with_reducible refine wpList_app1r _ rfl _ _ rfl g2 _ rfl G2.out w2.heap.size _ _ _ rfl (heap_alloc_new w2 _) rfl rfl rfl ?_))
          intro g3 c3 w3 hc3 ht3 hgr
          have hc3i : (41 : Int) ≤ c3 := by omega
          have hc3j : (40 : Int) ≤ c3 := by omega
          have hc3k : 40 ≤ c3 := by omega
          have B4 := Lib.hid (B3.out.grown hgr B3.out.size (fun k hk => by cases hk))
          have R4 := Lib.hid (HR.out.below B4.out)
          have T3 := Lib.hid ht3
          clear ht3 hgr d0 d1 d2 f0 f1 f2
          go_wp2_with (first
            | (go_at_call 10; (with_reducible refine (sameTab_any g3 c3 w3 T3.out).mono ?_); rintro e w4 ⟨rfl, hb⟩; have B5 := Lib.hid (below_next B4.out hb); have R5 := Lib.hid (R4.out.below hb); clear hb)
            | (go_at_call 9; (with_reducible refine (KT.out w4 R5.out).mono ?_); rintro e w5 ⟨g5, rfl, hg, hgw, hb⟩; have B6 := Lib.hid (below_next B5.out hb); have R6 := Lib.hid (R5.out.below hb); have T5 := Lib.hid (Tab.of_block hg); clear hg hgw hb)
            | (go_at_call 10; (with_reducible refine (sameTab_any g5 40 w5 T5.out).mono ?_); rintro e w6 ⟨rfl, hb⟩; have B7 := Lib.hid (below_next B6.out hb); have R7 := Lib.hid (R6.out.below hb); clear hb)
            | (go_at_call 12; (with_reducible refine (AW.out w6 R7.out).mono ?_); rintro e w7 ⟨rfl, hb⟩; have B8 := Lib.hid (below_next B7.out hb); clear hb))
          go_ret
          exact ⟨rfl, B8.out⟩
end Go.Proofs.YtoenaehkhdcdmaaDoor
