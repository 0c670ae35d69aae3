/-
  The walk of FoldBoth at the kinds that there are, and 0.
-/
import Derived.Test.YtoenaehkhdcdmaaDoorFolBoth0
namespace Go.Proofs.YtoenaehkhdcdmaaDoor
open Go.RowKit
set_option linter.unusedVariables false
set_option linter.unusedSimpArgs false

set_option maxRecDepth 100000 in
set_option maxHeartbeats 16000000 in
theorem both_inA (k0 : Nat) (a b : ByteArray) (w : World) (hw : Rdy w) (ha : a.size ≤ 2000) (hb : b.size ≤ 2000) (hk0 : k0 < 256) (hk5 : k0 ≤ 5) :
    Calls Tryd.prog 7 #[.int .u8 k0, .string a, .string b] w fun e w' => e = .returned (.bool true) ∧ Below w.heap.size w w' := by
  have HA := Lib.hid (awake_any w hw)
  have HR := Lib.hid hw
  clear hw
  have h1 : ¬ 2000 < (a.size : Int) := by omega
  have h2 : ¬ 2000 < (b.size : Int) := by omega
  have q1 := fun V (h : Rdy V) => same_any k0 a b V h
  have q2 := fun V (h : Rdy V) => same_any k0 b a V h
  have q3 := fun V (h : Rdy V) => same_any k0 a a V h
  rw [Fo.same_comm k0 b.data.toList] at q2
  rw [Fo.same_self] at q3
  have E1 := Lib.hid (show (a.toList == b.toList) = (a.data.toList == b.data.toList) by rw [ByteArray.toList_eq, ByteArray.toList_eq])
  have hbig : 5 < k0 → Fo.same k0 a.data.toList b.data.toList = (a.toList == b.toList) := fun h => (Fo.same_big k0 h _ _).trans E1.out.symm
  have hsh := fun V (h : Rdy V) => short_any k0 a V h
  generalize Fo.same k0 a.data.toList b.data.toList = D at *
  have Q1 := Lib.hid q1; have Q2 := Lib.hid q2; have Q3 := Lib.hid q3; have HSH := Lib.hid hsh
  clear q1 q2 q3 hsh
  have HT := Lib.hid table_any
  clear hbig
  have hk5i : ¬ 5 < (k0 : Int) := by omega
  have hDD : (D == D) = true := beq_self_eq_true _
  go_enter Tryd.func7, Tryd.ntmps7
  go_wp2_with (first
    | (go_at_call 12; (with_reducible refine HA.out.mono ?_); rintro e w1 ⟨rfl, hb⟩; have B1 := Lib.hid hb; have R1 := Lib.hid (HR.out.below hb); clear hb)
    | (go_at_call 20; (with_reducible refine (Q1.out w1 R1.out).mono ?_); rintro e w2 ⟨rfl, hb⟩; have B2 := Lib.hid (below_next B1.out hb); have R2 := Lib.hid (R1.out.below hb); clear hb)
    | (go_at_call 20; (with_reducible refine (Q2.out w2 R2.out).mono ?_); rintro e w3 ⟨rfl, hb⟩; have B3 := Lib.hid (below_next B2.out hb); have R3 := Lib.hid (R2.out.below hb); clear hb)
    | (go_at_call 20; (with_reducible refine (Q3.out w3 R3.out).mono ?_); rintro e w4 ⟨rfl, hb⟩; have B4 := Lib.hid (below_next B3.out hb); have R4 := Lib.hid (R3.out.below hb); clear hb)
    | (go_at_call 9; (with_reducible refine (HT.out w4 R4.out).mono ?_); rintro e w5 ⟨g, rfl, hg, hgw, hb⟩; have H0 := Lib.hid (show BothS w w5 g from ⟨below_next B4.out hb, hg⟩); clear hb hg hgw))
  go_loopw [8] (fun s8 wr => ∃ k : Nat, s8 = .int .i64 k ∧ k ≤ 40 ∧ Hid (BothS w wr g)) (fun s8 _ => 40 - (intOf s8).toNat)
  case atStart => exact ⟨0, rfl, by omega, H0⟩
  case round =>
    obtain ⟨k, rfl, hk, HS⟩ := hrel
    by_cases hlt : k < 40
    · have hlt2 : (k : Int) < 40 := by omega
      have hle : ¬ 40 ≤ k := by omega
      obtain ⟨d0, d1, d2⟩ := tab_cells HS.out.tab k hlt
      have hok := rows_OK _ (rowAt_mem k hlt)
      obtain ⟨⟨x, lx, ly⟩, hr⟩ : ∃ r, rowAt k = r := ⟨_, rfl⟩
      rw [hr] at d0 d1 d2 hok
      obtain ⟨X, hX⟩ : ∃ X : ByteArray, X = ⟨lx.toArray⟩ := ⟨_, rfl⟩
      obtain ⟨Y, hY⟩ : ∃ Y : ByteArray, Y = ⟨ly.toArray⟩ := ⟨_, rfl⟩
      rw [← hX] at d1
      rw [← hY] at d2
      have hXd : X.data.toList = lx := by rw [hX]
      have hYd : Y.data.toList = ly := by rw [hY]
      obtain ⟨m1, m2, m3, m4, m5, m6, m7, m8, m9, m10, m11⟩ := rowOK_of hok
      rw [← hXd, ← hYd] at m1 m3 m4 m5
      rw [← hXd] at m2 m6 m8 m10
      rw [← hYd] at m7 m9 m11
      have K1 := Lib.hid (fun V (h : Rdy V) => longsHas_any x Y X V h m1)
      have K2 := Lib.hid (fun V (h : Rdy V) => longsHas_any x X X V h m2)
      have k3 : ∀ V, Rdy V → Calls Tryd.prog 22 #[.int .u8 0, .string Y] V (PostHas X V) := fun V h => longsHas_any 0 Y X V h m3
      have k4 := fun V (h : Rdy V) => same_any x X Y V h
      have k5 : ∀ V, Rdy V → Calls Tryd.prog 20 #[.int .u8 0, .string Y, .string X] V (PostB (Fo.same 0 Y.data.toList X.data.toList) V) := fun V h => same_any 0 Y X V h
      rw [m4] at k4
      rw [m5] at k5
      have K3 := Lib.hid k3; have K4 := Lib.hid k4; have K5 := Lib.hid k5
      have k6 := fun V (h : Rdy V) => kinds_any X V h
      have k7 := fun V (h : Rdy V) => kinds_any Y V h
      have k8 := fun V (h : Rdy V) => right_any X V h (by have : X.data.toList.length = X.size := by simp
                                                          omega)
      have k9 := fun V (h : Rdy V) => right_any Y V h (by have : Y.data.toList.length = Y.size := by simp
                                                          omega)
      rw [m8] at k8
      rw [m9] at k9
      have v1 := kinds_le X.data.toList
      have v2 := kinds_le Y.data.toList
      have hx := Fo.T_kind _ (rowAt_mem k hlt)
      rw [hr] at hx
      generalize Fo.kinds X.data.toList = n1 at *
      generalize Fo.kinds Y.data.toList = n2 at *
      have K6 := Lib.hid k6; have K7 := Lib.hid k7; have K8 := Lib.hid k8; have K9 := Lib.hid k9
      have M6 := Lib.hid m6; have M7 := Lib.hid m7
      have hz0 := row_new wr x X Y
      have hbw := HS.out.bel.alloc HS.out.bel.size (.cells #[.int .u8 x, .string X, .string Y] 30)
      have C0 := Lib.hid (show Below wr.heap.size wr (wr.alloc (.cells #[.int .u8 x, .string X, .string Y] 30)).drew from below_drewN (below_new wr _) 1)
      have T0 := Lib.hid (show Rdy (wr.alloc (.cells #[.int .u8 x, .string X, .string Y] 30)).drew from HR.out.below (below_drewN hbw 1))
      have Z0 := Lib.hid (show Box3 (wr.alloc (.cells #[.int .u8 x, .string X, .string Y] 30)).drew wr.heap.size x X Y from hz0)
      have NB := Lib.hid (below_new wr (.cells #[.int .u8 x, .string X, .string Y] 30))
      clear k3 k4 k5 k6 k7 k8 k9 m1 m2 m3 m4 m5 m6 m7 m8 m9 m10 m11 hok hXd hYd hX hY hr hbw hz0
      go_wp2
      obtain ⟨o0, o1, o2⟩ := Z0.out
      obtain ⟨W, hW⟩ : ∃ W, W = wr.alloc (.cells #[.int .u8 x, .string X, .string Y] 30) := ⟨_, rfl⟩
      rw [← hW] at C0 T0 Z0 o0 o1 o2 ⊢
      clear hW
      go_region_held3 (fun V => V.cell? ⟨wr.heap.size, 0, none⟩ = some (.int .u8 x) ∧ V.cell? ⟨wr.heap.size, 1, none⟩ = some (.string X) ∧ V.cell? ⟨wr.heap.size, 2, none⟩ = some (.string Y))
        (first | exact ⟨t0, t1, t2⟩ | exact ⟨s0, s1, s2⟩ | exact ⟨r0, r1, r2⟩ | exact ⟨q0, q1, q2⟩ | exact ⟨p0, p1, p2⟩ | exact ⟨o0, o1, o2⟩)
        (first
          | (go_at_call 22; (with_reducible refine (K1.out _ T0.out).mono ?_); rintro e V1 ⟨A1, n1, c1, rfl, hb, hh⟩; have Z1 := Lib.hid (Z0.out.below hb); obtain ⟨p0, p1, p2⟩ := Z0.out.below hb; have C1 := Lib.hid (below_next C0.out hb); have T1 := Lib.hid (T0.out.below hb); have G1 := Lib.hid hh; clear hb hh)
          | (go_at_call 21; (with_reducible refine G1.out.mono ?_); rintro e V ⟨rfl, rfl⟩)
          | (go_at_call 22; (with_reducible refine (K2.out _ T1.out).mono ?_); rintro e V2 ⟨A2, n2, c2, rfl, hb, hh⟩; have Z2 := Lib.hid (Z1.out.below hb); obtain ⟨q0, q1, q2⟩ := Z1.out.below hb; have C2 := Lib.hid (below_next C1.out hb); have T2 := Lib.hid (T1.out.below hb); have G2 := Lib.hid hh; clear hb hh)
          | (go_at_call 21; (with_reducible refine G2.out.mono ?_); rintro e V ⟨rfl, rfl⟩)
          | (go_at_call 22; (with_reducible refine (K3.out _ T2.out).mono ?_); rintro e V3 ⟨A3, n3, c3, rfl, hb, hh⟩; have Z3 := Lib.hid (Z2.out.below hb); obtain ⟨r0, r1, r2⟩ := Z2.out.below hb; have C3 := Lib.hid (below_next C2.out hb); have T3 := Lib.hid (T2.out.below hb); have G3 := Lib.hid hh; clear hb hh)
          | (go_at_call 21; (with_reducible refine G3.out.mono ?_); rintro e V ⟨rfl, rfl⟩)
          | (go_at_call 20; (with_reducible refine (K4.out _ T3.out).mono ?_); rintro e V4 ⟨rfl, hb⟩; have Z4 := Lib.hid (Z3.out.below hb); obtain ⟨s0, s1, s2⟩ := Z3.out.below hb; have C4 := Lib.hid (below_next C3.out hb); have T4 := Lib.hid (T3.out.below hb); clear hb)
          | (go_at_call 20; (with_reducible refine (K5.out _ T4.out).mono ?_); rintro e V5 ⟨rfl, hb⟩; have Z5 := Lib.hid (Z4.out.below hb); obtain ⟨t0, t1, t2⟩ := Z4.out.below hb; have C5 := Lib.hid (below_next C4.out hb); have T5 := Lib.hid (T4.out.below hb); clear hb))
      have z1 := par_fact _ _ M6.out
      have z2 := par_fact _ _ M7.out
      have D0 := Lib.hid (show Below wr.heap.size wr V5.drew from below_drewN C5.out 1)
      have U0 := Lib.hid (show Rdy V5.drew from T5.out.below (below_drewN (Below.refl _ _) 1))
      have Y0 := Lib.hid (show Box3 V5.drew wr.heap.size x X Y from Z5.out)
      clear Z1 Z2 Z3 Z4 C1 C2 C3 C4 T1 T2 T3 T4 K1 K2 K3 K4 K5 G1 G2 G3 o0 o1 o2 C0 T0 Z0
      obtain ⟨t0, t1, t2⟩ := Y0.out
      go_wp2
      go_region_held3 (fun V => V.cell? ⟨wr.heap.size, 0, none⟩ = some (.int .u8 x) ∧ V.cell? ⟨wr.heap.size, 1, none⟩ = some (.string X) ∧ V.cell? ⟨wr.heap.size, 2, none⟩ = some (.string Y))
        (first | exact ⟨j0, j1, j2⟩ | exact ⟨i0, i1, i2⟩ | exact ⟨f0, f1, f2⟩ | exact ⟨e0, e1, e2⟩ | exact ⟨t0, t1, t2⟩)
        (first
          | (go_at_call 23; (with_reducible refine (K6.out _ U0.out).mono ?_); rintro e W1 ⟨rfl, hb⟩; have Y1 := Lib.hid (Y0.out.below hb); obtain ⟨e0, e1, e2⟩ := Y0.out.below hb; have D1 := Lib.hid (below_next D0.out hb); have U1 := Lib.hid (U0.out.below hb); clear hb)
          | (go_at_call 23; (with_reducible refine (K7.out _ U1.out).mono ?_); rintro e W2 ⟨rfl, hb⟩; have Y2 := Lib.hid (Y1.out.below hb); obtain ⟨f0, f1, f2⟩ := Y1.out.below hb; have D2 := Lib.hid (below_next D1.out hb); have U2 := Lib.hid (U1.out.below hb); clear hb)
          | (go_at_call 15; (with_reducible refine (K8.out _ U2.out).mono ?_); rintro e W3 ⟨rfl, hb⟩; have Y3 := Lib.hid (Y2.out.below hb); obtain ⟨i0, i1, i2⟩ := Y2.out.below hb; have D3 := Lib.hid (below_next D2.out hb); have U3 := Lib.hid (U2.out.below hb); clear hb)
          | (go_at_call 15; (with_reducible refine (K9.out _ U3.out).mono ?_); rintro e W4 ⟨rfl, hb⟩; have Y4 := Lib.hid (Y3.out.below hb); obtain ⟨j0, j1, j2⟩ := Y3.out.below hb; have D4 := Lib.hid (below_next D3.out hb); have U4 := Lib.hid (U3.out.below hb); clear hb))
      go_wp2
      go_roundw
      case rel => exact ⟨k + 1, by go_num, by omega, Lib.hid ⟨below_next HS.out.bel D4.out, (D4.out.block g (lt_of_heap HS.out.tab)).trans HS.out.tab⟩⟩
      case measure => simp [intOf]; omega
    · have hge : ¬ (k : Int) < 40 := by omega
      obtain rfl : k = 40 := by omega
      have hq := HSH.out wr (HR.out.below HS.out.bel)
      unfold PostShort at hq
      obtain ⟨SB, hSB⟩ : ∃ SB : ByteArray, SB = ⟨(Fo.short k0 a.data.toList).toArray⟩ := ⟨_, rfl⟩
      have hSd : SB.data.toList = Fo.short k0 a.data.toList := by rw [hSB]
      rw [← hSB] at hq
      cases hh : Fo.hasShort k0 a.data.toList with
      | false =>
        rw [hh] at hq
        have he : (SB.toList == []) = true := by rw [ByteArray.toList_eq, hSd, Fo.short_none hh]; rfl
        have HQ := Lib.hid hq
        clear hq hSB hSd hh
        go_wp2_with (go_at_call 24; (with_reducible refine HQ.out.mono ?_); rintro e v1 ⟨rfl, hb⟩; have HB := Lib.hid (below_next HS.out.bel hb); clear hb)
        go_ret
        exact ⟨rfl, HB.out⟩
      | true =>
        rw [hh] at hq
        obtain ⟨g1, g2⟩ := Fo.short_long hh
        rw [← hSd] at g1 g2
        have k1 := fun V (h : Rdy V) => longsHas_any k0 SB a V h g1
        have k2 := fun V (h : Rdy V) => same_any k0 SB a V h
        rw [g2] at k2
        have K1 := Lib.hid k1; have K2 := Lib.hid k2
        have HQ := Lib.hid hq
        clear hq hSB hSd hh k1 k2 g1 g2
        go_wp2_with (first
          | (go_at_call 24; (with_reducible refine HQ.out.mono ?_); rintro e v1 ⟨rfl, hb⟩; have HB := Lib.hid (below_next HS.out.bel hb); have RB := Lib.hid (HR.out.below (below_next HS.out.bel hb)); clear hb)
          | (go_at_call 22; (with_reducible refine (K1.out v1 RB.out).mono ?_); rintro e v2 ⟨A, n, c, rfl, hb, hh⟩; have HC := Lib.hid (below_next HB.out hb); have RC := Lib.hid (RB.out.below hb); have GH := Lib.hid hh; clear hb hh)
          | (go_at_call 21; (with_reducible refine GH.out.mono ?_); rintro e V ⟨rfl, rfl⟩)
          | (go_at_call 20; (with_reducible refine (K2.out v2 RC.out).mono ?_); rintro e v3 ⟨rfl, hb⟩; have HD := Lib.hid (below_next HC.out hb); clear hb))
        go_ret
        exact ⟨rfl, HD.out⟩
end Go.Proofs.YtoenaehkhdcdmaaDoor
