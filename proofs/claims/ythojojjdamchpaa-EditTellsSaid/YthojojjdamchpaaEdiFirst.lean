/-
  The walk of firstPath.
-/
import Derived.Test.YthojojjdamchpaaEdiOps
import Derived.WalkMore
import Derived.Deep.LoopGhost
namespace Go.Proofs.Ythojojjdamchpaa
open Go.RowKit Go.Shelf
set_option linter.unusedVariables false
set_option linter.unusedSimpArgs false

def PostOps (l : List (Nat × Nat)) (w : World) (e : Ending) (w' : World) : Prop := ∃ A n cap, e = .returned (.slice A n cap) ∧ OwnO w.heap.size 51 w' A n cap l ∧ Below w.heap.size w w'
theorem fk_eq {c : Ed.Cst} {a b : List UInt8} {k : Nat} (h : a ≠ [] ∨ b ≠ []) (h1 : 1 ≤ k) (hg : Ed.good c a b k = true) (hn : ∀ k', 1 ≤ k' → k' < k → Ed.good c a b k' = false) : Ed.fk c a b = k := by
  obtain ⟨g1, g2, g3, g4⟩ := Ed.fk_good c h
  by_cases e : Ed.fk c a b < k
  · rw [hn _ g2 e] at g1; cases g1
  · by_cases e2 : k < Ed.fk c a b
    · rw [g4 k h1 e2] at hg; cases hg
    · omega
theorem no_end {c : Ed.Cst} {a b : List UInt8} (h : a ≠ [] ∨ b ≠ []) (hn : ∀ k', 1 ≤ k' → k' < 6 → Ed.good c a b k' = false) : False := by
  obtain ⟨g1, g2, g3, g4⟩ := Ed.fk_good c h
  rw [hn _ g2 (by omega)] at g1; cases g1
theorem tx_ne {a b : ByteArray} {i j : Nat} (h : i < a.size ∨ j < b.size) : (tx a).drop i ≠ [] ∨ (tx b).drop j ≠ [] := by
  rcases h with h | h
  · left; rw [tx_drop a i h]; simp
  · right; rw [tx_drop b j h]; simp
theorem good_iff (c : Ed.Cst) (a b : ByteArray) (i j k : Nat) : Ed.good c ((tx a).drop i) ((tx b).drop j) k = (Ed.fit k ((tx a).drop i) ((tx b).drop j) && (Ed.cst c k + Dv c a b (i + Ed.tk k) (j + Ed.wr k) == Dv c a b i j)) := by
  unfold Ed.good Dv; rw [List.drop_drop, List.drop_drop]
theorem tx_extract (b : ByteArray) (j : Nat) : tx (b.extract j b.size) = (tx b).drop j := by
  unfold tx
  simp only [ByteArray.data_extract, Array.toList_extract, List.extract_eq_take_drop]
  rw [List.take_of_length_le]
  simp
theorem undrew {X Y : World} {n : Nat} (h : Below (X.drewN n).heap.size (X.drewN n) Y) : Below X.heap.size X Y := ⟨h.os, h.tape, h.output, h.size, h.block⟩
/-- a row of the table, at a place -/
theorem DT.cells {c : Ed.Cst} {a b : ByteArray} {lo Bd i : Nat} {X : World} (h : DT c a b lo Bd (a.size + 1) X) (hi : i ≤ a.size) : ∃ blk cap, X.cell? ⟨Bd, i, none⟩ = some (.slice (some ⟨blk, 0, none⟩) (b.size + 1) cap) ∧ ∀ j, j ≤ b.size → X.cell? ⟨blk, j, none⟩ = some (.int .i64 (Dv c a b i j)) := by
  obtain ⟨v, h1, blk, cap, rfl, _, h3⟩ := h.get hi
  exact ⟨blk, cap, h1, h3⟩
/-- the state of the walk -/
structure FS (c : Ed.Cst) (a b : ByteArray) (w3 W : World) (A : Option Addr) (n cap i j : Nat) : Prop where
  bel : Below w3.heap.size w3 W
  own : ∃ l, OwnO w3.heap.size 51 W A n cap l ∧ l ++ Ed.path c ((tx a).drop i) ((tx b).drop j) = Ed.path c (tx a) (tx b) ∧ l.length ≤ i + j
theorem FS.below {c : Ed.Cst} {a b : ByteArray} {w3 W V : World} {A : Option Addr} {n cap i j : Nat} (h : FS c a b w3 W A n cap i j) (hb : Below W.heap.size W V) : FS c a b w3 V A n cap i j := by
  obtain ⟨l, h1, h2, h3⟩ := h.own
  exact ⟨h.bel.trans (hb.mono h.bel.size), l, h1.below hb, h2, h3⟩

set_option maxRecDepth 100000 in
set_option maxHeartbeats 4000000 in
theorem firstPath_any (c : Ed.Cst) (a b : ByteArray) (hc : c.ok) (ha : a.size ≤ 60) (hb : b.size ≤ 60) (lo Bd : Nat) (w : World) (hD : DT c a b lo Bd (a.size + 1) w) :
    Calls Try.prog 21 #[.string a, .string b, cstV c, .slice (some ⟨Bd, 0, none⟩) (a.size + 1) (a.size + 1)] w (PostOps (Ed.path c (tx a) (tx b)) w) := by
  obtain ⟨w1, hw1⟩ : ∃ w1, w1 = w.alloc (.cells #[.int .i64 c.ins, .int .i64 c.del, .int .i64 c.chg, .int .i64 c.swp] 23) := ⟨_, rfl⟩
  have k1 := steps_any a b c w1
  have hb1 : Below w.heap.size w w1 := by rw [hw1]; exact below_new w _
  unfold cstV at k1 ⊢
  have hq1 : w1.cell? ⟨w.heap.size, 0, none⟩ = some (.int .i64 c.ins) ∧ w1.cell? ⟨w.heap.size, 1, none⟩ = some (.int .i64 c.del) ∧ w1.cell? ⟨w.heap.size, 2, none⟩ = some (.int .i64 c.chg) ∧ w1.cell? ⟨w.heap.size, 3, none⟩ = some (.int .i64 c.swp) := by
    rw [hw1]; refine ⟨?_, ?_, ?_, ?_⟩ <;> go_simp
  obtain ⟨q0, q1, q2, q3⟩ := hq1
  have K1 := Lib.hid k1; have HB1 := Lib.hid hb1; have HD := Lib.hid hD; have HC := Lib.hid hc
  clear k1 hb1 hD hc
  go_enter Try.func21, Try.ntmps21
  go_wp2_with fail
  rw [← hw1]
  clear hw1
  go_step3
  go_wp2_with (first
    | (go_at_call 29; (with_reducible refine K1.out.mono ?_); rintro e w2 ⟨m, A, B, C, rfl, hmap, hcc, hbb, _, _, _⟩; have I1 := Lib.hid (inOrder_any m A B C w2 hmap); have HC1 := Lib.hid hcc; have HB2 := Lib.hid hbb; clear hmap hcc hbb)
    | (go_at_call 28; (with_reducible refine I1.out.mono ?_); rintro e w4 ⟨rfl, hb2⟩; have HB4 := Lib.hid hb2; clear hb2; unfold ordV fn1 fn2 fn3 fn4 fn5))
  have hst : ∃ w3, w3 = w4.alloc (.cells #[.nilFunc, fn1 A B, fn2 A B C, fn3 A B C, fn4 A C, fn5 B C] 73) := ⟨_, rfl⟩
  obtain ⟨w3, hw3⟩ := hst
  have hb3 : Below w4.heap.size w4 w3 := by rw [hw3]; exact below_new w4 _
  have ho : w3.heap[w4.heap.size]? = some (.cells #[.nilFunc, fn1 A B, fn2 A B C, fn3 A B C, fn4 A C, fn5 B C] 73 (0, 0)) := by rw [hw3]; exact heap_alloc_new w4 _
  have hbw : Below w.heap.size w w3 := by
    have h1 := HB1.out; have h2 := HB2.out; have h4 := HB4.out
    exact ((h1.trans (h2.mono h1.size)).trans (h4.mono (Nat.le_trans h1.size h2.size))).trans (hb3.mono (Nat.le_trans (Nat.le_trans h1.size h2.size) h4.size))
  have hc3 : Caps w3 A B C a b c := (HC1.out.below HB4.out).below hb3
  have hd3 : DT c a b lo Bd (a.size + 1) w3 := by
    obtain ⟨cs, h1, h2, h3⟩ := HD.out
    refine ⟨cs, (hbw.block Bd (Array.getElem?_eq_some_iff.1 h1).1).trans h1, h2, fun i hi => ?_⟩
    obtain ⟨v, g1, g2, g3⟩ := h3 i hi
    refine ⟨v, g1, fun h => ?_, g3⟩
    obtain ⟨blk, cap, e1, e2, e3⟩ := g2 h
    exact ⟨blk, cap, e1, e2, fun j hj => cell_keep (e3 j hj) hbw⟩
  unfold fn1 fn2 fn3 fn4 fn5 at hw3
  rw [← hw3]
  obtain ⟨O, hO⟩ : ∃ O, O = w4.heap.size := ⟨_, rfl⟩
  rw [← hO]
  rw [← hO] at ho
  have HO := Lib.hid ho; have HBW := Lib.hid hbw; have HCap := Lib.hid hc3; have HDT := Lib.hid hd3
  clear hw3 hb3 ho hbw hc3 hd3 hO HB1 HB2 HB4 HC1 I1 K1 HD q0 q1 q2 q3
  have HF0 : Hid (FS c a b w3 w3 none 0 0 0 0) := Lib.hid ⟨Below.refl _ _, [], OwnO.nil _ _ _, by rw [List.drop_zero, List.drop_zero]; rfl, Nat.zero_le _⟩
  go_step3
  go_wp2
  go_loopg [9, 11, 12] (a.size + b.size) (fun gk s9 s11 s12 wr => ∃ (P : Option Addr) (n cap i j : Nat), s9 = .slice P n cap ∧ s11 = .int .i64 i ∧ s12 = .int .i64 j ∧ i ≤ a.size ∧ j ≤ b.size ∧ a.size + b.size ≤ i + j + gk ∧ Hid (FS c a b w3 wr P n cap i j))
  case atStart => exact ⟨none, 0, 0, 0, 0, rfl, rfl, rfl, by omega, by omega, by omega, HF0⟩
  case round =>
    obtain ⟨P, n, cap, i, j, rfl, rfl, rfl, hi, hj, hg, HS⟩ := hrel
    clear HF0
    by_cases hend : i < a.size ∨ j < b.size
    · cases gk with
      | zero => omega
      | succ g =>
        have hne := tx_ne hend
        have HNE := Lib.hid hne
        clear hne
        have hgo : (decide (i < a.size) = true) ∨ (decide (i < a.size) = false ∧ decide (j < b.size) = true) := by
          by_cases h : i < a.size
          · exact .inl (decide_eq_true h)
          · exact .inr ⟨decide_eq_false h, decide_eq_true (by omega)⟩
        clear hend
        have hin : (i : Int) ≤ 60 := by omega
        have hjn : (j : Int) ≤ 60 := by omega
        rcases hgo with h1 | ⟨h1, h2⟩
        all_goals
          go_wp2
          go_loopg [9, 11, 12, 13] 5 (fun g2 s9 s11 s12 s13 wy => ∃ k : Nat, s9 = .slice P n cap ∧ s11 = .int .i64 i ∧ s12 = .int .i64 j ∧ s13 = .int .u8 k ∧ 1 ≤ k ∧ k + g2 = 6 ∧ Hid ((∀ k', 1 ≤ k' → k' < k → Ed.good c ((tx a).drop i) ((tx b).drop j) k' = false) ∧ FS c a b w3 wy P n cap i j))
          case atStart => exact ⟨1, rfl, rfl, rfl, rfl, by omega, by omega, Lib.hid ⟨fun k' h1 h2 => by omega, HS.out⟩⟩
          case round =>
            obtain ⟨k, rfl, rfl, rfl, rfl, hk1, hk6, HR⟩ := hrel
            cases gk with
            | zero =>
              obtain rfl : k = 6 := by omega
              exact (no_end HNE.out HR.out.1).elim
            | succ g2 =>
              have hk5 : (k : Int) ≤ 5 := by omega
              obtain ⟨gf, lb, e1, eg, e2⟩ := fn_tells c A B C a b i j k (by omega) (by omega) hi hj hk1 (by omega)
              have hx : wr.cell? ⟨O, k, none⟩ = some (.func (.func gf) #[] lb) := by
                rw [← e1]
                obtain ⟨⟨q0, q1, q2, q3, q4, q5⟩, _⟩ := row6 HO.out
                have hbb := HR.out.2.bel
                rcases (show k = 1 ∨ k = 2 ∨ k = 3 ∨ k = 4 ∨ k = 5 by omega) with rfl | rfl | rfl | rfl | rfl
                · exact cell_keep q1 hbb
                · exact cell_keep q2 hbb
                · exact cell_keep q3 hbb
                · exact cell_keep q4 hbb
                · exact cell_keep q5 hbb
              have hcall := e2 wr (HCap.out.below HR.out.2.bel)
              have hgd := good_iff c a b i j k
              obtain ⟨T, hT⟩ : ∃ T, Ed.tk k = T := ⟨_, rfl⟩
              obtain ⟨U, hU⟩ : ∃ U, Ed.wr k = U := ⟨_, rfl⟩
              obtain ⟨Z, hZ⟩ : ∃ Z, Ed.cst c k = Z := ⟨_, rfl⟩
              have hz0 : 0 ≤ Z := by rw [← hZ]; exact Ed.cst_nonneg HC.out _
              have hz1 : Z ≤ 1000 := by rw [← hZ]; exact Ed.cst_max HC.out _
              have hlen := fun (h : Ed.fit k ((tx a).drop i) ((tx b).drop j) = true) => Ed.fit_len h
              obtain ⟨ft, hft⟩ : ∃ ft, Ed.fit k ((tx a).drop i) ((tx b).drop j) = ft := ⟨_, rfl⟩
              unfold PostSt stV at hcall
              rw [hT, hU, hZ, hft] at hcall
              rw [hT, hU, hZ, hft] at hgd
              simp only [hT, hU, hft, List.length_drop, tx_len] at hlen
              have HQ := Lib.hid hcall; have HGD := Lib.hid hgd; have HLen := Lib.hid hlen; have HTU := Lib.hid (And.intro hT hU)
              clear e1 e2 hcall hgd hT hU hZ hft hlen
              cases ft with
              | false =>
                go_wp2_with (go_at_fn gf; (with_reducible refine HQ.out.mono ?_); rintro e V ⟨rfl, hbv⟩; have HBV := Lib.hid hbv; clear hbv)
                go_quiet (fail)
                go_wp2
                go_roundg g2
                case measure => omega
                case rel =>
                  refine ⟨k + 1, rfl, rfl, rfl, by go_num, by omega, by omega, Lib.hid ⟨fun k' h1 h2 => ?_, HR.out.2.below (below_drewN (HBV.out.trans ((below_new _ _).mono HBV.out.size)) _)⟩⟩
                  by_cases e : k' = k
                  · rw [e, HGD.out]; rfl
                  · exact HR.out.1 k' h1 (by omega)
              | true =>
                obtain ⟨l1, l2, l3⟩ := HLen.out rfl
                have hd := HDT.out
                obtain ⟨bk0, cp0, r0, r1⟩ := hd.cells hi
                obtain ⟨bk1, cp1, r2, r3⟩ := hd.cells (i := i + T) (by omega)
                have r1 := r1 j hj
                have r3 := r3 (j + U) (by omega)
                have hbd := dv_bound HC.out a b ha hb (i + T) (j + U)
                obtain ⟨Y, hY⟩ : ∃ Y, Dv c a b (i + T) (j + U) = Y := ⟨_, rfl⟩
                obtain ⟨X, hX⟩ : ∃ X, Dv c a b i j = X := ⟨_, rfl⟩
                rw [hY] at r3 hbd; rw [hX] at r1
                obtain ⟨hy0, hy1⟩ := hbd
                have HRR := Lib.hid (And.intro r0 (And.intro r1 (And.intro r2 r3)))
                have HXY := Lib.hid (And.intro hX hY)
                have hT1 : i + T ≤ a.size := by omega
                have hU1 : j + U ≤ b.size := by omega
                have hT2 : (T : Int) ≤ 60 := by omega
                have hU2 : (U : Int) ≤ 60 := by omega
                have HLL := Lib.hid l3
                clear hd r0 r1 r2 r3 hX hY l1 l2 l3
                by_cases hgo : Z + Y = X
                · have hgk : Ed.good c ((tx a).drop i) ((tx b).drop j) k = true := by
                    rw [HGD.out, HXY.out.1, HXY.out.2]; simp [hgo]
                  have HGK := Lib.hid hgk
                  have hxy : (Z + Y != X) = false := by simp [hgo]
                  clear hgk hgo
                  go_wp2_with (go_at_fn gf; (with_reducible refine HQ.out.mono ?_); rintro e V ⟨rfl, hbv⟩; have hbV := HR.out.2.bel.trans (hbv.mono HR.out.2.bel.size); have hbN := (below_new V (.cells #[.int .i64 T, .int .i64 U, .int .i64 Z] 79)); have HBV := Lib.hid (hbv.trans (hbN.mono hbv.size)); have hbW := hbV.trans (hbN.mono hbV.size); obtain ⟨d0, d1, d2⟩ := step_new V (.int .i64 T) (.int .i64 U) (.int .i64 Z); have d3 := cell_keep HRR.out.1 hbW; have d4 := cell_keep HRR.out.2.1 hbW; have d5 := cell_keep HRR.out.2.2.1 hbW; have d6 := cell_keep HRR.out.2.2.2 hbW; have HVS := Lib.hid hbv.size; clear hbv hbV hbN hbW)
                  go_quiet (fail)
                  have hop := opAt_any k hk1 (by omega) (b.extract j b.size) (fun h => by
                    have hs : (b.extract j b.size).size = b.size - j := by rw [ByteArray.size_extract]; omega
                    have hw : Ed.wr k = 1 := by rcases h with rfl | rfl <;> rfl
                    have := HTU.out.2; omega)
                  obtain ⟨y, hy⟩ : ∃ y, Ed.byteOf k (tx (b.extract j b.size)) = y := ⟨_, rfl⟩
                  rw [hy] at hop
                  rw [tx_extract] at hy
                  have OP := Lib.hid hop; have HYY := Lib.hid hy
                  obtain ⟨l, hl1, hl2, hl3⟩ := HR.out.2.own
                  have HL1 := Lib.hid hl1; have HL2 := Lib.hid hl2; have HL3 := Lib.hid hl3
                  have hjb : (j : Int) ≤ (b.size : Int) := by omega
                  clear hop hy hl1 hl2 hl3 d3 d4 d5 d6 hxy
                  go_wp2_with (first
                    | (go_at_call 31; (with_reducible refine (OP.out _).mono ?_); rintro e V2 ⟨rfl, hb2⟩; have hb2 := undrew hb2; have x0 := cell_keep d0 hb2; have x1 := cell_keep d1 hb2; have HB2 := Lib.hid (HBV.out.trans (hb2.mono HBV.out.size)); have hVV := hb2.size; clear hb2 d0 d1 d2; unfold opV)
                    | (at_builtin; go_loud (have hbn := below_new V2 (.cells #[.int .u8 k, .int .u8 y] 51); have hb3 := HB2.out.trans (hbn.mono HB2.out.size); have ho3 := HL1.out.below hb3; have hb4 := HR.out.2.bel.trans (hb3.mono HR.out.2.bel.size); refine wpList_appO _ rfl (.tmp 72) (.tmp 78) rfl w3.heap.size n cap P l rfl ho3 V2.heap.size (k, y) rfl (by go_simp) (by go_simp) (by have := HL1.out.1; have := HL3.out; omega) hb4.size ?_; intro P2 n2 c2 w5 hn2 ho5 hg5; have hbel5 := Lib.hid (hb4.grown hg5 hb4.size (fun q hq => (ho3.2.lt q hq).1)); have HO5 := Lib.hid ho5; have z0 := hg5.cell (cell_keep x0 hbn) (fun e => by have h8 : V.heap.size < wr.heap.size := (HL1.out.2.lt _ e.symm).2; have h9 := HVS.out; omega); have z1 := hg5.cell (cell_keep x1 hbn) (fun e => by have h8 : V.heap.size < wr.heap.size := (HL1.out.2.lt _ e.symm).2; have h9 := HVS.out; omega); have HN2 := Lib.hid hn2; clear hbn hb3 ho3 hb4 ho5 hg5 x0 x1 hVV hn2)))
                  go_quiet (fail)
                  go_wp2
                  go_roundg g
                  case measure => omega
                  case rel =>
                    have h3 := HLL.out
                    refine ⟨P2, n2, c2, i + T, j + U, rfl, by go_num, by go_num, hT1, hU1, by omega, Lib.hid ⟨below_drewN hbel5.out _, l ++ [(k, y)], HO5.out.below (below_drewN (Below.refl _ _) _), ?_, ?_⟩⟩
                    · have hp := Ed.path_eq c HNE.out
                      rw [fk_eq HNE.out hk1 HGK.out HR.out.1, HYY.out, HTU.out.1, HTU.out.2, List.drop_drop, List.drop_drop] at hp
                      rw [← HL2.out, hp, List.append_assoc]; rfl
                    · have := HL3.out
                      rw [List.length_append, List.length_singleton]; omega
                · have hgk : Ed.good c ((tx a).drop i) ((tx b).drop j) k = false := by
                    rw [HGD.out, HXY.out.1, HXY.out.2]; simp [hgo]
                  have HGK := Lib.hid hgk
                  have hxy : (Z + Y != X) = true := by simp [hgo]
                  clear hgk hgo
                  go_wp2_with (go_at_fn gf; (with_reducible refine HQ.out.mono ?_); rintro e V ⟨rfl, hbv⟩; have hbV := HR.out.2.bel.trans (hbv.mono HR.out.2.bel.size); have hbN := (below_new V (.cells #[.int .i64 T, .int .i64 U, .int .i64 Z] 79)); have HBV := Lib.hid (hbv.trans (hbN.mono hbv.size)); have hbW := hbV.trans (hbN.mono hbV.size); obtain ⟨d0, d1, d2⟩ := step_new V (.int .i64 T) (.int .i64 U) (.int .i64 Z); have d3 := cell_keep HRR.out.1 hbW; have d4 := cell_keep HRR.out.2.1 hbW; have d5 := cell_keep HRR.out.2.2.1 hbW; have d6 := cell_keep HRR.out.2.2.2 hbW; clear hbv hbV hbN hbW)
                  go_quiet (fail)
                  clear d0 d1 d2 d3 d4 d5 d6
                  go_wp2
                  go_roundg g2
                  case measure => omega
                  case rel =>
                    refine ⟨k + 1, rfl, rfl, rfl, by go_num, by omega, by omega, Lib.hid ⟨fun k' h1 h2 => ?_, HR.out.2.below (below_drewN HBV.out _)⟩⟩
                    by_cases e : k' = k
                    · rw [e]; exact HGK.out
                    · exact HR.out.1 k' h1 (by omega)
    · have h1 : decide (i < a.size) = false := decide_eq_false (by omega)
      have h2 : decide (j < b.size) = false := decide_eq_false (by omega)
      have hia : i = a.size := by omega
      have hjb : j = b.size := by omega
      have hfin : Hid (FS c a b w3 wr P n cap a.size b.size) := by rw [← hia, ← hjb]; exact HS
      clear HS hend hia hjb
      go_wp2
      try rw [Exit.noGoto_ret]
      go_ret
      obtain ⟨hb1, l, ho, hp, _⟩ := hfin.out
      rw [tx_end a a.size (Nat.le_refl _), tx_end b b.size (Nat.le_refl _), Ed.path_nil, List.append_nil] at hp
      subst hp
      exact ⟨P, n, cap, rfl, ho.mono HBW.out.size, HBW.out.trans (hb1.mono HBW.out.size)⟩
end Go.Proofs.Ythojojjdamchpaa
