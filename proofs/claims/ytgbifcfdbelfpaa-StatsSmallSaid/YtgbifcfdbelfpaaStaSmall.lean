/-
  The walk of the law StatsSmall.
-/
import Derived.Test.YtgbifcfdbelfpaaStaEnds2
import Derived.Test.YtgbifcfdbelfpaaStaQuants
namespace Go.Proofs.Ytgbifcfdbelfpaa
open Go.RowKit
set_option linter.unusedVariables false

theorem IBlk.below {w w' : World} {g : Nat} {p s : List Value} {m : List Int} (h : IBlk w g p m s) (hb : Below w.heap.size w w') : IBlk w' g p m s := (hb.block g h.lt).trans h
theorem quant_pair (y x q : Int) (V : World) : Calls Try.prog 17 #[.slice (some ⟨V.heap.size, 0, none⟩) 2 2, .int .i64 q] (V.alloc (.cells #[.int .i64 y, .int .i64 x] 3)) fun e W' => e = .returned (.bool true) ∧ Below V.heap.size V W' := by
  have hB : IBlk (V.alloc (.cells #[.int .i64 y, .int .i64 x] 3)) V.heap.size [] [y, x] [] := heap_alloc_new V _
  refine (show Calls Try.prog 17 #[.slice (some ⟨V.heap.size, 0, none⟩) 2 2, .int .i64 q] (V.alloc (.cells #[.int .i64 y, .int .i64 x] 3)) _ from quants_any (some ⟨V.heap.size, 0, none⟩) 2 [y, x] q _ (hB.rd rfl) (fun e => by cases e) (by simp)).mono ?_
  rintro e W' ⟨rfl, hb⟩
  exact ⟨rfl, ((Below.refl _ V).alloc (Nat.le_refl _) _).trans (hb.mono (by simp))⟩
/-- six lists, in a block of slices -/
def Lists (W : World) (G : Nat) : Prop := G < W.heap.size ∧ ∀ j, j < 6 → ∃ A cap len, W.cell? ⟨G, j, none⟩ = some (.slice A len cap) ∧ ∃ zs : List Int, zs.length = len ∧ Rd W A zs ∧ (A = none → zs.length = 0 ∧ cap = 0) ∧ zs.length ≤ 10
theorem Lists.below {W w' : World} {G : Nat} (h : Lists W G) (hb : Below W.heap.size W w') : Lists w' G := by
  refine ⟨Nat.lt_of_lt_of_le h.1 hb.size, fun j hj => ?_⟩
  obtain ⟨A, cap, len, h1, zs, h2, h3, h4⟩ := h.2 j hj
  exact ⟨A, cap, len, (bcell hb G j h.1).trans h1, zs, h2, h3.below hb, h4⟩
theorem lists_new (w : World) : Lists ((((((w.alloc (.cells #[.int .i64 0] 3)).alloc (.cells #[.int .i64 3, .int .i64 (-3)] 3)).alloc (.cells #[.int .i64 1, .int .i64 1, .int .i64 2] 3)).alloc (.cells #[.int .i64 4, .int .i64 1, .int .i64 3, .int .i64 2] 3)).alloc (.cells #[.int .i64 (-9223372036854775808), .int .i64 9223372036854775807, .int .i64 0] 3)).alloc
    (.cells #[.slice none 0 0, .slice (some ⟨w.heap.size, 0, none⟩) 1 1, .slice (some ⟨w.heap.size + 1, 0, none⟩) 2 2, .slice (some ⟨w.heap.size + 1 + 1, 0, none⟩) 3 3, .slice (some ⟨w.heap.size + 1 + 1 + 1, 0, none⟩) 4 4, .slice (some ⟨w.heap.size + 1 + 1 + 1 + 1, 0, none⟩) 3 3] 24)) (w.heap.size + 1 + 1 + 1 + 1 + 1) := by
  obtain ⟨w1, e1⟩ : ∃ W, w.alloc (.cells #[.int .i64 0] 3) = W := ⟨_, rfl⟩
  have s1 : w1.heap.size = w.heap.size + 1 := by rw [← e1]; simp
  have b1 : IBlk w1 w.heap.size [] [0] [] := by rw [← e1]; exact heap_alloc_new w _
  rw [e1]
  obtain ⟨w2, e2⟩ : ∃ W, w1.alloc (.cells #[.int .i64 3, .int .i64 (-3)] 3) = W := ⟨_, rfl⟩
  have s2 : w2.heap.size = w1.heap.size + 1 := by rw [← e2]; simp
  have b2 : IBlk w2 w1.heap.size [] [3, -3] [] := by rw [← e2]; exact heap_alloc_new w1 _
  have c1 : IBlk w2 w.heap.size [] [0] [] := by rw [← e2]; exact b1.alloc _
  rw [e2]
  obtain ⟨w3, e3⟩ : ∃ W, w2.alloc (.cells #[.int .i64 1, .int .i64 1, .int .i64 2] 3) = W := ⟨_, rfl⟩
  have s3 : w3.heap.size = w2.heap.size + 1 := by rw [← e3]; simp
  have b3 : IBlk w3 w2.heap.size [] [1, 1, 2] [] := by rw [← e3]; exact heap_alloc_new w2 _
  have d1 : IBlk w3 w.heap.size [] [0] [] := by rw [← e3]; exact c1.alloc _
  have d2 : IBlk w3 w1.heap.size [] [3, -3] [] := by rw [← e3]; exact b2.alloc _
  rw [e3]
  obtain ⟨w4, e4⟩ : ∃ W, w3.alloc (.cells #[.int .i64 4, .int .i64 1, .int .i64 3, .int .i64 2] 3) = W := ⟨_, rfl⟩
  have s4 : w4.heap.size = w3.heap.size + 1 := by rw [← e4]; simp
  have b4 : IBlk w4 w3.heap.size [] [4, 1, 3, 2] [] := by rw [← e4]; exact heap_alloc_new w3 _
  have f1 : IBlk w4 w.heap.size [] [0] [] := by rw [← e4]; exact d1.alloc _
  have f2 : IBlk w4 w1.heap.size [] [3, -3] [] := by rw [← e4]; exact d2.alloc _
  have f3 : IBlk w4 w2.heap.size [] [1, 1, 2] [] := by rw [← e4]; exact b3.alloc _
  rw [e4]
  obtain ⟨w5, e5⟩ : ∃ W, w4.alloc (.cells #[.int .i64 (-9223372036854775808), .int .i64 9223372036854775807, .int .i64 0] 3) = W := ⟨_, rfl⟩
  have s5 : w5.heap.size = w4.heap.size + 1 := by rw [← e5]; simp
  have b5 : IBlk w5 w4.heap.size [] [-9223372036854775808, 9223372036854775807, 0] [] := by rw [← e5]; exact heap_alloc_new w4 _
  have g1 : IBlk w5 w.heap.size [] [0] [] := by rw [← e5]; exact f1.alloc _
  have g2 : IBlk w5 w1.heap.size [] [3, -3] [] := by rw [← e5]; exact f2.alloc _
  have g3 : IBlk w5 w2.heap.size [] [1, 1, 2] [] := by rw [← e5]; exact f3.alloc _
  have g4 : IBlk w5 w3.heap.size [] [4, 1, 3, 2] [] := by rw [← e5]; exact b4.alloc _
  rw [e5]
  rw [← s1, ← s2, ← s3, ← s4, ← s5]
  have hN := heap_alloc_new w5 (.cells #[.slice none 0 0, .slice (some ⟨w.heap.size, 0, none⟩) 1 1, .slice (some ⟨w1.heap.size, 0, none⟩) 2 2, .slice (some ⟨w2.heap.size, 0, none⟩) 3 3, .slice (some ⟨w3.heap.size, 0, none⟩) 4 4, .slice (some ⟨w4.heap.size, 0, none⟩) 3 3] 24)
  refine ⟨by simp, fun j hj => ?_⟩
  have hc := cell_of_row _ w5.heap.size j _ 24 (0, 0) hN
  rw [hc]
  match j, hj with
  | 0, _ => exact ⟨none, 0, 0, rfl, [], rfl, RdK.nil _ _ _, fun _ => ⟨rfl, rfl⟩, by simp⟩
  | 1, _ => exact ⟨_, 1, 1, rfl, [0], rfl, (g1.alloc _).rd rfl, (fun e => by cases e), by simp⟩
  | 2, _ => exact ⟨_, 2, 2, rfl, [3, -3], rfl, (g2.alloc _).rd rfl, (fun e => by cases e), by simp⟩
  | 3, _ => exact ⟨_, 3, 3, rfl, [1, 1, 2], rfl, (g3.alloc _).rd rfl, (fun e => by cases e), by simp⟩
  | 4, _ => exact ⟨_, 4, 4, rfl, [4, 1, 3, 2], rfl, (g4.alloc _).rd rfl, (fun e => by cases e), by simp⟩
  | 5, _ => exact ⟨_, 3, 3, rfl, [-9223372036854775808, 9223372036854775807, 0], rfl, (b5.alloc _).rd rfl, (fun e => by cases e), by simp⟩

set_option maxRecDepth 100000 in
set_option maxHeartbeats 16000000 in
theorem walk_statsSmall (w : World) : Calls Try.prog 6 #[] w fun e w' => e = .returned (.bool true) ∧ Below w.heap.size w w' := by
  have TA := Lib.hid (fun a b c V => tells_any a b c V)
  have BA := Lib.hid (fun a b c V => bounds_any a b c V)
  go_enter Try.func6, Try.ntmps6
  go_wp2_with fail
  go_loopw [1] (fun nv wr => ∃ n : Int, -1 ≤ n ∧ n ≤ 7 ∧ nv = .int .i64 n ∧ Hid (Below w.heap.size w wr)) (fun nv _ => (7 - intOf nv).toNat)
  case atStart => exact ⟨-1, by omega, by omega, rfl, Lib.hid (Below.refl _ _)⟩
  case round =>
    obtain ⟨n, hn0, hn1, rfl, HB⟩ := hrel
    by_cases hn : n ≤ 6
    · go_wp2_with fail
      go_loopw [2] (fun kv wr => ∃ k : Int, -1 ≤ k ∧ k ≤ n + 2 ∧ kv = .int .i64 k ∧ Hid (Below w.heap.size w wr)) (fun kv _ => (n + 2 - intOf kv).toNat)
      case atStart => exact ⟨-1, by omega, by omega, rfl, HB⟩
      case round =>
        obtain ⟨k, hk0, hk1, rfl, HBk⟩ := hrel
        by_cases hk : k ≤ n + 1
        · have hL : IBlk (wr.alloc (.cells #[.int .i64 (-1), .int .i64 0, .int .i64 1, .int .i64 4999, .int .i64 5000, .int .i64 5001, .int .i64 9999, .int .i64 10000, .int .i64 10001] 3)) wr.heap.size [] [-1, 0, 1, 4999, 5000, 5001, 9999, 10000, 10001] [] := heap_alloc_new wr _
          obtain ⟨g, hg⟩ : ∃ g, wr.heap.size = g := ⟨_, rfl⟩
          have HA := Lib.hid (HBk.out.alloc HBk.out.size (.cells #[.int .i64 (-1), .int .i64 0, .int .i64 1, .int .i64 4999, .int .i64 5000, .int .i64 5001, .int .i64 9999, .int .i64 10000, .int .i64 10001] 3))
          rw [hg] at hL
          obtain ⟨ls, hls⟩ : ∃ l, l = [(-1 : Int), 0, 1, 4999, 5000, 5001, 9999, 10000, 10001] := ⟨_, rfl⟩
          have hll : ls.length = 9 := by rw [hls]; rfl
          rw [← hls] at hL
          have HL := Lib.hid hL; have HLL := Lib.hid hll
          clear hL hls hll
          go_wp2_with fail
          clear hg
          go_loopw [26] (fun jv wx => ∃ j : Nat, j ≤ 9 ∧ jv = .int .i64 j ∧ Hid (IBlk wx g [] ls []) ∧ Hid (Below w.heap.size w wx)) (fun jv _ => 9 - (intOf jv).toNat)
          case atStart => exact ⟨0, by omega, rfl, HL, HA⟩
          case round =>
            obtain ⟨j, hj, rfl, HI, HBj⟩ := hrel
            have j0 : (0 : Int) ≤ (j : Int) := by omega
            by_cases hj9 : j < 9
            · have hc := HI.out.cell j (by rw [HLL.out]; omega) (i := j) (by simp)
              generalize ls.getD j 0 = z at hc
              have j1 : (j : Int) < 9 := by omega
              go_wp2_with (go_at_call 15; (with_reducible refine (TA.out _ _ _ _).mono ?_); rintro e x1 ⟨rfl, hb⟩; have HI2 := Lib.hid (HI.out.below hb); have B1 := Lib.hid (bel_drop HBj.out hb); clear hb)
              exact ⟨⟨j + 1, by omega, by go_num, HI2, B1⟩, by simp [intOf]; omega⟩
            · have j1 : (9 : Int) ≤ (j : Int) := by omega
              obtain ⟨wo, rfl⟩ : ∃ W, W = wr := ⟨_, rfl⟩
              have hL : IBlk (wo.alloc (.cells #[.int .i64 0, .int .i64 1, .int .i64 2, .int .i64 500, .int .i64 1999, .int .i64 2000, .int .i64 2001] 3)) wo.heap.size [] [0, 1, 2, 500, 1999, 2000, 2001] [] := heap_alloc_new wo _
              obtain ⟨g2, hg⟩ : ∃ g, wo.heap.size = g := ⟨_, rfl⟩
              have HA2 := Lib.hid (HBj.out.alloc HBj.out.size (.cells #[.int .i64 0, .int .i64 1, .int .i64 2, .int .i64 500, .int .i64 1999, .int .i64 2000, .int .i64 2001] 3))
              rw [hg] at hL
              obtain ⟨rs, hls⟩ : ∃ l, l = [(0 : Int), 1, 2, 500, 1999, 2000, 2001] := ⟨_, rfl⟩
              have hll : rs.length = 7 := by rw [hls]; rfl
              rw [← hls] at hL
              have HL2 := Lib.hid hL; have HLL2 := Lib.hid hll
              clear hL hls hll
              go_wp2_with fail
              clear hg
              go_loopw [38] (fun jv wx => ∃ j : Nat, j ≤ 7 ∧ jv = .int .i64 j ∧ Hid (IBlk wx g2 [] rs []) ∧ Hid (Below w.heap.size w wx)) (fun jv _ => 7 - (intOf jv).toNat)
              case atStart => exact ⟨0, by omega, rfl, HL2, HA2⟩
              case round =>
                obtain ⟨i, hi, rfl, HI, HBi⟩ := hrel
                have i0 : (0 : Int) ≤ (i : Int) := by omega
                by_cases hi7 : i < 7
                · have hc := HI.out.cell i (by rw [HLL2.out]; omega) (i := i) (by simp)
                  generalize rs.getD i 0 = z at hc
                  have i1 : (i : Int) < 7 := by omega
                  go_wp2_with (go_at_call 16; (with_reducible refine (BA.out _ _ _ _).mono ?_); rintro e x1 ⟨rfl, hb⟩; have HI2 := Lib.hid (HI.out.below hb); have B1 := Lib.hid (bel_drop HBi.out hb); clear hb)
                  exact ⟨⟨i + 1, by omega, by go_num, HI2, B1⟩, by simp [intOf]; omega⟩
                · have i1 : (7 : Int) ≤ (i : Int) := by omega
                  go_wp2_with fail
                  exact ⟨⟨k + 1, by omega, by omega, by go_num, HBi⟩, by simp [intOf]; omega⟩
        · have k1 : n + 1 < k := by omega
          go_wp2_with fail
          exact ⟨⟨n + 1, by omega, by omega, by go_num, HBk⟩, by simp [intOf]; omega⟩
    · have n1 : 6 < n := by omega
      have hL : IBlk (wr.alloc (.cells #[.int .i64 (-9223372036854775808), .int .i64 (-1), .int .i64 501, .int .i64 9223372036854775807] 3)) wr.heap.size [] [-9223372036854775808, -1, 501, 9223372036854775807] [] := heap_alloc_new wr _
      obtain ⟨g, hg⟩ : ∃ g, wr.heap.size = g := ⟨_, rfl⟩
      have HA := Lib.hid (HB.out.alloc HB.out.size (.cells #[.int .i64 (-9223372036854775808), .int .i64 (-1), .int .i64 501, .int .i64 9223372036854775807] 3))
      rw [hg] at hL
      obtain ⟨xs, hls⟩ : ∃ l, l = [(-9223372036854775808 : Int), -1, 501, 9223372036854775807] := ⟨_, rfl⟩
      have hll : xs.length = 4 := by rw [hls]; rfl
      rw [← hls] at hL
      have HL := Lib.hid hL; have HLL := Lib.hid hll
      clear hL hls hll
      go_wp2_with fail
      clear hg
      go_loopw [50] (fun jv wx => ∃ j : Nat, j ≤ 4 ∧ jv = .int .i64 j ∧ Hid (IBlk wx g [] xs []) ∧ Hid (Below w.heap.size w wx)) (fun jv _ => 4 - (intOf jv).toNat)
      case atStart => exact ⟨0, by omega, rfl, HL, HA⟩
      case round =>
        obtain ⟨j, hj, rfl, HI, HBj⟩ := hrel
        have j0 : (0 : Int) ≤ (j : Int) := by omega
        by_cases hj4 : j < 4
        · have hc := HI.out.cell j (by rw [HLL.out]; omega) (i := j) (by simp)
          generalize xs.getD j 0 = x at hc
          have j1 : (j : Int) < 4 := by omega
          obtain ⟨wo, rfl⟩ : ∃ W, W = wr := ⟨_, rfl⟩
          have hL : IBlk (wo.alloc (.cells #[.int .i64 (-9223372036854775808), .int .i64 (-1), .int .i64 0, .int .i64 501, .int .i64 9223372036854775807] 3)) wo.heap.size [] [-9223372036854775808, -1, 0, 501, 9223372036854775807] [] := heap_alloc_new wo _
          have HIA := Lib.hid (HI.out.alloc (.cells #[.int .i64 (-9223372036854775808), .int .i64 (-1), .int .i64 0, .int .i64 501, .int .i64 9223372036854775807] 3))
          obtain ⟨g2, hg⟩ : ∃ g, wo.heap.size = g := ⟨_, rfl⟩
          have HA2 := Lib.hid (HBj.out.alloc HBj.out.size (.cells #[.int .i64 (-9223372036854775808), .int .i64 (-1), .int .i64 0, .int .i64 501, .int .i64 9223372036854775807] 3))
          rw [hg] at hL
          obtain ⟨ys, hls⟩ : ∃ l, l = [(-9223372036854775808 : Int), -1, 0, 501, 9223372036854775807] := ⟨_, rfl⟩
          have hll : ys.length = 5 := by rw [hls]; rfl
          rw [← hls] at hL
          have HL2 := Lib.hid hL; have HLL2 := Lib.hid hll
          clear hL hls hll
          go_wp2_with fail
          clear hg
          go_loopw [56] (fun jv wx => ∃ j : Nat, j ≤ 5 ∧ jv = .int .i64 j ∧ Hid (IBlk wx g2 [] ys []) ∧ Hid (IBlk wx g [] xs []) ∧ Hid (Below w.heap.size w wx)) (fun jv _ => 5 - (intOf jv).toNat)
          case atStart => exact ⟨0, by omega, rfl, HL2, HIA, HA2⟩
          case round =>
            obtain ⟨i, hi, rfl, HY, HXX, HBi⟩ := hrel
            have i0 : (0 : Int) ≤ (i : Int) := by omega
            by_cases hi5 : i < 5
            · have hd := HY.out.cell i (by rw [HLL2.out]; omega) (i := i) (by simp)
              generalize ys.getD i 0 = y at hd
              have i1 : (i : Int) < 5 := by omega
              have TT1 := Lib.hid (fun V => tells_any x y 1 V)
              have TT2 := Lib.hid (fun V => tells_any 3 1 x V)
              have BB1 := Lib.hid (fun V => bounds_any x y 1 V)
              have BB2 := Lib.hid (fun V => bounds_any 3 1 y V)
              have QQ := Lib.hid (fun V => quant_pair y x y V)
              clear TA BA
              go_wp2_with (first
                | (go_at_call 15; (with_reducible refine (TT1.out _).mono ?_); rintro e x1 ⟨rfl, hb⟩; have D1 := Lib.hid hb; clear hb)
                | (go_at_call 15; (with_reducible refine (TT2.out _).mono ?_); rintro e x2 ⟨rfl, hb⟩; have D2 := Lib.hid (bel_drop D1.out hb); clear hb)
                | (go_at_call 16; (with_reducible refine (BB1.out _).mono ?_); rintro e x3 ⟨rfl, hb⟩; have D3 := Lib.hid (bel_drop D2.out hb); clear hb)
                | (go_at_call 16; (with_reducible refine (BB2.out _).mono ?_); rintro e x4 ⟨rfl, hb⟩; have D4 := Lib.hid (bel_drop D3.out hb); clear hb)
                | (go_at_call 17; (with_reducible refine (QQ.out _).mono ?_); rintro e x5 ⟨rfl, hb⟩; have D5 := Lib.hid (bel_drop D4.out hb); clear hb))
              have HY2 := Lib.hid (HY.out.below D5.out)
              have HX2 := Lib.hid (HXX.out.below D5.out)
              have HB2 := Lib.hid (bel_drop HBi.out D5.out)
              exact ⟨⟨i + 1, by omega, by go_num, HY2, HX2, HB2⟩, by simp [intOf]; omega⟩
            · have i1 : (5 : Int) ≤ (i : Int) := by omega
              go_wp2_with fail
              exact ⟨⟨j + 1, by omega, by go_num, HXX, HBi⟩, by simp [intOf]; omega⟩
        · have j1 : (4 : Int) ≤ (j : Int) := by omega
          have LN := Lib.hid (lists_new wr)
          obtain ⟨wo, rfl⟩ : ∃ W, W = wr := ⟨_, rfl⟩
          have HBA := Lib.hid (((((((HBj.out.alloc HBj.out.size (.cells #[.int .i64 0] 3)).alloc (by simp; have := HBj.out.size; omega) (.cells #[.int .i64 3, .int .i64 (-3)] 3)).alloc (by simp; have := HBj.out.size; omega) (.cells #[.int .i64 1, .int .i64 1, .int .i64 2] 3)).alloc (by simp; have := HBj.out.size; omega) (.cells #[.int .i64 4, .int .i64 1, .int .i64 3, .int .i64 2] 3)).alloc (by simp; have := HBj.out.size; omega) (.cells #[.int .i64 (-9223372036854775808), .int .i64 9223372036854775807, .int .i64 0] 3)).alloc (by simp; have := HBj.out.size; omega)
            (.cells #[.slice none 0 0, .slice (some ⟨wo.heap.size, 0, none⟩) 1 1, .slice (some ⟨wo.heap.size + 1, 0, none⟩) 2 2, .slice (some ⟨wo.heap.size + 1 + 1, 0, none⟩) 3 3, .slice (some ⟨wo.heap.size + 1 + 1 + 1, 0, none⟩) 4 4, .slice (some ⟨wo.heap.size + 1 + 1 + 1 + 1, 0, none⟩) 3 3] 24)))
          go_wp2_with fail
          go_loopw [97] (fun jv wx => ∃ j : Nat, j ≤ 6 ∧ jv = .int .i64 j ∧ Hid (Lists wx (wo.heap.size + 1 + 1 + 1 + 1 + 1)) ∧ Hid (Below w.heap.size w wx)) (fun jv _ => 6 - (intOf jv).toNat)
          case atStart => exact ⟨0, by omega, rfl, LN, HBA⟩
          case round =>
            obtain ⟨i, hi, rfl, HLS, HBi⟩ := hrel
            have i0 : (0 : Int) ≤ (i : Int) := by omega
            by_cases hi6 : i < 6
            · obtain ⟨A, cap, len, hc, zs, hzl, hr, hA, hz⟩ := HLS.out.2 i hi6
              obtain ⟨wp, rfl⟩ : ∃ W, W = wr := ⟨_, rfl⟩
              have QA := Lib.hid (fun q V (hb : Below wp.heap.size wp V) => show Calls Try.prog 17 #[.slice A len cap, .int .i64 q] V (fun e W' => e = .returned (.bool true) ∧ Below V.heap.size V W') from hzl ▸ quants_any A cap zs q V (hr.below hb) hA (by omega))
              have i1 : (i : Int) < 6 := by omega
              clear hr hA hzl hz
              go_wp2_with fail
              go_loopw [13] (fun qv wx => ∃ q : Int, -1250 ≤ q ∧ q ≤ 12500 ∧ qv = .int .i64 q ∧ Hid (Below wp.heap.size wp wx)) (fun qv _ => (12500 - intOf qv).toNat)
              case atStart => exact ⟨-1250, by omega, by omega, rfl, Lib.hid (Below.refl _ _)⟩
              case round =>
                obtain ⟨q, hq0, hq1, rfl, HBq⟩ := hrel
                by_cases hq : q ≤ 11250
                · have Q1 := Lib.hid (QA.out q wr HBq.out)
                  have Q2 := Lib.hid (fun V hb => QA.out (q + 1) V hb)
                  go_wp2_with (first
                    | (go_at_call 17; (with_reducible refine (Q1.out).mono ?_); rintro e x1 ⟨rfl, hb⟩; have D1 := Lib.hid (bel_drop HBq.out hb); clear hb)
                    | (go_at_call 17; (with_reducible refine (Q2.out _ D1.out).mono ?_); rintro e x2 ⟨rfl, hb⟩; have D2 := Lib.hid (bel_drop D1.out hb); clear hb))
                  exact ⟨⟨q + 1250, by omega, by omega, by go_num, D2⟩, by simp [intOf]; omega⟩
                · have q1 : 11250 < q := by omega
                  have HL3 := Lib.hid (HLS.out.below HBq.out)
                  have HB3 := Lib.hid (bel_drop HBi.out HBq.out)
                  go_wp2_with fail
                  exact ⟨⟨i + 1, by omega, by go_num, HL3, HB3⟩, by simp [intOf]; omega⟩
            · have i1 : (6 : Int) ≤ (i : Int) := by omega
              have EN := Lib.hid (ends_any wr)
              go_wp2_with (go_at_call 18; (with_reducible refine (EN.out).mono ?_); rintro e x1 ⟨rfl, hb⟩; have D1 := Lib.hid (bel_drop HBi.out hb); clear hb)
              go_ret
              exact ⟨rfl, D1.out⟩

end Go.Proofs.Ytgbifcfdbelfpaa
