/-
  The walk of least: the distance at a place, by the distances that each step leads to.
-/
import Derived.Test.YthojojjdamchpaaEdiMap
import Derived.Test.YthojojjdamchpaaEdiStep3
import Derived.Test.YthojojjdamchpaaEdiStep3b
import Derived.BigQuiet
namespace Go.Proofs.Ythojojjdamchpaa
open Go.RowKit
set_option linter.unusedVariables false
set_option linter.unusedSimpArgs false

/-- a closure of a step, at places that are at most the ends -/
theorem fn_tells (c : Ed.Cst) (A B C : Nat) (a b : ByteArray) (i j k : Nat) (ha : a.size ≤ 1000) (hb : b.size ≤ 1000) (hi : i ≤ a.size) (hj : j ≤ b.size) (h1 : 1 ≤ k) (h5 : k ≤ 5) :
    ∃ g lb, fnOf A B C k = .func (.func g) #[] lb ∧ (∀ args w, (callFunc g args).run Try.prog w = .ok (.enter g args) w) ∧
      ∀ W, Caps W A B C a b c → Calls Try.prog g (#[.int .i64 i, .int .i64 j] ++ lb) W (PostSt c k (Ed.fit k ((tx a).drop i) ((tx b).drop j)) W) := by
  rcases (show k = 1 ∨ k = 2 ∨ k = 3 ∨ k = 4 ∨ k = 5 by omega) with rfl | rfl | rfl | rfl | rfl
  · exact ⟨_, _, rfl, enters_of Try.func32 (by kernel_rfl) rfl, fun W h => st1_any c A B C a b i j W ha hb h.ca h.cb⟩
  · exact ⟨_, _, rfl, enters_of Try.func33 (by kernel_rfl) rfl, fun W h => st2_any c A B C a b i j W ha hb h.ca h.cb h.c2⟩
  · refine ⟨_, _, rfl, enters_of Try.func34 (by kernel_rfl) rfl, fun W h => ?_⟩
    by_cases hi1 : i + 1 < a.size
    · by_cases hj1 : j + 1 < b.size
      · exact st3_yes c A B C a b i j W ha hb h.ca h.cb h.c3 hi1 hj1
      · exact st3_b c A B C a b i j W ha hb h.ca h.cb h.c3 (by omega) hi1 (by omega)
    · exact st3_a c A B C a b i j W ha hb h.ca h.cb h.c3 (by omega) (by omega) (by omega)
  · exact ⟨_, _, rfl, enters_of Try.func35 (by kernel_rfl) rfl, fun W h => st4_any c A B C a b i j W ha hb h.ca h.c1⟩
  · exact ⟨_, _, rfl, enters_of Try.func36 (by kernel_rfl) rfl, fun W h => st5_any c A B C a b i j W ha hb h.cb h.c0⟩

theorem below_drewN {n : Nat} {w X : World} (h : Below n w X) (k : Nat) : Below n w (X.drewN k) := by
  induction k with
  | zero => exact h
  | succ k ih => exact ih.drew
/-- a row as a slice -/
def sl (R n : Nat) : Value := .slice (some ⟨R, 0, none⟩) n n
def turnsV (R : Nat → Nat) (n : Nat) : Value := .agg #[sl (R 0) n, sl (R 1) n, sl (R 2) n]
theorem step_new (w : World) (x y z : Value) : (w.alloc (.cells #[x, y, z] 79)).cell? ⟨w.heap.size, 0, none⟩ = some x ∧
    (w.alloc (.cells #[x, y, z] 79)).cell? ⟨w.heap.size, 1, none⟩ = some y ∧ (w.alloc (.cells #[x, y, z] 79)).cell? ⟨w.heap.size, 2, none⟩ = some z := by
  refine ⟨?_, ?_, ?_⟩ <;> go_simp
def PostI (z : Int) (w : World) (e : Ending) (w' : World) : Prop := e = .returned (.int .i64 z) ∧ Below w.heap.size w w'

set_option maxRecDepth 100000 in
set_option maxHeartbeats 4000000 in
theorem least_any (c : Ed.Cst) (A B C : Nat) (a b : ByteArray) (R : Nat → Nat) (n i j : Nat) (F : Nat → Int) (w : World) (hc : c.ok) (ha : a.size ≤ 60) (hb : b.size ≤ 60) (hi : i ≤ a.size) (hj : j ≤ b.size) (hn : n = b.size + 1)
    (hcap : Caps w A B C a b c) (hF : ∀ k, 1 ≤ k → k ≤ 5 → Ed.fit k ((tx a).drop i) ((tx b).drop j) = true → w.cell? ⟨R ((i + Ed.tk k) % 3), j + Ed.wr k, none⟩ = some (.int .i64 (F k)) ∧ 0 ≤ F k ∧ F k ≤ 200000) :
    Calls Try.prog 30 #[ordV A B C, turnsV R n, .int .i64 i, .int .i64 j] w (PostI ((Ed.lst (fun k => Ed.cst c k + F k) ((tx a).drop i) ((tx b).drop j) 5).getD 0) w) := by
  obtain ⟨W1, hW1⟩ : ∃ W1, W1 = w.alloc (.cells #[.nilFunc, fn1 A B, fn2 A B C, fn3 A B C, fn4 A C, fn5 B C] 73) := ⟨_, rfl⟩
  obtain ⟨W2, hW2⟩ : ∃ W2, W2 = W1.alloc (.cells #[sl (R 0) n, sl (R 1) n, sl (R 2) n] 70) := ⟨_, rfl⟩
  have b1 : Below w.heap.size w W1 := by rw [hW1]; exact below_new w _
  have b2 : Below W1.heap.size W1 W2 := by rw [hW2]; exact below_new W1 _
  have hs : W1.heap.size = w.heap.size + 1 := by rw [hW1]; simp
  have b12 : Below w.heap.size w W2 := b1.trans (b2.mono (by omega))
  have o6 : W1.heap[w.heap.size]? = some (.cells #[.nilFunc, fn1 A B, fn2 A B C, fn3 A B C, fn4 A C, fn5 B C] 73 (0, 0)) := by rw [hW1]; exact heap_alloc_new w _
  have O6 := Lib.hid ((b2.block _ (by omega)).trans o6)
  have o3 : W2.heap[w.heap.size + 1]? = some (.cells #[sl (R 0) n, sl (R 1) n, sl (R 2) n] 70 (0, 0)) := by rw [← hs, hW2]; exact heap_alloc_new W1 _
  have O3 := Lib.hid o3
  have B12 := Lib.hid b12; have HCap := Lib.hid (hcap.below b12)
  have HF := Lib.hid (fun k h1 h2 h3 => And.intro (cell_keep (hF k h1 h2 h3).1 b12) (hF k h1 h2 h3).2)
  have hW : W2 = (w.alloc (.cells #[.nilFunc, fn1 A B, fn2 A B C, fn3 A B C, fn4 A C, fn5 B C] 73)).alloc (.cells #[sl (R 0) n, sl (R 1) n, sl (R 2) n] 70) := by rw [hW2, hW1]
  have hsz : W2.heap.size = w.heap.size + 2 := by rw [hW]; simp
  have HW := Lib.hid hW; have HSZ := Lib.hid hsz
  have HN := Lib.hid hn
  clear hF hcap b12 b1 b2 o6 o3 hW1 hW2 hs hW hsz hn
  obtain ⟨G, hG⟩ : ∃ G : Nat → Option Int, G = Ed.lst (fun k => Ed.cst c k + F k) ((tx a).drop i) ((tx b).drop j) := ⟨_, rfl⟩
  have HG0 := Lib.hid (show G 0 = none by rw [hG]; rfl)
  have HGs := Lib.hid (fun m => show G (m + 1) = (if Ed.fit (m + 1) ((tx a).drop i) ((tx b).drop j) then some ((G m).elim (Ed.cst c (m + 1) + F (m + 1)) (fun v => min v (Ed.cst c (m + 1) + F (m + 1)))) else G m) by rw [hG]; rfl)
  rw [← hG]
  clear hG
  unfold ordV turnsV
  go_enter Try.func30, Try.ntmps30
  go_wp2
  rw [← HW.out]
  have HC := Lib.hid hc
  have hin : (i : Int) ≤ 60 := by omega
  have hjn : (j : Int) ≤ 60 := by omega
  clear hc
  go_loopw [9, 10, 18] (fun s9 s10 s18 wr => ∃ (m : Nat) (v : Int) (f : Bool), m ≤ 5 ∧ s18 = .int .i64 m ∧ s9 = .int .i64 v ∧ s10 = .bool f ∧ 0 ≤ v ∧ v ≤ 300000 ∧ Hid ((f = true ∧ G m = some v ∨ f = false ∧ v = 0 ∧ G m = none) ∧ Below W2.heap.size W2 wr)) (fun _ _ s18 _ => 5 - (intOf s18).toNat)
  case atStart => exact ⟨0, 0, false, by omega, rfl, rfl, rfl, by omega, by omega, Lib.hid ⟨.inr ⟨rfl, rfl, HG0.out⟩, Below.refl _ _⟩⟩
  case round =>
    obtain ⟨m, v, f, hm, rfl, rfl, rfl, hv0, hv1, HS⟩ := hrel
    by_cases hlt : m < 5
    · obtain ⟨g, lb, e1, eg, e2⟩ := fn_tells c A B C a b i j (m + 1) (by omega) (by omega) hi hj (by omega) (by omega)
      have hx : wr.cell? ⟨w.heap.size, 1 + m, none⟩ = some (.func (.func g) #[] lb) := by
        rw [← e1]
        have hr := row6 O6.out
        obtain ⟨⟨q0, q1, q2, q3, q4, q5⟩, _⟩ := hr
        have hb := HS.out.2
        rcases (show m = 0 ∨ m = 1 ∨ m = 2 ∨ m = 3 ∨ m = 4 by omega) with rfl | rfl | rfl | rfl | rfl
        · exact cell_keep q1 hb
        · exact cell_keep q2 hb
        · exact cell_keep q3 hb
        · exact cell_keep q4 hb
        · exact cell_keep q5 hb
      have hcall := e2 wr (HCap.out.below HS.out.2)
      have hgs := HGs.out m
      have hst := fun (h : Ed.fit (m + 1) ((tx a).drop i) ((tx b).drop j) = true) => HF.out (m + 1) (by omega) (by omega) h
      obtain ⟨T, hT⟩ : ∃ T, Ed.tk (m + 1) = T := ⟨_, rfl⟩
      obtain ⟨U, hU⟩ : ∃ U, Ed.wr (m + 1) = U := ⟨_, rfl⟩
      obtain ⟨Z, hZ⟩ : ∃ Z, Ed.cst c (m + 1) = Z := ⟨_, rfl⟩
      obtain ⟨Y, hY⟩ : ∃ Y, F (m + 1) = Y := ⟨_, rfl⟩
      have hz0 : 0 ≤ Z := by rw [← hZ]; exact Ed.cst_nonneg HC.out _
      have hz1 : Z ≤ 1000 := by rw [← hZ]; exact Ed.cst_max HC.out _
      have hT2 : T ≤ 2 := by rw [← hT]; unfold Ed.tk; repeat' split
                             all_goals omega
      have hU2 : U ≤ 2 := by rw [← hU]; unfold Ed.wr; repeat' split
                             all_goals omega
      unfold PostSt stV at hcall
      have hlen := fun (h : Ed.fit (m + 1) ((tx a).drop i) ((tx b).drop j) = true) => (Ed.fit_len h).2.1
      rw [hT, hU, hZ] at hcall
      rw [hZ, hY] at hgs
      simp only [hT, hU, hY] at hst
      simp only [hU, List.length_drop, tx_len] at hlen
      obtain ⟨ft, hft⟩ : ∃ ft, Ed.fit (m + 1) ((tx a).drop i) ((tx b).drop j) = ft := ⟨_, rfl⟩
      rw [hft] at hcall hgs
      simp only [hft] at hst hlen
      have HQ := Lib.hid hcall; have HGS := Lib.hid hgs; have HST := Lib.hid hst; have HLen := Lib.hid hlen
      have hm1 : (m : Int) < 5 := by omega
      clear e1 e2 hcall hgs hst hT hU hZ hY hft hlen
      cases ft with
      | false =>
        go_wp2_with (go_at_fn g; (with_reducible refine HQ.out.mono ?_); rintro e V ⟨rfl, hb⟩; have HB := Lib.hid hb; clear hb)
        go_roundw
        case rel =>
          have hb := HS.out.2
          refine ⟨m + 1, v, f, by omega, by go_num, rfl, rfl, hv0, hv1, Lib.hid ⟨?_, (hb.trans (HB.out.mono hb.size)).trans ((below_new _ _).mono (hb.trans (HB.out.mono hb.size)).size)⟩⟩
          rw [show G (m + 1) = G m by rw [HGS.out]; rfl]
          exact HS.out.1
        case measure => simp [intOf]; omega
      | true =>
        obtain ⟨t, ht⟩ : ∃ t, (i + T) % 3 = t := ⟨_, rfl⟩
        have ht3 : t < 3 := by omega
        obtain ⟨hR, hY0, hY1⟩ := HST.out rfl
        rw [ht] at hR
        obtain ⟨Rt, hRt⟩ : ∃ x, R t = x := ⟨_, rfl⟩
        rw [hRt] at hR
        have hT3 : W2.cell? ⟨w.heap.size + 1, t, none⟩ = some (.slice (some ⟨Rt, 0, none⟩) n n) := by
          obtain ⟨⟨p0, p1, p2⟩, _⟩ := res_facts O3.out
          rw [← hRt]
          rcases (show t = 0 ∨ t = 1 ∨ t = 2 by omega) with rfl | rfl | rfl
          · exact p0
          · exact p1
          · exact p2
        have hjU : j + U < n := by have := HLen.out rfl; have := HN.out; omega
        have HR := Lib.hid hR; have HT := Lib.hid hT3
        have e1 : ((i : Int) + (T : Int)) % 3 = (t : Int) := by omega
        have e2 : ((i : Int) + (T : Int)).tmod 3 = (t : Int) := by rw [Int.tmod_eq_emod_of_nonneg (by omega)]; omega
        clear hR hT3 hRt ht
        go_wp2_with (first
          | (go_at_fn g; (with_reducible refine HQ.out.mono ?_); rintro e V ⟨rfl, hb⟩; have hbV := HS.out.2.trans (hb.mono HS.out.2.size); have HBV := Lib.hid (hbV.trans ((below_new V (.cells #[.int .i64 T, .int .i64 U, .int .i64 Z] 79)).mono hbV.size)); obtain ⟨d0, d1, d2⟩ := step_new V (.int .i64 T) (.int .i64 U) (.int .i64 Z); have d3 := cell_keep HT.out HBV.out; have d4 := cell_keep HR.out HBV.out; clear hb hbV))
        go_quiet (fail)
        have HZY := Lib.hid (show 0 ≤ Z + Y ∧ Z + Y ≤ 300000 by omega)
        cases f with
        | false =>
          go_wp2
          go_roundw
          case rel =>
            refine ⟨m + 1, Z + Y, true, by omega, by go_num, rfl, rfl, HZY.out.1, HZY.out.2, Lib.hid ⟨.inl ⟨rfl, ?_⟩, below_drewN HBV.out _⟩⟩
            rcases HS.out.1 with ⟨h, _⟩ | ⟨_, _, h⟩
            · cases h
            · rw [HGS.out, h]; rfl
          case measure => simp [intOf]; omega
        | true =>
          have hg : G m = some v := by
            rcases HS.out.1 with ⟨_, h⟩ | ⟨h, _⟩
            · exact h
            · cases h
          have hg1 : G (m + 1) = some (min v (Z + Y)) := by rw [HGS.out, hg]; rfl
          by_cases hlt2 : Z + Y < v
          · rw [Int.min_eq_right (by omega)] at hg1
            have HG1 := Lib.hid hg1
            have hd : decide (Z + Y < v) = true := decide_eq_true hlt2
            clear hg hg1
            go_wp2
            go_roundw
            case rel => exact ⟨m + 1, Z + Y, true, by omega, by go_num, rfl, rfl, HZY.out.1, HZY.out.2, Lib.hid ⟨.inl ⟨rfl, HG1.out⟩, below_drewN HBV.out _⟩⟩
            case measure => simp [intOf]; omega
          · rw [Int.min_eq_left (by omega)] at hg1
            have HG1 := Lib.hid hg1
            have hd : decide (Z + Y < v) = false := decide_eq_false hlt2
            clear hg hg1
            go_wp2
            go_roundw
            case rel => exact ⟨m + 1, v, true, by omega, by go_num, rfl, rfl, hv0, hv1, Lib.hid ⟨.inl ⟨rfl, HG1.out⟩, below_drewN HBV.out _⟩⟩
            case measure => simp [intOf]; omega
    · obtain rfl : m = 5 := by omega
      have h := HS.out
      have HV := Lib.hid (show v = (G 5).getD 0 by
        rcases h.1 with ⟨_, h⟩ | ⟨_, h, h2⟩
        · rw [h]; rfl
        · rw [h2, h]; rfl)
      clear h
      go_wp2
      go_ret
      exact ⟨ret_int HV.out, B12.out.trans (HS.out.2.mono B12.out.size)⟩
end Go.Proofs.Ythojojjdamchpaa
