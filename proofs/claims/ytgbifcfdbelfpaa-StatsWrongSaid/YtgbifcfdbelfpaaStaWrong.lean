/-
  The walk of the law StatsWrong.
-/
import Derived.Test.YtgbifcfdbelfpaaStaLaw
namespace Go.Proofs.Ytgbifcfdbelfpaa
open Go.RowKit
set_option linter.unusedVariables false

/-- numbers that are no trials, successes, shares and risks -/
def Bad (N K P R : Int) : Prop := (K < 0 ∨ N < K ∨ shareB P = false) ∧ (K < 0 ∨ N < K ∨ riskB R = false)
/-- six rows of such numbers -/
def Six (g : Nat) (W : World) : Prop := g < W.heap.size ∧ ∀ j, j < 6 → ∃ N K P R : Int, W.cell? ⟨g, j * 4, none⟩ = some (.int .i64 N) ∧ W.cell? ⟨g, j * 4 + 1, none⟩ = some (.int .i64 K) ∧ W.cell? ⟨g, j * 4 + 2, none⟩ = some (.int .i64 P) ∧ W.cell? ⟨g, j * 4 + 3, none⟩ = some (.int .i64 R) ∧ Bad N K P R
theorem Six.below {g : Nat} {W V : World} (h : Six g W) (hb : Below W.heap.size W V) : Six g V := by
  refine ⟨by have := hb.size; have := h.1; omega, fun j hj => ?_⟩
  obtain ⟨N, K, P, R, h1, h2, h3, h4, h5⟩ := h.2 j hj
  exact ⟨N, K, P, R, (bcell hb g _ h.1).trans h1, (bcell hb g _ h.1).trans h2, (bcell hb g _ h.1).trans h3, (bcell hb g _ h.1).trans h4, h5⟩
/-- the four numbers of a row, in a block of their own -/
def Four (g : Nat) (W : World) (N K P R : Int) : Prop := g < W.heap.size ∧ W.cell? ⟨g, 0, none⟩ = some (.int .i64 N) ∧ W.cell? ⟨g, 1, none⟩ = some (.int .i64 K) ∧ W.cell? ⟨g, 2, none⟩ = some (.int .i64 P) ∧ W.cell? ⟨g, 3, none⟩ = some (.int .i64 R)
theorem Four.below {g : Nat} {W V : World} {N K P R : Int} (h : Four g W N K P R) (hb : Below W.heap.size W V) : Four g V N K P R :=
  ⟨by have := hb.size; have := h.1; omega, (bcell hb g _ h.1).trans h.2.1, (bcell hb g _ h.1).trans h.2.2.1, (bcell hb g _ h.1).trans h.2.2.2.1, (bcell hb g _ h.1).trans h.2.2.2.2⟩
theorem four_new (W : World) (N K P R : Int) (t : TypeId) : Four W.heap.size (W.alloc (.cells #[.int .i64 N, .int .i64 K, .int .i64 P, .int .i64 R] t)) N K P R :=
  ⟨by simp, by go_simp, by go_simp, by go_simp, by go_simp⟩
theorem six_new (W : World) (t : TypeId) (n b : Int) (n0 : 0 ≤ n) (b0 : 1 ≤ b) :
    Six W.heap.size (W.alloc (.cells #[.int .i64 n, .int .i64 (-b), .int .i64 1, .int .i64 1, .int .i64 n, .int .i64 (n + b), .int .i64 1, .int .i64 1, .int .i64 n, .int .i64 0, .int .i64 (-b), .int .i64 (1 - b), .int .i64 n, .int .i64 n, .int .i64 (10000 + b), .int .i64 (2000 + b), .int .i64 (-b), .int .i64 0, .int .i64 1, .int .i64 1, .int .i64 (500 + b), .int .i64 (-1), .int .i64 1, .int .i64 1] t)) := by
  refine ⟨by simp, fun j hj => ?_⟩
  have hc : ∀ (v : Array Value) (k : Nat) (u : Value), v[k]? = some u → (W.alloc (.cells v t)).cell? ⟨W.heap.size, k, none⟩ = some u := fun v k u h => by rw [World.cell?_alloc_at _ _ _ _ rfl]; exact h
  rcases (show j = 0 ∨ j = 1 ∨ j = 2 ∨ j = 3 ∨ j = 4 ∨ j = 5 by omega) with rfl | rfl | rfl | rfl | rfl | rfl
  · exact ⟨n, -b, 1, 1, hc _ _ _ rfl, hc _ _ _ rfl, hc _ _ _ rfl, hc _ _ _ rfl, .inl (by omega), .inl (by omega)⟩
  · exact ⟨n, n + b, 1, 1, hc _ _ _ rfl, hc _ _ _ rfl, hc _ _ _ rfl, hc _ _ _ rfl, .inr (.inl (by omega)), .inr (.inl (by omega))⟩
  · exact ⟨n, 0, -b, 1 - b, hc _ _ _ rfl, hc _ _ _ rfl, hc _ _ _ rfl, hc _ _ _ rfl, .inr (.inr (shareB_no (by omega))), .inr (.inr (riskB_no (by omega)))⟩
  · exact ⟨n, n, 10000 + b, 2000 + b, hc _ _ _ rfl, hc _ _ _ rfl, hc _ _ _ rfl, hc _ _ _ rfl, .inr (.inr (shareB_no (by omega))), .inr (.inr (riskB_no (by omega)))⟩
  · exact ⟨-b, 0, 1, 1, hc _ _ _ rfl, hc _ _ _ rfl, hc _ _ _ rfl, hc _ _ _ rfl, .inr (.inl (by omega)), .inr (.inl (by omega))⟩
  · exact ⟨500 + b, -1, 1, 1, hc _ _ _ rfl, hc _ _ _ rfl, hc _ _ _ rfl, hc _ _ _ rfl, .inl (by omega), .inl (by omega)⟩

set_option maxRecDepth 100000 in
set_option maxHeartbeats 16000000 in
theorem walk_statsWrong (a0 : Int) (w0 : (Lit.int .i64 a0).wf = true) (a1 : Int) (w1 : (Lit.int .i64 a1).wf = true) (w : World) :
    Calls Try.prog 13 #[.int .i64 a0, .int .i64 a1] w fun e w' => e = .returned (.bool true) ∧ Below w.heap.size w w' := by
  have AW := Lib.hid (awake_any w)
  have pk := fun W => pick_any a0 501 W (by omega) (by omega)
  have pk2 := fun W => pick_any a1 1099511627776 W (by omega) (by omega)
  have n0 : 0 ≤ a0 % 501 := by omega
  have n1 : a0 % 501 ≤ 500 := by omega
  generalize a0 % 501 = n at *
  have b0 : 0 ≤ a1 % 1099511627776 := by omega
  have b1 : a1 % 1099511627776 ≤ 1099511627776 := by omega
  generalize a1 % 1099511627776 = b at *
  have PK := Lib.hid pk; have PK2 := Lib.hid pk2
  clear pk pk2
  go_enter Try.func13, Try.ntmps13
  go_wp2_with (first
    | (go_at_call 14; (with_reducible refine (AW.out).mono ?_); rintro e x1 ⟨rfl, hb⟩; have Bx1 := Lib.hid hb; clear hb)
    | (go_at_call 19; (with_reducible refine (PK.out _).mono ?_); rintro e _y1 ⟨rfl, rfl⟩)
    | (go_at_call 19; (with_reducible refine (PK2.out _).mono ?_); rintro e _y2 ⟨rfl, rfl⟩))
  have h6 := six_new x1 52 n (1 + b) n0 (by omega)
  have HB0 := Lib.hid (Bx1.out.alloc Bx1.out.size (.cells #[.int .i64 n, .int .i64 (-(1 + b)), .int .i64 1, .int .i64 1, .int .i64 n, .int .i64 (n + (1 + b)), .int .i64 1, .int .i64 1, .int .i64 n, .int .i64 0, .int .i64 (-(1 + b)), .int .i64 (1 - (1 + b)), .int .i64 n, .int .i64 n, .int .i64 (10000 + (1 + b)), .int .i64 (2000 + (1 + b)), .int .i64 (-(1 + b)), .int .i64 0, .int .i64 1, .int .i64 1, .int .i64 (500 + (1 + b)), .int .i64 (-1), .int .i64 1, .int .i64 1] 52))
  have H6 := Lib.hid h6
  clear h6
  go_loopw [67] (fun s67 wr => ∃ j : Nat, j ≤ 6 ∧ s67 = .int .i64 j ∧ Hid (Six x1.heap.size wr) ∧ Hid (Below w.heap.size w wr)) (fun s67 _ => 6 - (intOf s67).toNat)
  case atStart => exact ⟨0, by omega, rfl, H6, HB0⟩
  case round =>
    obtain ⟨j, hj, rfl, HS, HB⟩ := hrel
    by_cases hlt : j < 6
    · obtain ⟨N, K, P, R, e1, e2, e3, e4, hbad⟩ := HS.out.2 j hlt
      have C1 := Lib.hid (fun W => chance_err N K P 2 W (trErr_arg hbad.1) (by decide))
      have C2 := Lib.hid (fun W => upper_err N K P 2 W (trErr_arg hbad.1) (by decide))
      have C3 := Lib.hid (fun W => lower_err N K P 2 W (trErr_arg hbad.1) (by decide))
      have C4 := Lib.hid (fun W => least_err N K R 2 W (trErr_arg hbad.2) (by decide))
      have C5 := Lib.hid (fun W => greatest_err N K R 2 W (trErr_arg hbad.2) (by decide))
      clear hbad
      have y0 : Below wr.heap.size wr (wr.alloc (.cells #[.int .i64 N, .int .i64 K, .int .i64 P, .int .i64 R] 52)) := (Below.refl _ _).alloc (Nat.le_refl _) _
      have HB1 := Lib.hid (HB.out.trans (y0.mono HB.out.size))
      have HS1 := Lib.hid (HS.out.below y0)
      have F0 := Lib.hid (four_new wr N K P R 52)
      clear y0
      go_wp2_with fail
      obtain ⟨y, hy⟩ : ∃ y, y = wr.alloc (.cells #[.int .i64 N, .int .i64 K, .int .i64 P, .int .i64 R] 52) := ⟨_, rfl⟩
      rw [← hy] at HB1 HS1 F0 ⊢
      clear hy
      go_wp2_with (first
        | (go_at_call 22; (with_reducible refine (C1.out y).mono ?_); rintro e y1 ⟨rfl, hb⟩; have By1 := Lib.hid (HB1.out.trans (hb.mono HB1.out.size)); have F1 := Lib.hid (F0.out.below hb); have HS2 := Lib.hid (HS1.out.below hb); obtain ⟨_, q1, q2, q3, q4⟩ := F1.out; clear F0 HS1; clear HB1 hb)
        | (go_at_call 28; (with_reducible refine (C2.out y1).mono ?_); rintro e y2 ⟨rfl, hb⟩; have By2 := Lib.hid (By1.out.trans (hb.mono By1.out.size)); clear q1 q2 q3 q4; have F2 := Lib.hid (F1.out.below hb); have HS3 := Lib.hid (HS2.out.below hb); obtain ⟨_, q1, q2, q3, q4⟩ := F2.out; clear F1 HS2; clear By1 hb)
        | (go_at_call 29; (with_reducible refine (C3.out y2).mono ?_); rintro e y3 ⟨rfl, hb⟩; have By3 := Lib.hid (By2.out.trans (hb.mono By2.out.size)); clear q1 q2 q3 q4; have F3 := Lib.hid (F2.out.below hb); have HS4 := Lib.hid (HS3.out.below hb); obtain ⟨_, q1, q2, q3, q4⟩ := F3.out; clear F2 HS3; clear By2 hb)
        | (go_at_call 23; (with_reducible refine (C4.out y3).mono ?_); rintro e y4 ⟨rfl, hb⟩; have By4 := Lib.hid (By3.out.trans (hb.mono By3.out.size)); clear q1 q2 q3 q4; have F4 := Lib.hid (F3.out.below hb); have HS5 := Lib.hid (HS4.out.below hb); obtain ⟨_, q1, q2, q3, q4⟩ := F4.out; clear F3 HS4; clear By3 hb)
        | (go_at_call 24; (with_reducible refine (C5.out y4).mono ?_); rintro e y5 ⟨rfl, hb⟩; have By5 := Lib.hid (By4.out.trans (hb.mono By4.out.size)); clear q1 q2 q3 q4; have F5 := Lib.hid (F4.out.below hb); have HS6 := Lib.hid (HS5.out.below hb); obtain ⟨_, q1, q2, q3, q4⟩ := F5.out; clear F4 HS5; clear By4 hb))
      go_roundw
      case rel => exact ⟨j + 1, by omega, by go_num, HS6, By5⟩
      case measure => simp [intOf]; omega
    · obtain rfl : j = 6 := by omega
      have D1 := Lib.hid (fun W => choose_err (500 + (1 + b)) 0 3 W (trErr_long (by omega) (by omega) (by omega)) (by decide))
      have D2 := Lib.hid (fun W => least_err (500 + (1 + b)) (500 + (1 + b)) 1 3 W (trErr_long (by omega) (by omega) (by omega)) (by decide))
      have D3 := Lib.hid (fun W => greatest_err (500 + (1 + b)) 0 1 3 W (trErr_long (by omega) (by omega) (by omega)) (by decide))
      have D4 := Lib.hid (fun A c W => show Calls Try.prog 37 #[.slice A 1 c, .int .i64 (10000 + (1 + b))] W (PostIntErr 2 W) from quantile_arg A c 1 (10000 + (1 + b)) W (by omega) (shareB_no (by omega)))
      have D5 := Lib.hid (fun W => show Calls Try.prog 37 #[.slice none 0 0, .int .i64 (-(1 + b))] W (PostIntErr 2 W) from quantile_arg none 0 0 (-(1 + b)) W (by omega) (shareB_no (by omega)))
      go_wp2_with (first
        | (go_at_call 32; (with_reducible refine (D1.out wr).mono ?_); rintro e z1 ⟨rfl, hb⟩; have Bz1 := Lib.hid (HB.out.trans (hb.mono HB.out.size)); clear HB hb)
        | (go_at_call 23; (with_reducible refine (D2.out z1).mono ?_); rintro e z2 ⟨rfl, hb⟩; have Bz2 := Lib.hid (Bz1.out.trans (hb.mono Bz1.out.size)); clear Bz1 hb)
        | (go_at_call 24; (with_reducible refine (D3.out z2).mono ?_); rintro e z3 ⟨rfl, hb⟩; have Bz3 := Lib.hid (Bz2.out.trans (hb.mono Bz2.out.size)); clear Bz2 hb))
      have HB5 := Lib.hid (Bz3.out.alloc Bz3.out.size (.cells #[.int .i64 1] 3))
      obtain ⟨y, hy⟩ : ∃ y, y = z3.alloc (.cells #[.int .i64 1] 3) := ⟨_, rfl⟩
      rw [← hy] at HB5 ⊢
      clear hy
      go_wp2_with (first
        | (go_at_call 37; (with_reducible refine (D4.out _ _ y).mono ?_); rintro e v1 ⟨rfl, hb⟩; have Bv1 := Lib.hid (HB5.out.trans (hb.mono HB5.out.size)); clear HB5 hb)
        | (go_at_call 37; (with_reducible refine (D5.out v1).mono ?_); rintro e v2 ⟨rfl, hb⟩; have Bv2 := Lib.hid (Bv1.out.trans (hb.mono Bv1.out.size)); clear Bv1 hb))
      go_ret
      exact ⟨rfl, Bv2.out⟩
end Go.Proofs.Ytgbifcfdbelfpaa
