/-
  The reference's Right, may and Distance.
-/
import Derived.Test.YthojojjdamchpaaEdiRefTab
namespace Go.Proofs.Ythojojjdamchpaa
open Go.RowKit Go.Shelf
set_option linter.unusedVariables false
set_option linter.unusedSimpArgs false

set_option maxRecDepth 100000 in
set_option maxHeartbeats 4000000 in
theorem rightF_any (c : Ed.Cst) (w : World) : Calls Try.prog 16 #[cstV c] w fun e w' => e = .returned (.bool (decide c.ok)) ∧ Below w.heap.size w w' := by
  have hok : c.ok ↔ 1 ≤ c.ins ∧ c.ins ≤ 1000 ∧ 1 ≤ c.del ∧ c.del ≤ 1000 ∧ 1 ≤ c.chg ∧ c.chg ≤ 1000 ∧ 1 ≤ c.swp ∧ c.swp ≤ 1000 := by
    unfold Ed.Cst.ok
    constructor <;> intro h <;> omega
  unfold cstV
  rcases (show (¬ 1 ≤ c.ins) ∨ (1 ≤ c.ins ∧ ¬ c.ins ≤ 1000) ∨ (1 ≤ c.ins ∧ c.ins ≤ 1000 ∧ ¬ 1 ≤ c.del) ∨ (1 ≤ c.ins ∧ c.ins ≤ 1000 ∧ 1 ≤ c.del ∧ ¬ c.del ≤ 1000) ∨ (1 ≤ c.ins ∧ c.ins ≤ 1000 ∧ 1 ≤ c.del ∧ c.del ≤ 1000 ∧ ¬ 1 ≤ c.chg) ∨ (1 ≤ c.ins ∧ c.ins ≤ 1000 ∧ 1 ≤ c.del ∧ c.del ≤ 1000 ∧ 1 ≤ c.chg ∧ ¬ c.chg ≤ 1000) ∨ (1 ≤ c.ins ∧ c.ins ≤ 1000 ∧ 1 ≤ c.del ∧ c.del ≤ 1000 ∧ 1 ≤ c.chg ∧ c.chg ≤ 1000 ∧ ¬ 1 ≤ c.swp) ∨ (1 ≤ c.ins ∧ c.ins ≤ 1000 ∧ 1 ≤ c.del ∧ c.del ≤ 1000 ∧ 1 ≤ c.chg ∧ c.chg ≤ 1000 ∧ 1 ≤ c.swp ∧ ¬ c.swp ≤ 1000) ∨ (1 ≤ c.ins ∧ c.ins ≤ 1000 ∧ 1 ≤ c.del ∧ c.del ≤ 1000 ∧ 1 ≤ c.chg ∧ c.chg ≤ 1000 ∧ 1 ≤ c.swp ∧ c.swp ≤ 1000) by omega) with an | ⟨a0, an⟩ | ⟨a0, a1, an⟩ | ⟨a0, a1, a2, an⟩ | ⟨a0, a1, a2, a3, an⟩ | ⟨a0, a1, a2, a3, a4, an⟩ | ⟨a0, a1, a2, a3, a4, a5, an⟩ | ⟨a0, a1, a2, a3, a4, a5, a6, an⟩ | ⟨a0, a1, a2, a3, a4, a5, a6, a7⟩
  all_goals
    first
      | rw [decide_eq_false (show ¬ c.ok from fun h => by have := hok.1 h; omega)]
      | rw [decide_eq_true (hok.2 (by omega))]
    clear hok
    go_enter Try.func16, Try.ntmps16
    go_wp2
    go_ret
    exact ⟨rfl, below_new w _⟩
set_option maxRecDepth 100000 in
set_option maxHeartbeats 4000000 in
theorem may_any (a b : ByteArray) (c : Ed.Cst) (w : World) : Calls Try.prog 24 #[.string a, .string b, cstV c] w (PostN (errOf c a b) w) := by
  obtain ⟨W1, hW1, hb1, hq1, hcb⟩ := cboxF w c
  have rt := fun V => rightF_any c V
  unfold cstV at rt ⊢
  unfold PostN errOf
  obtain ⟨q0, q1, q2, q3⟩ := hcb
  have HB := Lib.hid hb1
  clear hb1
  by_cases hc : c.ok
  · rw [if_pos hc]
    rw [decide_eq_true hc] at rt
    have RT := Lib.hid rt
    clear rt hc
    by_cases ha : 60 < a.size
    · rw [if_pos (.inl ha)]
      have g1 : decide ((60 : Int) < (a.size : Int)) = true := decide_eq_true (by omega)
      go_enter Try.func24, Try.ntmps24
      go_wp2_with fail
      rw [← hW1]
      clear hW1
      go_wp2_with (go_at_call 16; (with_reducible refine (RT.out _).mono ?_); rintro e V ⟨rfl, hb⟩; have HB2 := Lib.hid (HB.out.trans (hb.mono HB.out.size)); clear hb q0 q1 q2 q3)
      go_ret
      exact ⟨rfl, HB2.out⟩
    · have g1 : decide ((60 : Int) < (a.size : Int)) = false := decide_eq_false (by omega)
      by_cases hb : 60 < b.size
      · rw [if_pos (.inr hb)]
        have g2 : decide ((60 : Int) < (b.size : Int)) = true := decide_eq_true (by omega)
        go_enter Try.func24, Try.ntmps24
        go_wp2_with fail
        rw [← hW1]
        clear hW1
        go_wp2_with (go_at_call 16; (with_reducible refine (RT.out _).mono ?_); rintro e V ⟨rfl, hb⟩; have HB2 := Lib.hid (HB.out.trans (hb.mono HB.out.size)); clear hb q0 q1 q2 q3)
        go_ret
        exact ⟨rfl, HB2.out⟩
      · rw [if_neg (by omega)]
        have g2 : decide ((60 : Int) < (b.size : Int)) = false := decide_eq_false (by omega)
        go_enter Try.func24, Try.ntmps24
        go_wp2_with fail
        rw [← hW1]
        clear hW1
        go_wp2_with (go_at_call 16; (with_reducible refine (RT.out _).mono ?_); rintro e V ⟨rfl, hb⟩; have HB2 := Lib.hid (HB.out.trans (hb.mono HB.out.size)); clear hb q0 q1 q2 q3)
        go_ret
        exact ⟨rfl, HB2.out⟩
  · rw [if_neg hc]
    rw [decide_eq_false hc] at rt
    have RT := Lib.hid rt
    clear rt hc
    go_enter Try.func24, Try.ntmps24
    go_wp2_with fail
    rw [← hW1]
    clear hW1
    go_wp2_with (go_at_call 16; (with_reducible refine (RT.out _).mono ?_); rintro e V ⟨rfl, hb⟩; have HB2 := Lib.hid (HB.out.trans (hb.mono HB.out.size)); clear hb q0 q1 q2 q3)
    go_ret
    exact ⟨rfl, HB2.out⟩
theorem err_zero {c : Ed.Cst} {a b : ByteArray} (h : errOf c a b = 0) : c.ok ∧ a.size ≤ 60 ∧ b.size ≤ 60 := by
  unfold errOf at h
  by_cases hc : c.ok
  · rw [if_pos hc] at h
    by_cases h2 : 60 < a.size ∨ 60 < b.size
    · rw [if_pos h2] at h; omega
    · exact ⟨hc, by omega, by omega⟩
  · rw [if_neg hc] at h; omega
set_option maxRecDepth 100000 in
set_option maxHeartbeats 4000000 in
theorem refDist_any (a b : ByteArray) (c : Ed.Cst) (w : World) : Calls Try.prog 14 #[.string a, .string b, cstV c] w fun e w' => e = .returned (.tuple #[.int .i64 (if errOf c a b = 0 then Ed.D c (tx a) (tx b) else 0), .int .i64 (errOf c a b)]) ∧ Below w.heap.size w w' := by
  obtain ⟨W1, hW1, hb1, hq1, hcb⟩ := cboxF w c
  have mt := fun V => may_any a b c V
  by_cases he : errOf c a b = 0
  · rw [if_pos he]
    obtain ⟨hc, ha, hb⟩ := err_zero he
    have tt := fun V => table_any a b c hc ha hb V
    rw [he] at mt ⊢
    unfold cstV PostN at mt
    unfold cstV at tt ⊢
    have MT := Lib.hid mt; have TT := Lib.hid tt
    have HC := Lib.hid hcb
    obtain ⟨q0, q1, q2, q3⟩ := hcb
    have HB := Lib.hid hb1
    clear hb1 mt tt he hc
    go_enter Try.func14, Try.ntmps14
    go_wp2_with fail
    rw [← hW1]
    clear hW1
    go_wp2_with (first
      | (go_at_call 24; (with_reducible refine (MT.out _).mono ?_); rintro e V ⟨rfl, hb⟩; clear q0 q1 q2 q3; obtain ⟨q0, q1, q2, q3⟩ := HC.out; have q0 := cell_keep q0 hb; have q1 := cell_keep q1 hb; have q2 := cell_keep q2 hb; have q3 := cell_keep q3 hb; have HB2 := Lib.hid (HB.out.trans (hb.mono HB.out.size)); clear hb)
      | (go_at_call 25; (with_reducible refine (TT.out _).mono ?_); rintro e V3 ⟨Bd, hi, rfl, htd, hb⟩; obtain ⟨blk, z0, -, z1⟩ := htd.get (i := 0) (by omega) (by omega); have z1 := z1 0 (by omega); unfold sl at z0 ⊢; have HB3 := Lib.hid (HB2.out.trans (hb.mono HB2.out.size)); clear hb q0 q1 q2 q3 htd; have u0 : (0 : Int) < (a.size : Int) + 1 := (by omega); have u1 : (0 : Int) < (b.size : Int) + 1 := (by omega)))
    go_ret2
    exact ⟨rfl, HB3.out⟩
  · rw [if_neg he]
    unfold cstV PostN at mt
    unfold cstV
    have hne : (errOf c a b != 0) = true := by rw [bne_iff_ne]; exact he
    obtain ⟨E, hE⟩ : ∃ E, errOf c a b = E := ⟨_, rfl⟩
    rw [hE] at mt hne ⊢
    have MT := Lib.hid mt
    obtain ⟨q0, q1, q2, q3⟩ := hcb
    have HB := Lib.hid hb1
    clear hb1 mt he hE
    go_enter Try.func14, Try.ntmps14
    go_wp2_with fail
    rw [← hW1]
    clear hW1
    go_wp2_with (go_at_call 24; (with_reducible refine (MT.out _).mono ?_); rintro e V ⟨rfl, hb⟩; have HB2 := Lib.hid (HB.out.trans (hb.mono HB.out.size)); clear hb q0 q1 q2 q3)
    go_ret2
    exact ⟨rfl, HB2.out⟩
end Go.Proofs.Ythojojjdamchpaa
