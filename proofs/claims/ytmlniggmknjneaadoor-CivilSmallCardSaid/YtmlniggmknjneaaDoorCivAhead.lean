/-
  The walk of the law CivilAhead.
-/
import Derived.Test.YtmlniggmknjneaaDoorCivList
namespace Go.Proofs.YtmlniggmknjneaaDoor
open Go.RowKit
set_option linter.unusedVariables false

theorem ahead_all (day n : Int) (A : Option Addr) (cap : Nat) (zs : List Int) (w : World) (hr : Rd w A zs) (h1 : Cv.rightB zs = true) (h2 : 0 ≤ day) (h3 : 0 ≤ n) (h4 : day ≤ 730484) :
    Calls Tryd.prog 36 #[.int .i64 day, .int .i64 n, .slice A zs.length cap] w (PostA zs day n w) := by
  by_cases h5 : n ≤ 730484
  · exact ahead_yes day n A cap zs w hr h1 h2 h3 h4 h5
  · refine (ahead_long day n A cap zs w hr h1 h2 h3 (.inr (by omega))).mono ?_
    rintro e w' ⟨rfl, hb⟩
    have := (Cv.wif_mono (-1) zs (right_parts h1).2 day 730485 (by omega)).2
    exact ⟨0, 3, rfl, .inr ⟨rfl, rfl, by omega⟩, hb⟩
/-- behind the last day there is none -/
theorem ahead_out (day : Int) (A : Option Addr) (cap : Nat) (zs : List Int) (w : World) (hr : Rd w A zs) (h1 : Cv.rightB zs = true) (h4 : 730484 < day) :
    Calls Tryd.prog 36 #[.int .i64 day, .int .i64 0, .slice A zs.length cap] w (PostR 0 3 w) :=
  ahead_long day 0 A cap zs w hr h1 (by omega) (by omega) (.inl h4)

theorem row_rd {k : IntKind} {w : World} {a : Option Addr} {len cap : Nat} {zs : List Int} (h : IsRow k w a len cap zs) : (zs.take len).length = len ∧ RdK k w a (zs.take len) := by
  rcases h with ⟨rfl, rfl, rfl, rfl⟩ | ⟨x, rfl, hl, hm, hz, hc, hw⟩
  · exact ⟨rfl, fun h => by simp at h⟩
  · have e : (zs.take len).length = len := by rw [List.length_take]; omega
    refine ⟨e, fun h0 => ?_⟩
    obtain ⟨b, off, spot⟩ := x
    have h00 := hc 0 (by omega)
    have hspot : spot = none := by simpa [Addr.add] using World.cell?_spot h00
    subst hspot
    have hb := World.block_lt_of_cell? _ _ h00
    refine ⟨b, off, rfl, by simpa [Addr.add] using hb, fun i hi => ?_⟩
    have := hc i (by omega)
    have ea : (⟨b, off, none⟩ : Addr).add i = ⟨b, off + i, none⟩ := by unfold Addr.add; split <;> simp [*]
    rw [ea] at this
    rw [this, List.getD_eq_getElem?_getD, List.getD_eq_getElem?_getD, List.getElem?_take, if_pos (by omega)]
theorem row_bd {k : IntKind} {w : World} {a : Option Addr} {len cap : Nat} {zs : List Int} (h : IsRow k w a len cap zs) (i : Nat) (hi : i < (zs.take len).length) : (Lit.int k ((zs.take len).getD i 0)).wf = true := by
  rcases h with ⟨rfl, rfl, rfl, rfl⟩ | ⟨x, rfl, hl, hm, hz, hc, hw⟩
  · simp at hi
  · refine hw _ ?_
    rw [List.getD_eq_getElem?_getD, List.getElem?_eq_getElem hi]
    exact List.mem_of_mem_take (List.getElem_mem hi)
theorem u16_bd {a : Int} (h : (Lit.int .u16 a).wf = true) : 0 ≤ a ∧ a ≤ 65535 := by
  simp [Lit.wf, IntKind.min, IntKind.max, IntKind.signed, IntKind.bits] at h
  omega
theorem row_len {k : IntKind} {w : World} {a : Option Addr} {len cap : Nat} {zs : List Int} (h : IsRow k w a len cap zs) : len ≤ 9223372036854775807 := by
  rcases h with ⟨rfl, rfl, rfl, rfl⟩ | ⟨x, rfl, hl, hm, hz, hc, hw⟩
  · omega
  · unfold maxLen at hm; omega

/-- the law's list at a slice that came in -/
theorem list_row (a : Option Addr) (len cap : Nat) (zs : List Int) (w W : World) (hr : IsRow .u16 w a len cap zs) (hb : Below w.heap.size w W) :
    Calls Tryd.prog 32 #[.slice a len cap] W (PostL W) := by
  obtain ⟨e, hrd⟩ := row_rd hr
  have := list_any a cap (zs.take len) W (hrd.below hb) (by rw [e]; exact row_len hr) (fun k hk => u16_bd (row_bd hr k hk))
  rw [e] at this
  exact this

set_option maxHeartbeats 4000000 in
theorem walk_civilAhead (w : World) (a0 : Option Addr) (len0 cap0 : Nat) (z0 : List Int) (w0 : IsRow .u16 w a0 len0 cap0 z0) (a1 : Int) (w1 : (Lit.int .i64 a1).wf = true) (a2 : Int) (w2 : (Lit.int .i64 a2).wf = true) (hw : Rdy w) :
    Calls Tryd.prog 11 #[.slice a0 len0 cap0, .int .i64 a1, .int .i64 a2] w fun e w' => e = .returned (.bool true) ∧ Below w.heap.size w w' := by
  have b1 := int_bd w1
  have b2 := int_bd w2
  clear w1 w2
  have R0 := Lib.hid hw; clear hw
  have W0 := Lib.hid w0; clear w0
  obtain ⟨a, hd⟩ : ∃ d, d = a1 % 730485 := ⟨_, rfl⟩
  obtain ⟨n, hn⟩ : ∃ d, d = a2 % 1048576 := ⟨_, rfl⟩
  have hp : ∀ W, Calls Tryd.prog 33 #[.int .i64 a1] W fun e w' => e = .returned (.int .i64 a) ∧ W = w' := by
    intro W; rw [hd]; exact lawDay_any a1 W (by omega) (by omega)
  have hp1 : ∀ W, Calls Tryd.prog 26 #[.int .i64 a2, .int .i64 1048576] W fun e w' => e = .returned (.int .i64 n) ∧ W = w' := by
    intro W; rw [hn]; exact pick_any a2 _ W (by omega) (by omega)
  have a0' : 0 ≤ a := by omega
  have a1' : a ≤ 730484 := by omega
  have n0 : 0 ≤ n := by omega
  have n1 : n ≤ 1048575 := by omega
  clear hd hn b1 b2
  have P0 := Lib.hid hp; clear hp
  have P1 := Lib.hid hp1; clear hp1
  go_enter Tryd.func11, Tryd.ntmps11
  go_wp2_with (first
    | (go_at_call 19; refine (awake_any _ R0.out).mono ?_; rintro e w1 ⟨rfl, hb1⟩; have R1 := Lib.hid (R0.out.below hb1); have B1 := Lib.hid hb1; clear hb1)
    | (go_at_call 32; refine (list_row a0 len0 cap0 z0 w w1 W0.out B1.out).mono ?_; rintro e w2 ⟨A, cap, zs, rfl, hcap, hrd, hri, hb2⟩; have D2 := Lib.hid hrd; have HI := Lib.hid hri; have B2 := Lib.hid (B1.out.trans (hb2.mono B1.out.size)); clear hb2 hrd hri)
    | (go_at_call 33; refine (P0.out _).mono ?_; rintro e w' ⟨rfl, rfl⟩)
    | (go_at_call 26; refine (P1.out _).mono ?_; rintro e w' ⟨rfl, rfl⟩))
  refine (ahead_all a n A cap zs w2 D2.out HI.out a0' n0 a1').mono ?_
  rintro e w3 ⟨r, er, rfl, ha, hb3⟩
  have D3 := Lib.hid (D2.out.below hb3)
  have B3 := Lib.hid (B2.out.trans (hb3.mono B2.out.size))
  clear hb3
  have hmono := Cv.wif_mono (-1) zs (right_parts HI.out).2
  have HM := Lib.hid hmono; clear hmono
  have hbd := Cv.wif_bd zs
  have HBD := Lib.hid hbd; clear hbd
  rcases ha with ⟨rfl, r0, r1, hw, he⟩ | ⟨rfl, rfl, hle⟩
  · have HW := Lib.hid hw
    have HE := Lib.hid he
    have HK := Lib.hid (show Cv.wif zs r - Cv.wif zs a = n by omega)
    clear hw he
    by_cases hr : r = 730484
    · subst hr
      have hk : Cv.wif zs 730484 - Cv.wif zs a = n := HK.out
      have hww : Cv.isW zs 730484 = true := HW.out
      have hyes : ∀ W, Rd W A zs → Calls Tryd.prog 35 #[.int .i64 730484, .slice A zs.length cap] W fun e w' => e = .returned (.tuple #[.bool true, .int .i64 0]) ∧ Below W.heap.size W w' := by
        intro W hW; have := works_yes 730484 A cap zs W hW HI.out (by omega) (by omega); rw [hww] at this; exact this
      have hbt : ∀ W, Rd W A zs → Calls Tryd.prog 34 #[.int .i64 a, .int .i64 730484, .slice A zs.length cap] W fun e w' => e = .returned (.tuple #[.int .i64 n, .int .i64 0]) ∧ Below W.heap.size W w' := by
        intro W hW; have := between_yes a 730484 A cap zs W hW HI.out a0' a1' (by omega); rw [hk] at this; exact this
      have HY := Lib.hid hyes; clear hyes hww
      have HT := Lib.hid hbt; clear hbt hk
      go_wp2_with (first
        | (go_at_call 35; refine (HY.out _ D3.out).mono ?_; rintro e w4 ⟨rfl, hb4⟩; have D4 := Lib.hid (D3.out.below hb4); have B4 := Lib.hid (B3.out.trans (hb4.mono B3.out.size)); clear hb4)
        | (go_at_call 34; refine (HT.out _ D4.out).mono ?_; rintro e w5 ⟨rfl, hb5⟩; have B5 := Lib.hid (B4.out.trans (hb5.mono B4.out.size)); clear hb5))
      all_goals
        go_ret
        exact ⟨rfl, B5.out⟩
    · have hr2 : (r == 730484) = false := beq_eq_false_iff_ne.2 hr
      have hr3 : r + 1 ≤ 730484 := by omega
      clear hr
      have hyes : ∀ W, Rd W A zs → Calls Tryd.prog 35 #[.int .i64 r, .slice A zs.length cap] W fun e w' => e = .returned (.tuple #[.bool true, .int .i64 0]) ∧ Below W.heap.size W w' := by
        intro W hW; have := works_yes r A cap zs W hW HI.out (by omega) (by omega); rw [HW.out] at this; exact this
      have hbt : ∀ W, Rd W A zs → Calls Tryd.prog 34 #[.int .i64 a, .int .i64 r, .slice A zs.length cap] W fun e w' => e = .returned (.tuple #[.int .i64 n, .int .i64 0]) ∧ Below W.heap.size W w' := by
        intro W hW; have := between_yes a r A cap zs W hW HI.out a0' r0 r1; rw [HK.out] at this; exact this
      have HY := Lib.hid hyes; clear hyes
      have HT := Lib.hid hbt; clear hbt
      go_wp2_with (first
        | (go_at_call 35; refine (HY.out _ D3.out).mono ?_; rintro e w4 ⟨rfl, hb4⟩; have D4 := Lib.hid (D3.out.below hb4); have B4 := Lib.hid (B3.out.trans (hb4.mono B3.out.size)); clear hb4)
        | (go_at_call 34; refine (HT.out _ D4.out).mono ?_; rintro e w5 ⟨rfl, hb5⟩; have D5 := Lib.hid (D4.out.below hb5); have B5 := Lib.hid (B4.out.trans (hb5.mono B4.out.size)); clear hb5))
      refine (ahead_all a (n + 1) A cap zs _ D5.out HI.out a0' (by omega) a1').mono ?_
      rintro e w6 ⟨x, ex, rfl, hx, hb6⟩
      have D6 := Lib.hid (D5.out.below hb6)
      have B6 := Lib.hid (B5.out.trans (hb6.mono B5.out.size))
      have HX := Lib.hid hx
      clear hb6 hx
      go_wp2_with fail
      refine (ahead_all (r + 1) 0 A cap zs _ D6.out HI.out (by omega) (by omega) hr3).mono ?_
      rintro e w7 ⟨y, ey, rfl, hy, hb7⟩
      have B7 := Lib.hid (B6.out.trans (hb7.mono B6.out.size))
      clear hb7
      have hy2 : Cv.AheadIs zs a (n + 1) y ey := by
        have hs := Cv.wif_step (-1) r zs (right_parts HI.out).2
        rw [if_pos HW.out] at hs
        have := HE.out
        rcases hy with ⟨h1, h2, h3, h4, h5⟩ | ⟨h1, h2, h3⟩
        · exact .inl ⟨h1, by omega, h3, h4, by omega⟩
        · exact .inr ⟨h1, h2, by omega⟩
      obtain ⟨rfl, rfl⟩ := Cv.ahead_one zs (right_parts HI.out).2 a (n + 1) x ex y ey HX.out hy2
      clear hy hy2 HX
      go_wp2
      go_ret
      exact ⟨rfl, B7.out⟩
  · have hall := (HM.out a 730484 a1').1
    have hstep := Cv.wif_step (-1) 730484 zs (right_parts HI.out).2
    rw [show (730484 : Int) + 1 = 730485 from rfl] at hstep
    have hb0 := HBD.out a a0'
    have hb1 := HBD.out 730484 (by omega)
    have hl1000 := (right_parts HI.out).1
    have hbt : ∀ W, Rd W A zs → Calls Tryd.prog 34 #[.int .i64 a, .int .i64 730484, .slice A zs.length cap] W fun e w' => e = .returned (.tuple #[.int .i64 (Cv.wif zs 730484 - Cv.wif zs a), .int .i64 0]) ∧ Below W.heap.size W w' := by
      intro W hW; exact between_yes a 730484 A cap zs W hW HI.out a0' a1' (by omega)
    have hyes : ∀ W, Rd W A zs → Calls Tryd.prog 35 #[.int .i64 730484, .slice A zs.length cap] W fun e w' => e = .returned (.tuple #[.bool (Cv.isW zs 730484), .int .i64 0]) ∧ Below W.heap.size W w' := by
      intro W hW; exact works_yes 730484 A cap zs W hW HI.out (by omega) (by omega)
    cases hc : Cv.isW zs 730484
    · rw [hc] at hyes hstep
      have hq : Cv.wif zs 730484 - Cv.wif zs a ≤ n := by simp at hstep; omega
      have hq0 : 0 ≤ Cv.wif zs 730484 - Cv.wif zs a := by omega
      generalize Cv.wif zs 730484 - Cv.wif zs a = q at *
      have HY := Lib.hid hyes; clear hyes
      have HT := Lib.hid hbt; clear hbt
      clear hc hstep hall hle hb0 hb1
      go_wp2_with (first
        | (go_at_call 34; refine (HT.out _ D3.out).mono ?_; rintro e w4 ⟨rfl, hb4⟩; have D4 := Lib.hid (D3.out.below hb4); have B4 := Lib.hid (B3.out.trans (hb4.mono B3.out.size)); clear hb4)
        | (go_at_call 35; refine (HY.out _ D4.out).mono ?_; rintro e w5 ⟨rfl, hb5⟩; have B5 := Lib.hid (B4.out.trans (hb5.mono B4.out.size)); clear hb5))
      go_ret
      exact ⟨rfl, B5.out⟩
    · rw [hc] at hyes hstep
      have hq : Cv.wif zs 730484 - Cv.wif zs a + 1 ≤ n := by simp at hstep; omega
      have hq0 : 0 ≤ Cv.wif zs 730484 - Cv.wif zs a := by omega
      generalize Cv.wif zs 730484 - Cv.wif zs a = q at *
      have HY := Lib.hid hyes; clear hyes
      have HT := Lib.hid hbt; clear hbt
      clear hc hstep hall hle hb0 hb1
      go_wp2_with (first
        | (go_at_call 34; refine (HT.out _ D3.out).mono ?_; rintro e w4 ⟨rfl, hb4⟩; have D4 := Lib.hid (D3.out.below hb4); have B4 := Lib.hid (B3.out.trans (hb4.mono B3.out.size)); clear hb4)
        | (go_at_call 35; refine (HY.out _ D4.out).mono ?_; rintro e w5 ⟨rfl, hb5⟩; have B5 := Lib.hid (B4.out.trans (hb5.mono B4.out.size)); clear hb5))
      go_ret
      exact ⟨rfl, B5.out⟩

end Go.Proofs.YtmlniggmknjneaaDoor
