/-
  The walk of the law NatDivides.
-/
import Derived.Test.YtgcfmkelanhdhaaDoorNatAwake
namespace Go.Proofs.YtgcfmkelanhdhaaDoor
open Go.RowKit
set_option linter.unusedVariables false

theorem row_cap {k : IntKind} {w : World} {a : Option Addr} {len cap : Nat} {zs : List Int} (h : IsRow k w a len cap zs) : len ≤ cap ∧ cap ≤ 9223372036854775807 := by
  rcases h with ⟨rfl, rfl, rfl, rfl⟩ | ⟨x, rfl, hl, hm, hz, hc, hw⟩
  · omega
  · unfold maxLen at hm; omega
/-- the number that the law makes of a list -/
def nv (zs : List Int) (len n : Nat) : Int := Na.V ((zs.take len).take n)
theorem row_dg {w : World} {a : Option Addr} {len cap : Nat} {zs : List Int} (h : IsRow .u32 w a len cap zs) : Na.Dg (zs.take len) := by
  intro x hx
  obtain ⟨i, hi, rfl⟩ := List.getElem_of_mem hx
  have := u32_bd (row_bd h i hi)
  rw [List.getD_eq_getElem?_getD, List.getElem?_eq_getElem hi] at this
  simp only [Option.getD_some] at this
  omega
theorem nv_bd {w : World} {a : Option Addr} {len cap : Nat} {zs : List Int} (h : IsRow .u32 w a len cap zs) (n : Nat) : 0 ≤ nv zs len n ∧ nv zs len n < Na.Bp n := by
  have hd := (row_dg h).take n
  refine ⟨Na.V_nonneg hd, ?_⟩
  have h1 := Na.V_lt hd
  have h2 := Na.Bp_le (show ((zs.take len).take n).length ≤ n by rw [List.length_take]; omega)
  unfold nv; omega
theorem number_row {w : World} {a : Option Addr} {len cap : Nat} {zs : List Int} (h : IsRow .u32 w a len cap zs) (n : Nat) (hn : n ≤ 1024) (W : World) (hB : Below w.heap.size w W) :
    Calls Tryd.prog 14 #[.slice a len cap, .int .i64 n] W (PostNum (nv zs len n) W) := by
  obtain ⟨hl, hr⟩ := row_rd h
  obtain ⟨h1, h2⟩ := row_cap h
  have := number_any a cap n (zs.take len) W (hr.below hB) (fun e => (row_none h e).2) (by omega) h2 hn
  rw [hl] at this
  refine this.mono ?_
  rintro e w' ⟨A', c', rfl, h3, h4⟩
  have hcan := Na.Can.mk' ((row_dg h).take n)
  refine ⟨A', c', _, rfl, ⟨h3, hcan, ?_, Na.V_trm _⟩, h4⟩
  have := Na.trm_len ((zs.take len).take n)
  rw [List.length_take] at this
  omega
theorem number_at {w : World} {a : Option Addr} {len cap : Nat} {zs : List Int} (h : IsRow .u32 w a len cap zs) (n : Nat) (N : Int) (hN : (n : Int) = N) (hn : n ≤ 1024) (W : World) (hB : Below w.heap.size w W) :
    Calls Tryd.prog 14 #[.slice a len cap, .int .i64 N] W (PostNum (nv zs len n) W) := hN ▸ number_row h n hn W hB
theorem Num.zero {w : World} {A : Option Addr} {l : List Int} {z : Int} (h : Num w A l z) (hz : z = 0) : l = [] := h.can.nil_iff.2 (by rw [h.val]; exact hz)
theorem Num.ne {w : World} {A : Option Addr} {l : List Int} {z : Int} (h : Num w A l z) (hz : z ≠ 0) : ((l.length : Int) == 0) = false := by
  rw [beq_eq_false_iff_ne]
  intro e
  have : l = [] := List.eq_nil_of_length_eq_zero (by omega)
  exact hz (by rw [← h.val, this]; rfl)
theorem rightN (A : Option Addr) (ca : Nat) (l : List Int) (x : Int) (w : World) (hr : Num w A l x) :
    Calls Tryd.prog 18 #[.slice A l.length ca] w fun e w' => e = .returned (.bool true) ∧ w = w' := by
  have := right_any A ca l w hr.rd (by have := hr.len; omega)
  rwa [hr.rgt] at this
theorem lessT (A B : Option Addr) (ca cb : Nat) (l m : List Int) (x y : Int) (w : World) (hr : Num w A l x) (hs : Num w B m y) (h : x < y) :
    Calls Tryd.prog 19 #[.slice A l.length ca, .slice B m.length cb] w fun e w' => e = .returned (.bool true) ∧ Below w.heap.size w w' := by
  have := less_any A B ca cb l m x y w hr hs
  rwa [decide_eq_true h] at this
theorem sameT (A B : Option Addr) (ca cb : Nat) (l m : List Int) (x y : Int) (w : World) (hr : Num w A l x) (hs : Num w B m y) (h : x = y) :
    Calls Tryd.prog 20 #[.slice A l.length ca, .slice B m.length cb] w fun e w' => e = .returned (.bool true) ∧ Below w.heap.size w w' := by
  have := sameN_any A B ca cb l m x y w hr hs
  rwa [decide_eq_true h] at this

set_option maxRecDepth 100000 in
set_option maxHeartbeats 4000000 in
theorem walk_natDivides (w : World) (A0 : Option Addr) (len0 cap0 : Nat) (z0 : List Int) (w0 : IsRow .u32 w A0 len0 cap0 z0) (A1 : Option Addr) (len1 cap1 : Nat) (z1 : List Int) (w1 : IsRow .u32 w A1 len1 cap1 z1) (hw : Rdy w) :
    Calls Tryd.prog 4 #[.slice A0 len0 cap0, .slice A1 len1 cap1] w fun e w' => e = .returned (.bool true) ∧ Below w.heap.size w w' := by
  obtain ⟨a0, a1⟩ := nv_bd w0 1024
  obtain ⟨b0, b1⟩ := nv_bd w1 1024
  have hn0 := fun W hB => number_at w0 1024 1024 rfl (by omega) W hB
  have hn1 := fun W hB => number_at w1 1024 1024 rfl (by omega) W hB
  generalize nv z0 len0 1024 = x at *
  generalize nv z1 len1 1024 = y at *
  have AW := Lib.hid (awake_any w)
  have H0 := Lib.hid hn0; have H1 := Lib.hid hn1; have HX := Lib.hid (And.intro a1 b1)
  clear hn0 hn1 w0 w1 hw a1 b1
  by_cases hy : y = 0
  · go_enter Tryd.func4, Tryd.ntmps4
    go_wp2_with (first
      | (go_at_call 12; (with_reducible refine AW.out.mono ?_); rintro e x1 ⟨rfl, hb⟩; have B1 := Lib.hid hb; clear hb)
      | (go_at_call 14; (with_reducible refine (H0.out x1 B1.out).mono ?_); rintro e x2 ⟨A2, c2, l2, rfl, h, hb⟩; have B2 := Lib.hid (B1.out.trans (hb.mono B1.out.size)); have N2 := Lib.hid h; clear h hb)
      | (go_at_call 14; (with_reducible refine (H1.out x2 B2.out).mono ?_); rintro e x3 ⟨A3, c3, l3, rfl, h, hb⟩; have B3 := Lib.hid (B2.out.trans (hb.mono B2.out.size)); have N3 := Lib.hid (N2.out.below hb); have hz := h.zero hy; subst hz; clear h hb)
      | (go_at_call 15; (with_reducible refine (divmod_zero A2 A3 c2 c3 l2 x x3 N3.out).mono ?_); rintro e x4 ⟨rfl, rfl⟩))
    go_ret
    exact ⟨rfl, B3.out⟩
  · have hy0 : 0 < y := by omega
    have e0 := Int.mul_ediv_add_emod x y
    have e1 := Int.emod_nonneg x hy
    have e2 := Int.emod_lt_of_pos x hy0
    have HE := Lib.hid (And.intro (show x / y * y < Na.Bp 1024 by have := HX.out.1; rw [Int.mul_comm]; omega) (And.intro (show x / y * y + x % y < Na.Bp 1024 by have := HX.out.1; rw [Int.mul_comm]; omega) (And.intro (show x / y * y + x % y = x by rw [Int.mul_comm]; omega) e2)))
    clear e0 e1 e2
    go_enter Tryd.func4, Tryd.ntmps4
    go_wp2_with (first
      | (go_at_call 12; (with_reducible refine AW.out.mono ?_); rintro e x1 ⟨rfl, hb⟩; have B1 := Lib.hid hb; clear hb)
      | (go_at_call 14; (with_reducible refine (H0.out x1 B1.out).mono ?_); rintro e x2 ⟨A2, c2, l2, rfl, h, hb⟩; have B2 := Lib.hid (B1.out.trans (hb.mono B1.out.size)); have N2 := Lib.hid h; clear h hb)
      | (go_at_call 14; (with_reducible refine (H1.out x2 B2.out).mono ?_); rintro e x3 ⟨A3, c3, l3, rfl, h, hb⟩; have B3 := Lib.hid (B2.out.trans (hb.mono B2.out.size)); have N3 := Lib.hid (And.intro (N2.out.below hb) h); have hlz := h.ne hy; clear h hb)
      | (go_at_call 15; (with_reducible refine (divmod_yes A2 A3 c2 c3 l2 l3 x y x3 N3.out.1 N3.out.2 hy0).mono ?_); rintro e x4 ⟨A4, c4, l4, A5, c5, l5, rfl, h, h', hb⟩; have B4 := Lib.hid (B3.out.trans (hb.mono B3.out.size)); have N4 := Lib.hid (And.intro (N3.out.1.below hb) (And.intro (N3.out.2.below hb) (And.intro h h'))); clear h h' hb)
      | (go_at_call 16; (with_reducible refine (mul_fit A4 A3 c4 c3 l4 l3 (x / y) y x4 N4.out.2.2.1 N4.out.2.1 HE.out.1).mono ?_); rintro e x5 ⟨A6, c6, l6, rfl, h, hb⟩; have B5 := Lib.hid (B4.out.trans (hb.mono B4.out.size)); have N5 := Lib.hid (And.intro (N4.out.1.below hb) (And.intro (N4.out.2.1.below hb) (And.intro (N4.out.2.2.1.below hb) (And.intro (N4.out.2.2.2.below hb) h)))); clear h hb)
      | (go_at_call 17; (with_reducible refine (add_fit A6 A5 c6 c5 l6 l5 (x / y * y) (x % y) x5 N5.out.2.2.2.2 N5.out.2.2.2.1 HE.out.2.1).mono ?_); rintro e x6 ⟨A7, c7, l7, rfl, h, hb⟩; have B6 := Lib.hid (B5.out.trans (hb.mono B5.out.size)); have N6 := Lib.hid (And.intro (N5.out.1.below hb) (And.intro (N5.out.2.1.below hb) (And.intro (N5.out.2.2.1.below hb) (And.intro (N5.out.2.2.2.1.below hb) h)))); clear h hb)
      | (go_at_call 18; (with_reducible refine (rightN A4 c4 l4 (x / y) x6 N6.out.2.2.1).mono ?_); rintro e x7 ⟨rfl, rfl⟩)
      | (go_at_call 18; (with_reducible refine (rightN A5 c5 l5 (x % y) x6 N6.out.2.2.2.1).mono ?_); rintro e x7 ⟨rfl, rfl⟩)
      | (go_at_call 19; (with_reducible refine (lessT A5 A3 c5 c3 l5 l3 (x % y) y x6 N6.out.2.2.2.1 N6.out.2.1 HE.out.2.2.2).mono ?_); rintro e x8 ⟨rfl, hb⟩; have B8 := Lib.hid (B6.out.trans (hb.mono B6.out.size)); have N8 := Lib.hid (And.intro (N6.out.1.below hb) (N6.out.2.2.2.2.below hb)); clear hb)
      | (go_at_call 20; (with_reducible refine (sameT A7 A2 c7 c2 l7 l2 (x / y * y + x % y) x x8 N8.out.2 N8.out.1 HE.out.2.2.1).mono ?_); rintro e x9 ⟨rfl, hb⟩; have B9 := Lib.hid (B8.out.trans (hb.mono B8.out.size)); clear hb)
      | fail)
    go_ret
    exact ⟨rfl, B9.out⟩

end Go.Proofs.YtgcfmkelanhdhaaDoor
