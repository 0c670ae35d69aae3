/-
  The walks of the kit's copies of slices of int: LentInts, KeptInts.
-/
import Derived.Test.YtgbifcfdbelfpaaStaLaw
namespace Go.Proofs.Ytgbifcfdbelfpaa
open Go.RowKit
set_option linter.unusedVariables false

set_option maxHeartbeats 400000 in
theorem mark_any (i : Int) (w : World) (h0 : 0 ≤ i) (h1 : i ≤ 1000) :
    Calls Try.prog 76 #[.int .i64 1, .int .i64 i] w fun e w' => e = .returned (.int .i64 (8000024 + i)) ∧ w = w' := by
  go_enter Try.func76, Try.ntmps76
  go_wp2
  go_ret
  exact ⟨ret_int (by omega), rfl⟩

theorem mark_q (i : Int) (w : World) (h0 : 0 ≤ i) (h1 : i ≤ 1000) :
    Calls Try.prog 76 #[.int .i64 1, .int .i64 i] w fun e w' => e = .returned (.int .i64 (8000024 + i)) ∧ w' = w :=
  (mark_any i w h0 h1).mono fun e w' h => ⟨h.1, h.2.symm⟩
/-- the marks behind a copy -/
def marks (k : Nat) : List Int := (List.range k).map fun (i : Nat) => 8000024 + (i : Int)
theorem marks_succ (k : Nat) : marks (k + 1) = marks k ++ [8000024 + (k : Int)] := by simp [marks, List.range_succ]
theorem marks_len (k : Nat) : (marks k).length = k := by simp [marks]

/-- a copy, with the marks behind it -/
structure Lent (w : World) (B g : Nat) (zs : List Int) : Prop where
  ge : B ≤ g
  lt : g < w.heap.size
  cells : ∀ i, i < zs.length + 12 → w.cell? ⟨g, i, none⟩ = some (.int .i64 ((zs ++ marks 12).getD i 0))
theorem Lent.below {w w1 : World} {B g : Nat} {zs : List Int} (h : Lent w B g zs) (hb : Below w.heap.size w w1) : Lent w1 B g zs :=
  ⟨h.ge, by have := hb.size; have := h.lt; omega, fun i hi => (bcell hb g i h.lt).trans (h.cells i hi)⟩
theorem Lent.rd {w : World} {B g : Nat} {zs : List Int} (h : Lent w B g zs) : Rd w (some ⟨g, 0, none⟩) zs := by
  intro _
  refine ⟨g, 0, rfl, h.lt, fun i hi => ?_⟩
  rw [Nat.zero_add, h.cells i (by omega)]
  simp [List.getD_eq_getElem?_getD, List.getElem?_append_left hi]
def PostLent (zs : List Int) (W : World) (e : Ending) (w' : World) : Prop :=
  ∃ g, e = .returned (.slice (some ⟨g, 0, none⟩) zs.length (zs.length + 12)) ∧ Lent w' W.heap.size g zs ∧ Below W.heap.size W w'

set_option maxRecDepth 100000 in
set_option maxHeartbeats 2000000 in
theorem lent_any (A : Option Addr) (cap : Nat) (zs : List Int) (w : World) (hr : Rd w A zs) (hA : A = none → zs.length = 0 ∧ cap = 0) (hl : zs.length ≤ 17592186043904) :
    Calls Try.prog 47 #[.slice A zs.length cap] w (PostLent zs w) := by
  obtain ⟨i0, hi, hz0, hz1, hz2⟩ := info_parts infoInt
  have Hr := Lib.hid hr; clear hr
  have HA := Lib.hid hA; clear hA
  go_enter Try.func47, Try.ntmps47
  go_wp2_with (at_make; refine wpList_make_own _ rfl _ _ 24 rfl w.heap.size 3 i0 (.int .i64 0) 1 Try.underlying24 hi hz0 hz1 _ _ _ (zs.length + 12) rfl rfl ?b0 ?b1 ?b2 ?b3 ?_)
  case b0 => omega
  case b1 => rw [hz2]; omega
  case b2 => unfold maxLen; omega
  case b3 => exact Nat.le_refl _
  intro w1 hown hgrow
  have hb1 : Below w.heap.size w w1 := (Below.refl _ _).grown hgrow (Nat.le_refl _) (fun k hk => by cases hk)
  have HB1 := Lib.hid hb1
  have hr1 := Hr.out.below hb1
  have hcc : ∀ ad, A = some ad → ∀ j u, (zs.map (Value.int .i64))[j]? = some u → w1.cell? (ad.add j) = some u := by
    intro ad had j u hu
    have hj : j < zs.length := by
      have := (List.getElem?_eq_some_iff.1 hu).1
      simpa using this
    obtain ⟨b, off, e, -, hc⟩ := hr1 (by omega)
    rw [had] at e
    obtain rfl := Option.some.inj e
    have ea : (⟨b, off, none⟩ : Addr).add j = ⟨b, off + j, none⟩ := by unfold Addr.add; split <;> simp [*]
    rw [ea, hc j hj]
    simpa [List.getD_eq_getElem?_getD, List.getElem?_eq_getElem hj] using hu
  have HCC := Lib.hid hcc
  clear hcc hr1 hgrow hb1
  go_wp2_with (at_builtin; refine wpList_append_fits_any _ rfl _ _ 24 rfl w.heap.size 3 i0 1 Try.underlying24 hi hz1 w.heap.size 0 (zs.length + 12) [] rfl hown A zs.length cap (zs.map (Value.int .i64)) rfl (by simp) HA.out HCC.out (ints_oneCell _ _) (by omega) ?_)
  intro w2 hown2 hgrow2
  have HB2 := Lib.hid (HB1.out.grown hgrow2 HB1.out.size (fun k hk => by cases hk; exact Nat.le_refl _))
  try rw [List.nil_append] at hown2
  clear hgrow2 hown
  go_wp2_with fail
  clear HB1 HCC HA
  go_loopw [3, 4] (fun v s wr => ∃ k : Nat, k ≤ 12 ∧ s = .int .i64 k ∧ v = .slice (some ⟨w.heap.size, 0, none⟩) (zs.length + k) (zs.length + 12) ∧ wr.ownsRow w.heap.size 3 1 (.slice (some ⟨w.heap.size, 0, none⟩) (zs.length + k) (zs.length + 12)) (zs.length + k) ((zs ++ marks k).map (Value.int .i64)) ∧ Hid (Below w.heap.size w wr)) (fun _ s _ => 12 - (intOf s).toNat)
  case atStart => exact ⟨0, by omega, rfl, rfl, by simpa [marks] using hown2, HB2⟩
  case round =>
    obtain ⟨k, hk, rfl, rfl, hown, HBK⟩ := hrel
    by_cases h : k < 12
    · have hk0 : (0 : Int) ≤ (k : Int) := by omega
      have hk1 : (k : Int) ≤ 1000 := by omega
      have hk2 : (k : Int) < 12 := by omega
      go_wp2_with (first
        | (go_at_call 76; refine (mark_any _ _ hk0 hk1).mono ?_; rintro e w' ⟨rfl, rfl⟩)
        | (at_builtin; refine wpList_append_fits _ rfl _ _ 24 rfl w.heap.size 3 i0 1 Try.underlying24 hi hz1 w.heap.size (zs.length + k) (zs.length + 12) _ rfl (hown.alloc _) ⟨wr.heap.size, 0, none⟩ 1 1 [.int .i64 (8000024 + (k : Int))] rfl rfl ?c1 ?c2 ?c3 ?_))
      case c1 =>
        intro j u hj
        match j, hj with
        | 0, hj => simp at hj; subst hj; simp [Addr.add]
      case c2 => intro u hu; simp at hu; subst hu; rfl
      case c3 => omega
      intro w3 hown3 hgrow3
      have HB3 := Lib.hid ((HBK.out.alloc HBK.out.size (.cells #[.int .i64 (8000024 + (k : Int))] 3)).grown hgrow3 (by simp; have := HBK.out.size; omega) (fun j hj => by cases hj; exact Nat.le_refl _))
      have ho : w3.ownsRow w.heap.size 3 1 (.slice (some ⟨w.heap.size, 0, none⟩) (zs.length + (k + 1)) (zs.length + 12)) (zs.length + (k + 1)) ((zs ++ marks (k + 1)).map (Value.int .i64)) := by
        rw [marks_succ, ← List.append_assoc]
        simpa [Nat.add_assoc] using hown3
      have HO := Lib.hid ho
      clear ho hown3 hgrow3 hown
      go_wp2
      exact ⟨⟨k + 1, by omega, by go_num, by rw [Nat.add_assoc], HO.out, HB3⟩, by simp [intOf]; omega⟩
    · have hk3 : k = 12 := by omega
      subst hk3
      have HO := Lib.hid hown
      clear hown
      go_wp2
      go_ret
      have hcl : ∀ i, i < zs.length + 12 → wr.cell? ⟨w.heap.size, i, none⟩ = some (.int .i64 ((zs ++ marks 12).getD i 0)) := by
        intro i hi
        have hc := HO.out.cells (g := w.heap.size) rfl i (.int .i64 ((zs ++ marks 12).getD i 0)) (by
          have hl2 : i < (zs ++ marks 12).length := by simp [marks_len]; omega
          rw [List.getElem?_map, List.getElem?_eq_getElem hl2, List.getD_eq_getElem?_getD, List.getElem?_eq_getElem hl2]; rfl)
        have e : (⟨w.heap.size, 0, none⟩ : Addr).add i = ⟨w.heap.size, 0 + i, none⟩ := by unfold Addr.add; split <;> simp [*]
        rw [e, Nat.zero_add] at hc; exact hc
      exact ⟨w.heap.size, rfl, ⟨Nat.le_refl _, World.block_lt_of_cell? _ _ (hcl 0 (by omega)), hcl⟩, HBK.out⟩

theorem marks_at (zs : List Int) (i : Nat) (h : zs.length ≤ i) (h2 : i < zs.length + 12) : (zs ++ marks 12).getD i 0 = 8000024 + ((i : Int) - zs.length) := by
  have hl2 : i - zs.length < (List.range 12).length := by simp; omega
  rw [List.getD_eq_getElem?_getD, List.getElem?_append_right h, marks, List.getElem?_map, List.getElem?_eq_getElem hl2]
  simp; omega
theorem zs_at (zs : List Int) (i : Nat) (h : i < zs.length) : (zs ++ marks 12).getD i 0 = zs.getD i 0 := by
  simp [List.getD_eq_getElem?_getD, List.getElem?_append_left h]

set_option maxRecDepth 100000 in
set_option maxHeartbeats 2000000 in
theorem kept_any (A : Option Addr) (cap B g : Nat) (zs : List Int) (w : World) (hr : Rd w A zs) (hL : Lent w B g zs) (hl : zs.length ≤ 17592186043904) :
    Calls Try.prog 49 #[.slice (some ⟨g, 0, none⟩) zs.length (zs.length + 12), .slice A zs.length cap] w fun e w' => e = .returned (.bool true) ∧ Below w.heap.size w w' := by
  have Hr := Lib.hid hr; clear hr
  have HL := Lib.hid hL; clear hL
  go_enter Try.func49, Try.ntmps49
  go_wp2
  go_loopw [6] (fun s wr => ∃ k : Nat, k ≤ zs.length + 12 ∧ s = .int .i64 k ∧ Hid (Below w.heap.size w wr)) (fun s _ => zs.length + 12 - (intOf s).toNat)
  case atStart => exact ⟨0, by omega, rfl, Lib.hid (Below.refl _ _)⟩
  case round =>
    obtain ⟨k, hk, rfl, HB⟩ := hrel
    by_cases h : k < zs.length + 12
    · have hg := (HL.out.below HB.out).cells k h
      have i0 : (0 : Int) ≤ (k : Int) := by omega
      have i1 : (k : Int) < (zs.length : Int) + 12 := by omega
      by_cases h2 : k < zs.length
      · obtain ⟨b, off, rfl, hb, hc⟩ := Hr.out.below HB.out (by omega)
        have hc1 := hc k h2
        rw [zs_at zs k h2] at hg
        obtain ⟨z, hz⟩ : ∃ z, z = zs.getD k 0 := ⟨_, rfl⟩
        rw [← hz] at hc1 hg
        have i2 : (k : Int) < (zs.length : Int) := by omega
        have f1 : decide ((zs.length : Int) ≤ (k : Int)) = false := decide_eq_false (by omega)
        have f2 : decide (zs.length ≤ k) = false := decide_eq_false (by omega)
        clear hz hc hb h
        go_wp2_with fail
        go_quiet (fail)
        go_wp2
        exact ⟨⟨k + 1, by omega, by go_num, Lib.hid (below_drewN HB.out nq)⟩, by simp [intOf]; omega⟩
      · rw [marks_at zs k (by omega) h] at hg
        have i2 : (zs.length : Int) ≤ (k : Int) := by omega
        have f1 : decide ((k : Int) < (zs.length : Int)) = false := decide_eq_false (by omega)
        have j0 : (0 : Int) ≤ (k : Int) - zs.length := by omega
        have j1 : (k : Int) - zs.length ≤ 1000 := by omega
        have e1 : IntKind.i64.wrap ((k : Int) - zs.length) = (k : Int) - zs.length := IntWalk.i64_in _ (by omega)
        have f2 : decide (k < zs.length) = false := decide_eq_false (by omega)
        have i3 : zs.length ≤ k := by omega
        clear h2 h
        go_wp2_with fail
        go_quiet ((go_at_call 76; exact Calls.quiet_of_same (mark_q _ _ j0 j1)))
        go_wp2
        exact ⟨⟨k + 1, by omega, by go_num, Lib.hid (below_drewN HB.out nq)⟩, by simp [intOf]; omega⟩
    · go_wp2
      go_ret
      exact ⟨rfl, HB.out⟩

end Go.Proofs.Ytgbifcfdbelfpaa
