/-
  The walks of nat's small functions: trimmed, bounded, limb, Right.
-/
import Derived.Test.YtgbifcfdbelfpaaNatBlk
namespace Go.Proofs.Ytgbifcfdbelfpaa
open Go.RowKit
set_option linter.unusedVariables false

theorem rdk_take {k : IntKind} {w : World} {A : Option Addr} {zs : List Int} (h : RdK k w A zs) (n : Nat) : RdK k w A (zs.take n) := by
  intro h0
  rw [List.length_take] at h0
  obtain ⟨b, off, e, hb, hc⟩ := h (by omega)
  refine ⟨b, off, e, hb, fun i hi => ?_⟩
  rw [List.length_take] at hi
  rw [hc i (by omega), List.getD_eq_getElem?_getD, List.getD_eq_getElem?_getD, List.getElem?_take, if_pos (by omega)]
theorem rdk_trm {k : IntKind} {w : World} {A : Option Addr} {zs : List Int} (h : RdK k w A zs) : RdK k w A (Na.trm zs) := by
  rw [Na.trm_take]; exact rdk_take h _

set_option maxHeartbeats 1000000 in
theorem trimmed_any (A : Option Addr) (cap : Nat) (l : List Int) (w : World) (hr : RdK .u32 w A l) (hl : l.length ≤ cap) (hm : cap ≤ 9223372036854775807) :
    Calls Try.prog 65 #[.slice A l.length cap] w fun e w' => e = .returned (.slice A (Na.trm l).length cap) ∧ w = w' := by
  have Hr := Lib.hid hr; clear hr
  go_enter Try.func65, Try.ntmps65
  go_wp2
  go_loop [0] (fun s => ∃ k : Nat, k ≤ l.length ∧ s = .slice A k cap ∧ Hid (Na.trm (l.take k) = Na.trm l)) (fun s => lenOf s)
  case atStart => exact ⟨l.length, Nat.le_refl _, rfl, Lib.hid (by rw [List.take_length])⟩
  case round =>
    obtain ⟨k, hk, rfl, hT⟩ := hrel
    by_cases h0 : k = 0
    · subst h0
      have hT := hT.out
      rw [List.take_zero] at hT
      have hz := Lib.hid (show (Na.trm l).length = 0 by rw [← hT]; rfl)
      clear hT
      go_wp2_with fail
      go_ret
      exact ⟨ret_sl rfl hz.out.symm rfl, rfl⟩
    · obtain ⟨b, off, rfl, hbl, hc⟩ := Hr.out (by omega)
      obtain ⟨j, rfl⟩ : ∃ j, k = j + 1 := ⟨k - 1, by omega⟩
      have hc1 := hc j (by omega); clear hc
      have hs := Na.take_snoc l j (by omega)
      have hT := hT.out
      rw [hs] at hT
      generalize l.getD j 0 = z at *
      have i0 : (0 : Int) ≤ (j : Int) := by omega
      have i1 : (j : Int) < ((j + 1 : Nat) : Int) := by omega
      have i2 : (j : Int) ≤ (cap : Int) := by omega
      by_cases hz : z = 0
      · subst hz
        rw [Na.trm_zero] at hT
        have HT := Lib.hid hT; clear hT hs h0
        go_wp2_with fail
        exact ⟨⟨j, by omega, rfl, HT⟩, by simp [lenOf]⟩
      · rw [Na.trm_last _ _ hz] at hT
        have hlen := Lib.hid (show (Na.trm l).length = j + 1 by rw [← hT]; simp; omega)
        clear hT hs h0
        have hz2 : (z == 0) = false := by rw [beq_eq_false_iff_ne]; exact hz
        go_wp2_with fail
        go_ret
        exact ⟨ret_sl rfl hlen.out.symm rfl, rfl⟩

theorem limb_any (A : Option Addr) (cap : Nat) (l : List Int) (i : Nat) (w : World) (hr : RdK .u32 w A l) (hl : l.length ≤ 9223372036854775807) :
    Calls Try.prog 61 #[.slice A l.length cap, .int .i64 i] w fun e w' => e = .returned (.int .u32 (l.getD i 0)) ∧ w = w' := by
  by_cases h : i < l.length
  · obtain ⟨b, off, rfl, hbl, hc⟩ := hr (by omega)
    have hc1 := hc i h; clear hc hr
    generalize l.getD i 0 = z at *
    have i0 : (0 : Int) ≤ (i : Int) := by omega
    have i1 : (i : Int) < (l.length : Int) := by omega
    go_enter Try.func61, Try.ntmps61
    go_wp2
    go_ret
    exact ⟨rfl, rfl⟩
  · have hz := Lib.hid (show l.getD i 0 = 0 by rw [List.getD_eq_getElem?_getD, List.getElem?_eq_none (by omega)]; rfl)
    clear hr
    go_enter Try.func61, Try.ntmps61
    go_wp2
    go_ret
    exact ⟨ret_int hz.out.symm, rfl⟩

def PostB (A : Option Addr) (cap : Nat) (l : List Int) (w : World) (e : Ending) (w' : World) : Prop :=
  ((l.length ≤ 1024 ∧ e = .returned (.tuple #[.slice A l.length cap, .int .i64 0])) ∨ (1024 < l.length ∧ e = .returned (.tuple #[.slice none 0 0, .int .i64 3]))) ∧ w = w'
theorem bounded_any (A : Option Addr) (cap : Nat) (l : List Int) (w : World) (hr : RdK .u32 w A l) (hl : l.length ≤ cap) (hm : cap ≤ 9223372036854775807) :
    Calls Try.prog 62 #[.slice A l.length cap] w (PostB A cap (Na.trm l) w) := by
  have hq := trimmed_any A cap l w hr hl hm
  have hb := Na.trm_len l
  generalize Na.trm l = t at *
  have HQ := Lib.hid hq; clear hq hr
  by_cases h : t.length ≤ 1024
  · go_enter Try.func62, Try.ntmps62
    go_wp2_with (go_at_call 65; refine HQ.out.mono ?_; rintro e w' ⟨rfl, rfl⟩)
    go_ret2
    exact ⟨.inl ⟨h, rfl⟩, rfl⟩
  · go_enter Try.func62, Try.ntmps62
    go_wp2_with (go_at_call 65; refine HQ.out.mono ?_; rintro e w' ⟨rfl, rfl⟩)
    go_ret2
    exact ⟨.inr ⟨by omega, rfl⟩, rfl⟩

set_option maxRecDepth 100000 in
set_option maxHeartbeats 1000000 in
theorem right_any (A : Option Addr) (cap : Nat) (l : List Int) (w : World) (hr : RdK .u32 w A l) (hl : l.length ≤ 9223372036854775807) :
    Calls Try.prog 59 #[.slice A l.length cap] w fun e w' => e = .returned (.bool (Na.rgt l)) ∧ w = w' := by
  by_cases h0 : l.length = 0
  · have hz := Lib.hid (show Na.rgt l = true by rw [Na.rgt, decide_eq_true_eq]; exact .inl h0)
    clear hr
    rw [h0]
    go_enter Try.func59, Try.ntmps59
    go_wp2
    go_ret
    exact ⟨ret_bool hz.out.symm, rfl⟩
  · obtain ⟨b, off, rfl, hbl, hc⟩ := hr (by omega)
    have hg : Na.rgt l = decide (l.length ≤ 1024 ∧ l.getD (l.length - 1) 0 ≠ 0) := by
      rw [Na.rgt]; simp [h0]
    obtain ⟨j, hj⟩ : ∃ j, l.length = j + 1 := ⟨l.length - 1, by omega⟩
    have hc1 := hc j (by omega); clear hc hr
    rw [hj] at hg ⊢
    rw [Nat.add_sub_cancel] at hg
    generalize l.getD j 0 = z at *
    have HG := Lib.hid hg; clear hg h0
    rw [hj] at hl
    clear hj
    have i0 : (0 : Int) ≤ (j : Int) := by omega
    have i1 : (j : Int) < ((j + 1 : Nat) : Int) := by omega
    have i2 : (((j + 1 : Nat) : Int) == 0) = false := by rw [beq_eq_false_iff_ne]; omega
    by_cases h2 : j + 1 ≤ 1024
    · by_cases hz : z = 0
      · have hz2 : (z != 0) = false := by rw [bne_eq_false_iff_eq]; exact hz
        go_enter Try.func59, Try.ntmps59
        go_wp2
        go_ret
        exact ⟨ret_bool (by rw [HG.out]; exact (decide_eq_false (fun x => x.2 hz)).symm), rfl⟩
      · have hz2 : (z != 0) = true := by rw [bne_iff_ne]; exact hz
        go_enter Try.func59, Try.ntmps59
        go_wp2
        go_ret
        exact ⟨ret_bool (by rw [HG.out]; exact (decide_eq_true ⟨h2, hz⟩).symm), rfl⟩
    · go_enter Try.func59, Try.ntmps59
      go_wp2
      go_ret
      exact ⟨ret_bool (by rw [HG.out]; exact (decide_eq_false (fun x => h2 x.1)).symm), rfl⟩

end Go.Proofs.Ytgbifcfdbelfpaa
