/-
  The walks of sort.Search, stats' leastPossible, Least and Greatest.
-/
import Derived.Test.YtgbifcfdbelfpaaStaFns
namespace Go.Proofs.Ytgbifcfdbelfpaa
open Go.RowKit
set_option linter.unusedVariables false

/-- what a search ends with -/
def PostSearch (N : Nat) (F : Nat → Bool) (w : World) (e : Ending) (w' : World) : Prop :=
  ∃ s : Nat, e = .returned (.int .i64 s) ∧ s ≤ N ∧ (s = 0 ∨ F (s - 1) = false) ∧ (s = N ∨ F s = true) ∧ Below w.heap.size w w'
/-- the state of a search -/
structure Srch (N : Nat) (F : Nat → Bool) (w wr : World) (lo hi : Nat) : Prop where
  le : lo ≤ hi
  top : hi ≤ N
  low : lo = 0 ∨ F (lo - 1) = false
  high : hi = N ∨ F hi = true
  bel : Below w.heap.size w wr

set_option maxHeartbeats 1000000 in
theorem search_any (g : Nat) (lb : Array Value) (N : Nat) (F : Nat → Bool) (w : World) (eg : ∀ args w, (callFunc g args).run Try.prog w = .ok (.enter g args) w) (hN : N ≤ 1000000)
    (hf : ∀ V (i : Nat), Below w.heap.size w V → i < N → Calls Try.prog g (#[.int .i64 i] ++ lb) V fun e V' => e = .returned (.bool (F i)) ∧ Below V.heap.size V V') :
    Calls Try.prog 80 #[.int .i64 N, .func (.func g) #[] lb] w (PostSearch N F w) := by
  have HF := Lib.hid hf
  clear hf
  go_enter Try.func80, Try.ntmps80
  go_wp2
  go_loopw [5, 6] (fun s5 s6 wr => ∃ lo hi : Nat, s5 = .int .i64 lo ∧ s6 = .int .i64 hi ∧ Srch N F w wr lo hi) (fun s5 s6 _ => (intOf s6 - intOf s5).toNat)
  case atStart => exact ⟨0, N, rfl, rfl, ⟨Nat.zero_le _, Nat.le_refl _, .inl rfl, .inl rfl, Below.refl _ _⟩⟩
  case round =>
    obtain ⟨lo, hi, rfl, rfl, hS⟩ := hrel
    have h1 := hS.le
    have h2 := hS.top
    have HS := Lib.hid hS
    clear hS
    by_cases hlt : lo < hi
    · have hc := HF.out wr ((lo + hi) / 2) HS.out.bel (by omega)
      rw [show (((lo + hi) / 2 : Nat) : Int) = ((lo : Int) + (hi : Int)) / 2 by omega] at hc
      cases hp : F ((lo + hi) / 2) <;> rw [hp] at hc
      · have HP := Lib.hid hp; have HC := Lib.hid hc
        clear hp hc
        go_wp2_with (go_at_fn g; (with_reducible refine HC.out.mono ?_); rintro e w2 ⟨rfl, hb⟩; have HB := Lib.hid hb; clear hb)
        go_roundw
        case rel => exact ⟨(lo + hi) / 2 + 1, hi, by rw [show ((lo : Int) + (hi : Int)) / 2 + 1 = (((lo + hi) / 2 + 1 : Nat) : Int) by omega], rfl, ⟨by omega, h2, .inr (by rw [Nat.add_sub_cancel]; exact HP.out), HS.out.high, HS.out.bel.trans (HB.out.mono HS.out.bel.size)⟩⟩
        case measure => simp [intOf]; omega
      · have HP := Lib.hid hp; have HC := Lib.hid hc
        clear hp hc
        go_wp2_with (go_at_fn g; (with_reducible refine HC.out.mono ?_); rintro e w2 ⟨rfl, hb⟩; have HB := Lib.hid hb; clear hb)
        go_roundw
        case rel => exact ⟨lo, (lo + hi) / 2, rfl, by rw [show ((lo : Int) + (hi : Int)) / 2 = (((lo + hi) / 2 : Nat) : Int) by omega], ⟨by omega, by omega, HS.out.low, .inr HP.out, HS.out.bel.trans (HB.out.mono HS.out.bel.size)⟩⟩
        case measure => simp [intOf]; omega
    · obtain rfl : hi = lo := by omega
      go_wp2
      go_ret
      exact ⟨hi, rfl, h2, HS.out.low, HS.out.high, HS.out.bel⟩
end Go.Proofs.Ytgbifcfdbelfpaa
