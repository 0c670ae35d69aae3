/-
  The walk of the kit's SameInts; small words on new blocks.
-/
import Derived.Test.YtioncjnjhmnlaaaBase
namespace Go.Proofs.Ytioncjnjhmnlaaa
open Go.RowKit
set_option linter.unusedVariables false

theorem new_cell (W : World) (cs : Array Value) (t : TypeId) (j : Nat) (v : Value) (h : cs[j]? = some v) : (W.alloc (.cells cs t)).cell? ⟨W.heap.size, j, none⟩ = some v := by
  have g : (W.alloc (.cells cs t)).heap[W.heap.size]? = some (.cells cs t) := by
    show (W.heap.push _)[W.heap.size]? = some _
    simp
  simp only [World.cell?, g]; exact h
theorem new_lt (W : World) (v : Value) (cs : Array Value) (t : TypeId) (h : cs[0]? = some v) : W.heap.size < (W.alloc (.cells cs t)).heap.size := World.block_lt_of_cell? _ _ (new_cell W cs t 0 v h)
theorem rd_new (W : World) (zs : List Int) (t : TypeId) : Rd (W.alloc (.cells (zs.map (Value.int .i64)).toArray t)) (some ⟨W.heap.size, 0, none⟩) zs := by
  intro h0
  refine ⟨W.heap.size, 0, rfl, new_lt W (.int .i64 zs[0]) _ t (by simp [h0]), fun i hi => ?_⟩
  rw [Nat.zero_add]
  refine new_cell W _ t i _ ?_
  simp [hi, List.getD_eq_getElem?_getD]

set_option maxHeartbeats 1000000 in
theorem same_yes (A B : Option Addr) (n cap cap2 : Nat) (zs : List Int) (w : World) (ha : Rd w A zs) (hb : Rd w B zs) (hl : zs.length ≤ 9223372036854775807) :
    Calls Try.prog 18 #[.slice A zs.length cap, .slice B zs.length cap2] w fun e w' => e = .returned (.bool true) ∧ Below w.heap.size w w' := by
  have Ha := Lib.hid ha; clear ha
  have Hb := Lib.hid hb; clear hb
  go_enter Try.func18, Try.ntmps18
  go_wp2
  go_loopw [5] (fun s wr => ∃ k : Nat, k ≤ zs.length ∧ s = .int .i64 k ∧ Hid (Below w.heap.size w wr)) (fun s _ => zs.length - (intOf s).toNat)
  case atStart => exact ⟨0, by omega, rfl, Lib.hid (Below.refl _ _)⟩
  case round =>
    obtain ⟨k, hk, rfl, HB⟩ := hrel
    by_cases h : k < zs.length
    · obtain ⟨b, off, rfl, hbl, hc⟩ := (Ha.out.below HB.out).at (by omega)
      obtain ⟨b2, off2, rfl, hbl2, hc2⟩ := (Hb.out.below HB.out).at (by omega)
      have hc1 := hc k h
      have hc3 := hc2 k h
      obtain ⟨z, hz⟩ : ∃ z, z = zs.getD k 0 := ⟨_, rfl⟩
      rw [← hz] at hc1 hc3
      have i0 : (0 : Int) ≤ (k : Int) := by omega
      have i1 : (k : Int) < (zs.length : Int) := by omega
      clear hz hc hc2 hbl hbl2 h
      go_wp2_with fail
      go_quiet (fail)
      go_wp2
      exact ⟨⟨k + 1, by omega, by go_num, Lib.hid (below_drewN HB.out nq)⟩, by simp [intOf]; omega⟩
    · go_wp2
      go_ret
      exact ⟨rfl, HB.out⟩

theorem len_ne {a b : List Int} (h : a.length ≠ b.length) : (((a.length : Nat) : Int) != ((b.length : Nat) : Int)) = true := by
  rw [bne_iff_ne]; omega

end Go.Proofs.Ytioncjnjhmnlaaa
