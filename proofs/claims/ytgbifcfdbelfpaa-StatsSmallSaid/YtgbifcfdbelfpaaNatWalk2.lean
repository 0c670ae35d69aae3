/-
  The walks of nat.Of and nat.Uint.
-/
import Derived.Test.YtgbifcfdbelfpaaNatBits
namespace Go.Proofs.Ytgbifcfdbelfpaa
open Go.RowKit
set_option linter.unusedVariables false

/-- limbs in memory are the number z -/
structure Num (w : World) (A : Option Addr) (l : List Int) (z : Int) : Prop where
  rd : RdK .u32 w A l
  can : Na.Can l
  len : l.length ≤ 1024
  val : Na.V l = z
theorem Num.below {W w1 : World} {A : Option Addr} {l : List Int} {z : Int} (h : Num W A l z) (hb : Below W.heap.size W w1) : Num w1 A l z := ⟨h.rd.below hb, h.can, h.len, h.val⟩
theorem Num.rgt {W : World} {A : Option Addr} {l : List Int} {z : Int} (h : Num W A l z) : Na.rgt l = true := h.can.rgt h.len
theorem Num.nn {W : World} {A : Option Addr} {l : List Int} {z : Int} (h : Num W A l z) : 0 ≤ z := h.val ▸ Na.V_nonneg h.can.dg
def PostNum (z : Int) (W : World) (e : Ending) (w' : World) : Prop :=
  ∃ A cap l, e = .returned (.slice A l.length cap) ∧ Num w' A l z ∧ Below W.heap.size W w'
def PostNumE (z : Int) (W : World) (e : Ending) (w' : World) : Prop :=
  ∃ A cap l, e = .returned (.tuple #[.slice A l.length cap, .int .i64 0]) ∧ Num w' A l z ∧ Below W.heap.size W w'
def PostErr (k : Int) (W : World) (e : Ending) (w' : World) : Prop :=
  e = .returned (.tuple #[.slice none 0 0, .int .i64 k]) ∧ Below W.heap.size W w'

theorem rdk_new (k : IntKind) (W : World) (zs : List Int) (t : TypeId) : RdK k (W.alloc (.cells (zs.map (Value.int k)).toArray t)) (some ⟨W.heap.size, 0, none⟩) zs := by
  intro h0
  refine ⟨W.heap.size, 0, rfl, by simp, fun i hi => ?_⟩
  rw [Nat.zero_add, World.cell?_alloc_at _ _ _ _ rfl]
  simp [hi, List.getD_eq_getElem?_getD]

theorem of_any (n : Int) (w : World) (h0 : 0 ≤ n) (h1 : n ≤ 18446744073709551615) : Calls Try.prog 34 #[.int .u64 n] w (PostNum n w) := by
  have hq := trimmed_any (some ⟨w.heap.size, 0, none⟩) 2 [n % 4294967296, n / 4294967296] _ (rdk_new .u32 w [n % 4294967296, n / 4294967296] 55) (by simp) (by simp)
  have hv : Na.V (Na.trm [n % 4294967296, n / 4294967296]) = n := by rw [Na.V_trm]; simp only [Na.V]; omega
  have hc : Na.Can (Na.trm [n % 4294967296, n / 4294967296]) := Na.Can.mk' (by rw [Na.Dg.cons, Na.Dg.cons]; exact ⟨by omega, by omega, Na.Dg.nil⟩)
  have hl := Na.trm_len [n % 4294967296, n / 4294967296]
  have hr := rdk_trm (rdk_new .u32 w [n % 4294967296, n / 4294967296] 55)
  have hb := (Below.refl w.heap.size w).alloc (Nat.le_refl _) (.cells (([n % 4294967296, n / 4294967296] : List Int).map (Value.int .u32)).toArray 55)
  generalize Na.trm [n % 4294967296, n / 4294967296] = t at *
  simp only [List.length_cons, List.length_nil, List.map_cons, List.map_nil] at hq hl hr hb
  have HQ := Lib.hid hq; have HR := Lib.hid hr; have HB := Lib.hid hb
  clear hq hr hb
  go_enter Try.func34, Try.ntmps34
  go_wp2_with (go_at_call 65; refine HQ.out.mono ?_; rintro e w' ⟨rfl, rfl⟩)
  go_ret
  exact ⟨_, _, t, rfl, ⟨HR.out, hc, by omega, hv⟩, HB.out⟩

end Go.Proofs.Ytgbifcfdbelfpaa
