/-
  The walk of the law's list of holidays: it is right, whatever the numbers.
-/
import Derived.Test.YtmlniggmknjneaaDoorCivRdy
import Derived.Test.YtmlniggmknjneaaDoorCivYearly
import Derived.OwnWalk
namespace Go.Proofs.YtmlniggmknjneaaDoor
open Go.RowKit
set_option linter.unusedVariables false

theorem infoInt : (Tryd.prog.info? 3).map (fun i => (i.zero, i.size, i.bytes)) = some (some (.int .i64 0), 1, 8) := by kernel_rfl

/-- a slice whose elements are the numbers zs of a kind -/
def RdK (k : IntKind) (w : World) (A : Option Addr) (zs : List Int) : Prop :=
  0 < zs.length → ∃ b off, A = some ⟨b, off, none⟩ ∧ b < w.heap.size ∧ ∀ i, i < zs.length → w.cell? ⟨b, off + i, none⟩ = some (.int k (zs.getD i 0))
theorem RdK.below {k : IntKind} {W w1 : World} {A : Option Addr} {zs : List Int} (h : RdK k W A zs) (hb : Below W.heap.size W w1) : RdK k w1 A zs := by
  intro h0
  obtain ⟨b, off, e, hlt, hc⟩ := h h0
  exact ⟨b, off, e, by have := hb.size; omega, fun i hi => (bcell hb b _ hlt).trans (hc i hi)⟩

theorem rgt_snoc (a : Int) (xs : List Int) (last y : Int) (h : Cv.rgt a xs = true) (hl : ∀ x ∈ xs, x ≤ last) (ha : a ≤ last) (hy : last < y) (hy2 : y ≤ 730484) : Cv.rgt a (xs ++ [y]) = true := by
  induction xs generalizing a with
  | nil => rw [List.nil_append, Cv.rgt_cons]; exact ⟨by omega, hy2, rfl⟩
  | cons x t ih =>
    obtain ⟨h1, h2, h3⟩ := (Cv.rgt_cons _ _ _).1 h
    rw [List.cons_append, Cv.rgt_cons]
    exact ⟨h1, h2, ih x h3 (fun z hz => hl z (List.mem_cons_of_mem _ hz)) (hl x (by simp))⟩

/-- the list so far -/
structure ListIs (xs : List Int) (last : Int) (k : Nat) : Prop where
  rgt : Cv.rgt (-1) xs = true
  le : ∀ x ∈ xs, x ≤ last
  ge : -1 ≤ last
  len : xs.length ≤ k
  top : last ≤ 701 * k
theorem ListIs.nil : ListIs [] (-1) 0 := ⟨rfl, by simp, by omega, by simp, by omega⟩
theorem ListIs.snoc {xs : List Int} {last y : Int} {k : Nat} (h : ListIs xs last k) (h1 : last < y) (h2 : y ≤ 730484) (h3 : y ≤ last + 701) : ListIs (xs ++ [y]) y (k + 1) :=
  ⟨rgt_snoc _ _ last y h.rgt h.le h.ge h1 h2, by intro x hx; rcases List.mem_append.1 hx with c | c; · have := h.le x c; omega
                                                 · simp at c; omega, by have := h.ge; omega, by have := h.len; simp; omega, by have := h.top; omega⟩

def PostL (W : World) (e : Ending) (w' : World) : Prop :=
  ∃ (A : Option Addr) (cap : Nat) (zs : List Int), e = .returned (.slice A zs.length cap) ∧ zs.length ≤ cap ∧ Rd w' A zs ∧ Cv.rightB zs = true ∧ Below W.heap.size W w'
theorem own_rd {w : World} {base : Nat} {v : Value} {xs : List Int} {n : Nat} (h : w.ownsRow base 3 1 v n (xs.map (Value.int .i64))) : ∃ A cap, v = .slice A xs.length cap ∧ xs.length ≤ cap ∧ Rd w A xs := by
  have hl := h.1
  simp at hl
  rcases h.2 with ⟨rfl, rfl⟩ | ⟨g, cap, cur, rfl, hb, hh, hnc, hcm, hsz, ht⟩
  · have : xs = [] := List.eq_nil_of_length_eq_zero (by omega)
    subst this
    exact ⟨none, 0, rfl, by simp, Rd.nil _ _⟩
  · refine ⟨some ⟨g, 0, none⟩, cap, by rw [hl], by omega, fun h0 => ⟨g, 0, rfl, ?_, fun i hi => ?_⟩⟩
    · rcases Nat.lt_or_ge g w.heap.size with c | c
      · exact c
      · rw [Array.getElem?_eq_none c] at hh; cases hh
    · have hc := h.cells (g := g) rfl i (.int .i64 (xs.getD i 0)) (by rw [List.getElem?_map, List.getElem?_eq_getElem hi, List.getD_eq_getElem?_getD, List.getElem?_eq_getElem hi]; rfl)
      have e : (⟨g, 0, none⟩ : Addr).add i = ⟨g, 0 + i, none⟩ := by unfold Addr.add; split <;> simp [*]
      rw [e] at hc; exact hc

set_option maxHeartbeats 1600000 in
set_option maxRecDepth 100000 in
theorem list_any (A : Option Addr) (cap : Nat) (ls : List Int) (w : World) (hr : RdK .u16 w A ls) (hl : ls.length ≤ 9223372036854775807) (hz : ∀ k, k < ls.length → 0 ≤ ls.getD k 0 ∧ ls.getD k 0 ≤ 65535) :
    Calls Tryd.prog 32 #[.slice A ls.length cap] w (PostL w) := by
  obtain ⟨i0, hi, hz0, hz1, hz2⟩ := info_parts infoInt
  have Hr := Lib.hid hr; clear hr
  have Hz := Lib.hid hz; clear hz
  go_enter Tryd.func32, Tryd.ntmps32
  go_wp2
  go_loopw [3, 4, 5] (fun v s i wr => ∃ (k : Nat) (last : Int) (xs : List Int), k ≤ 1000 ∧ i = .int .i64 k ∧ s = .int .i64 last ∧ -1 ≤ last ∧ last ≤ 701 * k ∧ xs.length ≤ k ∧ wr.ownsRow w.heap.size 3 1 v xs.length (xs.map (Value.int .i64)) ∧ Hid (ListIs xs last k) ∧ Below w.heap.size w wr) (fun _ _ i _ => 1000 - (intOf i).toNat)
  case atStart => exact ⟨0, -1, [], by omega, rfl, rfl, by omega, by omega, by simp, World.ownsRow_nil _ _ _ _, ListIs.nil, Below.refl _ _⟩
  case round =>
    obtain ⟨k, last, xs, hk, rfl, rfl, l0, l1, hxl, hown, hL, hnx⟩ := hrel
    have HNX := Lib.hid hnx
    have hsz := hnx.size
    clear hnx
    by_cases h1 : k < ls.length
    · by_cases h2 : k < 1000
      · have hr2 := Hr.out.below HNX.out
        obtain ⟨b, off, rfl, hb, hc⟩ := hr2 (by omega)
        have hc1 := hc k h1; clear hc hr2
        obtain ⟨z0, z1⟩ := Hz.out k h1
        obtain ⟨z, hzz⟩ : ∃ z, z = ls.getD k 0 := ⟨_, rfl⟩
        rw [← hzz] at hc1 z0 z1
        clear hzz
        have ha : (k : Int) < 1000 := by omega
        go_wp2_with (at_builtin; refine wpList_append_own _ rfl _ _ 34 rfl w.heap.size 3 i0 (.int .i64 0) 1 8 Tryd.underlying34 hi hz0 hz1 hz2 rfl (by decide) _ _ _ rfl (hown.alloc _) ⟨wr.heap.size, 0, none⟩ 1 1 [.int .i64 (last + (1 + z % 701))] rfl rfl ?c1 ?c2 ?c3 ?c4 ?c5 ?_)
        case c1 =>
          intro j u hj
          match j, hj with
          | 0, hj => simp at hj; subst hj; simp [Addr.add]
        case c2 => intro u hu; simp at hu; subst hu; rfl
        case c3 => unfold maxLen; omega
        case c4 => omega
        case c5 => simp; omega
        intro v' w1 hown' hgrow _
        have hbx := (HNX.out.alloc HNX.out.size (.cells #[.int .i64 (last + (1 + z % 701))] 3)).grown hgrow (by simp; omega) (fun j hj => (hown.lt j hj).1)
        have HBX := Lib.hid hbx
        have ho2 : w1.ownsRow w.heap.size 3 1 v' (xs ++ [last + (1 + z % 701)]).length ((xs ++ [last + (1 + z % 701)]).map (Value.int .i64)) := by simpa using hown'
        have HO2 := Lib.hid ho2
        have HLL := Lib.hid (hL.out.snoc (y := last + (1 + z % 701)) (by omega) (by omega) (by omega))
        have hxl2 : (xs ++ [last + (1 + z % 701)]).length ≤ k + 1 := by simp; omega
        clear hown' hgrow hown hbx ho2 hc1
        go_wp2
        exact ⟨⟨k + 1, _, xs ++ [last + (1 + z % 701)], by omega, by go_num, rfl, by omega, by omega, hxl2, HO2.out, HLL.out, HBX.out⟩, by simp [intOf]; omega⟩
      · have hk3 : k = 1000 := by omega
        subst hk3
        obtain ⟨A', cap', hv, hcap, hrd⟩ := own_rd hown
        have HV := Lib.hid hv
        clear hv
        have HRD := Lib.hid hrd; clear hrd
        have hlr := hL.out
        have HLR := Lib.hid hlr; clear hlr
        clear hown
        go_wp2
        go_ret
        exact ⟨A', cap', xs, by rw [← HV.out]; rfl, hcap, HRD.out, by unfold Cv.rightB; rw [HLR.out.rgt, decide_eq_true (by omega)]; rfl, HNX.out⟩
    · obtain ⟨A', cap', hv, hcap, hrd⟩ := own_rd hown
      have HV := Lib.hid hv
      clear hv
      have HRD := Lib.hid hrd; clear hrd
      have hlr := hL.out
      have HLR := Lib.hid hlr; clear hlr
      clear hown
      go_wp2
      go_ret
      exact ⟨A', cap', xs, by rw [← HV.out]; rfl, hcap, HRD.out, by unfold Cv.rightB; rw [HLR.out.rgt, decide_eq_true (by omega)]; rfl, HNX.out⟩

end Go.Proofs.YtmlniggmknjneaaDoor
