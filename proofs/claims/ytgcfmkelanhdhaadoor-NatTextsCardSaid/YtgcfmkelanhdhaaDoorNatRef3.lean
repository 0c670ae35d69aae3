/-
  The reference's cmp and mul.
-/
import Derived.Test.YtgcfmkelanhdhaaDoorNatRef2
namespace Go.Proofs.YtgcfmkelanhdhaaDoor
open Go.RowKit
set_option linter.unusedVariables false

theorem cmp_bits {l m : List Int} {i : Nat} {z u : Int} (hl : Nb.Dg l) (hm : Nb.Dg m) (h : l.length = m.length) (hi : i < l.length) (hd : l.drop (i + 1) = m.drop (i + 1)) (hz : l.getD i 0 = z) (hu : m.getD i 0 = u) (hne : z ≠ u) : 0 ≤ z - u ↔ Nb.V m ≤ Nb.V l := by
  have s1 := Nb.V_split l i (by omega)
  have s2 := Nb.V_split m i (by omega)
  rw [Nb.V_drop l i hi, hz, hd] at s1
  rw [Nb.V_drop m i (by omega), hu] at s2
  have t1 := Nb.V_lt (hl.take i)
  have t2 := Nb.V_lt (hm.take i)
  have t3 := Nb.V_nonneg (hl.take i)
  have t4 := Nb.V_nonneg (hm.take i)
  rw [List.length_take, show min i l.length = i by omega] at t1
  rw [List.length_take, show min i m.length = i by omega] at t2
  have d1 := hl.at i
  have d2 := hm.at i
  rw [hz] at d1
  rw [hu] at d2
  generalize Nb.V (m.drop (i + 1)) = X at *
  rcases (show z = 0 ∧ u = 1 ∨ z = 1 ∧ u = 0 by omega) with ⟨rfl, rfl⟩ | ⟨rfl, rfl⟩
  · have e1 : Nb.Bp i * (0 + 2 * X) = Nb.Bp i * (2 * X) := by rw [Int.zero_add]
    have e2 : Nb.Bp i * (1 + 2 * X) = Nb.Bp i + Nb.Bp i * (2 * X) := by grind
    omega
  · have e1 : Nb.Bp i * (0 + 2 * X) = Nb.Bp i * (2 * X) := by rw [Int.zero_add]
    have e2 : Nb.Bp i * (1 + 2 * X) = Nb.Bp i + Nb.Bp i * (2 * X) := by grind
    omega
def PostCmpB (x y : Int) (w : World) (e : Ending) (w' : World) : Prop := ∃ c, e = .returned (.int .i64 c) ∧ (0 ≤ c ↔ y ≤ x) ∧ Below w.heap.size w w'
theorem bel_drew {W w : World} (h : Below W.heap.size W w) : Below W.heap.size W w.drew := h.trans (((Below.refl _ _).grown (grown_drew w none) (Nat.le_refl _) (fun k hk => by cases hk)).mono h.size)
theorem bel_drewN {W w : World} (h : Below W.heap.size W w) (n : Nat) : Below W.heap.size W (w.drewN n) := h.trans (((Below.refl _ _).grown (grown_drewN w n none) (Nat.le_refl _) (fun k hk => by cases hk)).mono h.size)
set_option maxRecDepth 100000 in
set_option maxHeartbeats 4000000 in
theorem rcmp_any (A B : Option Addr) (ca cb : Nat) (l m : List Int) (x y : Int) (w : World) (hr : NumB w A l x) (hs : NumB w B m y) :
    Calls Tryd.prog 70 #[.slice A l.length ca, .slice B m.length cb] w (PostCmpB x y w) := by
  have hl := hr.len
  have hm := hs.len
  have a1 := hr.can.len_iff m.length
  have a2 := hs.can.len_iff l.length
  have a3 := Nb.V_lt hr.can.dg
  have a4 := Nb.V_lt hs.can.dg
  rw [hr.val] at a1 a3
  rw [hs.val] at a2 a4
  by_cases hne : l.length = m.length
  · have Hr := Lib.hid hr; have Hs := Lib.hid hs; clear hr hs a1 a2 a3 a4
    have HNE := Lib.hid hne
    have e1 : (m.length : Int) = (l.length : Int) := by omega
    rw [← hne]
    clear hne
    go_enter Tryd.func70, Tryd.ntmps70
    go_wp2_with fail
    go_loopw [5] (fun i wr => ∃ (k : Nat), k ≤ l.length ∧ i = .int .i64 ((k : Int) - 1) ∧ Hid (l.drop k = m.drop k) ∧ Hid (Below w.heap.size w wr)) (fun i _ => (intOf i + 1).toNat)
    case atStart => exact ⟨l.length, Nat.le_refl _, by go_num, Lib.hid (by rw [List.drop_of_length_le (Nat.le_refl _), List.drop_of_length_le (by rw [HNE.out]; exact Nat.le_refl _)]), Lib.hid (Below.refl _ _)⟩
    case round =>
      obtain ⟨k, hk, rfl, HD, HB⟩ := hrel
      by_cases h0 : k = 0
      · subst h0
        have hlm := HD.out
        rw [List.drop_zero, List.drop_zero] at hlm
        have HXY := Lib.hid (show x = y by rw [← Hr.out.val, ← Hs.out.val, hlm])
        clear hlm
        go_wp2_with fail
        go_ret
        exact ⟨0, rfl, by have := HXY.out; omega, HB.out⟩
      · obtain ⟨i, rfl⟩ : ∃ i, k = i + 1 := ⟨k - 1, by omega⟩
        have ei : (((i + 1 : Nat) : Int) - 1) = (i : Int) := by omega
        rw [ei]
        have hrw := Hr.out.below HB.out
        have hsw := Hs.out.below HB.out
        obtain ⟨b1, off1, rfl, hbl, hc⟩ := hrw.rd (by omega)
        have hc1 := hc i (by omega); clear hc
        obtain ⟨b2, off2, rfl, hbl2, hc⟩ := hsw.rd (by have := HNE.out; omega)
        have hc2 := hc i (by have := HNE.out; omega); clear hc
        obtain ⟨z, hz⟩ : ∃ z, l.getD i 0 = z := ⟨_, rfl⟩
        obtain ⟨u, hu⟩ : ∃ u, m.getD i 0 = u := ⟨_, rfl⟩
        rw [hz] at hc1
        rw [hu] at hc2
        have d1 := hrw.can.dg.at i
        have d2 := hsw.can.dg.at i
        rw [hz] at d1
        rw [hu] at d2
        obtain ⟨d10, d11⟩ := d1
        obtain ⟨d20, d21⟩ := d2
        have i0 : (0 : Int) ≤ (i : Int) := by omega
        have i1 : (i : Int) < (l.length : Int) := by omega
        by_cases hzu : z = u
        · have HD2 := Lib.hid (show l.drop i = m.drop i by
            rw [Nb.drop_at l i (by omega), Nb.drop_at m i (by have := HNE.out; omega), hz, hu, hzu, HD.out])
          subst hzu
          clear hrw hsw hz hu h0
          go_wp2_with fail
          go_quiet (fail)
          go_wp2_with fail
          exact ⟨⟨i, by omega, rfl, HD2, Lib.hid (bel_drewN HB.out _)⟩, by simp [intOf]⟩
        · have HC := Lib.hid (cmp_bits hrw.can.dg hsw.can.dg HNE.out (by omega) HD.out hz hu hzu)
          have hzu2 : (z == u) = false := by rw [beq_eq_false_iff_ne]; exact hzu
          clear hrw hsw hz hu h0
          go_wp2_with fail
          go_quiet (fail)
          go_wp2_with fail
          go_quiet (fail)
          go_wp2_with fail
          go_ret
          exact ⟨_, rfl, by have := HC.out; rwa [Hr.out.val, Hs.out.val] at this, bel_drewN (bel_drewN HB.out _) _⟩
  · by_cases hlt : l.length < m.length
    · have HXY := Lib.hid (show x < y by omega)
      have e1 : (l.length : Int) < (m.length : Int) := by omega
      have e2 : ((l.length : Int) == (m.length : Int)) = false := by rw [beq_eq_false_iff_ne]; omega
      clear hr hs a1 a2 a3 a4 hlt
      go_enter Tryd.func70, Tryd.ntmps70
      go_wp2_with fail
      go_ret
      exact ⟨-1, rfl, by have := HXY.out; omega, Below.refl _ _⟩
    · have HXY := Lib.hid (show y < x by omega)
      have e1 : (m.length : Int) ≤ (l.length : Int) := by omega
      have e2 : ((l.length : Int) == (m.length : Int)) = false := by rw [beq_eq_false_iff_ne]; omega
      clear hr hs a1 a2 a3 a4 hlt
      go_enter Tryd.func70, Tryd.ntmps70
      go_wp2_with fail
      go_ret
      exact ⟨1, rfl, by have := HXY.out; omega, Below.refl _ _⟩

/-- a round of mul -/
structure MulB (W w : World) (o : Value) (z : Int) (n : Nat) : Prop where
  is : ∃ A c q, o = .slice A q.length c ∧ NumB w A q z ∧ q.length ≤ n
  bel : Below W.heap.size W w
set_option maxRecDepth 100000 in
set_option maxHeartbeats 4000000 in
theorem rmul_any (A B : Option Addr) (ca cb : Nat) (l m : List Int) (x y : Int) (w : World) (hr : NumB w A l x) (hs : NumB w B m y) (hl : l.length + m.length ≤ 40000) :
    Calls Tryd.prog 56 #[.slice A l.length ca, .slice B m.length cb] w (PostBn (x * y) w) := by
  have hyb : y < Nb.Bp m.length := by
    have := Nb.V_lt hs.can.dg
    rwa [hs.val] at this
  have y0 := hs.nn
  have HY := Lib.hid hyb
  have Hr := Lib.hid hr; have Hs := Lib.hid hs; clear hr hs hyb
  go_enter Tryd.func56, Tryd.ntmps56
  go_wp2_with fail
  go_loopw [5, 6] (fun o i wr => ∃ (k : Nat) (A' : Option Addr) (c' : Nat) (q : List Int), k ≤ l.length ∧ i = .int .i64 k ∧ o = .slice A' q.length c' ∧ Hid (NumB wr A' q (Nb.V (l.take k) * y)) ∧ Hid (q.length ≤ c' ∧ c' ≤ 9223372036854775807 ∧ Cap w A' c') ∧ Hid (Below w.heap.size w wr)) (fun _ i _ => l.length - (intOf i).toNat)
  case atStart => exact ⟨0, none, 0, [], by omega, rfl, rfl, Lib.hid (by rw [List.take_zero]; simp only [Nb.V, Int.zero_mul]; exact NumB.nil _), Lib.hid ⟨by simp, by omega, Cap.nil _⟩, Lib.hid (Below.refl _ _)⟩
  case round =>
    obtain ⟨k, A', c', q, hk, rfl, rfl, HN, HC, HB⟩ := hrel
    by_cases h0 : k = l.length
    · subst h0
      have hv := HN.out
      rw [List.take_length, Hr.out.val] at hv
      have HV := Lib.hid hv; clear hv
      go_wp2_with fail
      go_ret
      exact ⟨A', c', q, rfl, HV.out, HC.out.1, HC.out.2.1, HC.out.2.2, HB.out⟩
    · have hrw := Hr.out.below HB.out
      have hsw := Hs.out.below HB.out
      obtain ⟨b1, off1, rfl, hbl, hc⟩ := hrw.rd (by omega)
      have hc1 := hc k (by omega); clear hc
      have d1 := hrw.can.dg.at k
      have hvk := Nb.V_take l k
      obtain ⟨z, hz⟩ : ∃ z, l.getD k 0 = z := ⟨_, rfl⟩
      rw [hz] at hc1 d1 hvk
      have hql : q.length ≤ k + m.length := by
        rw [HN.out.can.len_iff, HN.out.val, Nb.Bp_add]
        have h1 := Nb.V_lt (hrw.can.dg.take k)
        rw [List.length_take, show min k l.length = k by omega] at h1
        have h2 := Nb.V_nonneg (hrw.can.dg.take k)
        have h3 : Nb.V (l.take k) * y ≤ Nb.V (l.take k) * Nb.Bp m.length := Int.mul_le_mul_of_nonneg_left (Int.le_of_lt HY.out) h2
        have h4 : Nb.V (l.take k) * Nb.Bp m.length < Nb.Bp k * Nb.Bp m.length := Int.mul_lt_mul_of_pos_right h1 (Nb.Bp_pos _)
        omega
      have i0 : (0 : Int) ≤ (k : Int) := by omega
      have i1 : (k : Int) < (l.length : Int) := by omega
      rcases (show z = 0 ∨ z = 1 by omega) with rfl | rfl
      · rw [Int.mul_zero, Int.add_zero] at hvk
        have hn := HN.out
        rw [← hvk] at hn
        have HN2 := Lib.hid hn
        clear hn hvk hrw hsw hz h0
        go_wp2_with fail
        exact ⟨⟨k + 1, A', c', q, by omega, by go_num, rfl, HN2, HC, HB⟩, by simp [intOf]; omega⟩
      · have hA := radd_any A' B c' cb k q m _ y wr HN.out hsw (by omega) (by omega)
        rw [show Nb.V (l.take k) * y + Nb.Bp k * y = Nb.V (l.take (k + 1)) * y by rw [hvk]; grind] at hA
        have HA := Lib.hid hA
        clear hA hvk hrw hsw hz h0
        go_wp2_with (go_at_call 55; (with_reducible refine HA.out.mono ?_); rintro e w' ⟨A2, c2, q2, rfl, h1, h2, h3, h4, h5⟩; have HN2 := Lib.hid h1; have HC2 := Lib.hid (And.intro h2 (And.intro h3 (h4.mono HB.out.size))); have HB2 := Lib.hid (HB.out.trans (h5.mono HB.out.size)); clear h1 h2 h3 h4 h5)
        exact ⟨⟨k + 1, A2, c2, q2, by omega, by go_num, rfl, HN2, HC2, HB2⟩, by simp [intOf]; omega⟩

end Go.Proofs.YtgcfmkelanhdhaaDoor
