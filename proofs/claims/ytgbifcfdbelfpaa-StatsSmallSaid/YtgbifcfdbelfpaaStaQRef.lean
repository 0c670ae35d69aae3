/-
  The walk of the reference's Quantile.
-/
import Derived.Test.YtgbifcfdbelfpaaStaRank
import Derived.Test.YtgbifcfdbelfpaaStaLaw
namespace Go.Proofs.Ytgbifcfdbelfpaa
open Go.RowKit
set_option linter.unusedVariables false

/-- the best of the first i -/
def QSt (zs : List Int) (q : Int) (i : Nat) (best : Int) (sm : Bool) : Prop :=
  (sm = false ∧ best = 0 ∧ ∀ j, j < i → ¬ Enough zs q (zs.getD j 0)) ∨ (sm = true ∧ best ∈ zs ∧ Enough zs q best ∧ ∀ j, j < i → Enough zs q (zs.getD j 0) → best ≤ zs.getD j 0)
theorem QSt.skip {zs : List Int} {q : Int} {i : Nat} {best : Int} {sm : Bool} (h : QSt zs q i best sm) (hn : ¬ Enough zs q (zs.getD i 0)) : QSt zs q (i + 1) best sm := by
  rcases h with ⟨h1, h2, h3⟩ | ⟨h1, h2, h3, h4⟩
  · refine .inl ⟨h1, h2, fun j hj => ?_⟩
    by_cases e : j = i
    · rw [e]; exact hn
    · exact h3 j (by omega)
  · refine .inr ⟨h1, h2, h3, fun j hj he => ?_⟩
    by_cases e : j = i
    · rw [e] at he; exact absurd he hn
    · exact h4 j (by omega) he
theorem QSt.keep {zs : List Int} {q : Int} {i : Nat} {best : Int} (h : QSt zs q i best true) (hl : best ≤ zs.getD i 0) : QSt zs q (i + 1) best true := by
  rcases h with ⟨h1, _⟩ | ⟨h1, h2, h3, h4⟩
  · cases h1
  · refine .inr ⟨h1, h2, h3, fun j hj he => ?_⟩
    by_cases e : j = i
    · rw [e]; exact hl
    · exact h4 j (by omega) he
theorem QSt.take {zs : List Int} {q : Int} {i : Nat} {best : Int} {sm : Bool} (h : QSt zs q i best sm) (hi : i < zs.length) (he : Enough zs q (zs.getD i 0)) (hl : sm = false ∨ zs.getD i 0 < best) : QSt zs q (i + 1) (zs.getD i 0) true := by
  refine .inr ⟨rfl, getD_mem hi, he, fun j hj h2 => ?_⟩
  by_cases e : j = i
  · rw [e]; exact Int.le_refl _
  · rcases h with ⟨h1, h2', h3⟩ | ⟨h1, h2', h3, h4⟩
    · exact absurd h2 (h3 j (by omega))
    · rcases hl with h5 | h5
      · rw [h1] at h5; cases h5
      · have := h4 j (by omega) h2; omega
theorem QSt.done {zs : List Int} {q : Int} {best : Int} {sm : Bool} (h : QSt zs q zs.length best sm) (hz : zs ≠ []) (q0 : 0 ≤ q) (q1 : q ≤ 10000) : best = qnt zs q := by
  have g := qnt_good zs hz q0 q1
  obtain ⟨j, hj, hje⟩ := List.getElem_of_mem g.mem
  have he : zs.getD j 0 = qnt zs q := by rw [List.getD_eq_getElem?_getD, List.getElem?_eq_getElem hj]; exact hje
  rcases h with ⟨h1, h2, h3⟩ | ⟨h1, h2, h3, h4⟩
  · exact absurd (he ▸ g.most) (h3 j hj)
  · have h5 := h4 j hj (he ▸ g.most)
    have h6 := g.least h2 h3
    omega

theorem rQuantile_many (A : Option Addr) (cap len : Nat) (q : Int) (w : World) (h : 10000 < len) (hl : len ≤ 9223372036854775807) : Calls Try.prog 48 #[.slice A len cap, .int .i64 q] w (PostIntErr 5 w) := by
  have i0 : (10000 : Int) < (len : Int) := by omega
  go_enter Try.func48, Try.ntmps48
  go_wp2
  go_ret2
  exact ⟨rfl, Below.refl _ _⟩
theorem rQuantile_arg (A : Option Addr) (cap len : Nat) (q : Int) (w : World) (h : len ≤ 10000) (hq : q < 0 ∨ 10000 < q) : Calls Try.prog 48 #[.slice A len cap, .int .i64 q] w (PostIntErr 2 w) := by
  have i0 : (len : Int) ≤ (10000 : Int) := by omega
  by_cases h0 : q < 0
  · go_enter Try.func48, Try.ntmps48
    go_wp2
    go_ret2
    exact ⟨rfl, Below.refl _ _⟩
  · have h1 : 10000 < q := by omega
    have f0 : decide (q < 0) = false := decide_eq_false h0
    go_enter Try.func48, Try.ntmps48
    go_wp2
    go_ret2
    exact ⟨rfl, Below.refl _ _⟩
theorem rQuantile_none (A : Option Addr) (cap : Nat) (q : Int) (w : World) (q0 : 0 ≤ q) (q1 : q ≤ 10000) : Calls Try.prog 48 #[.slice A 0 cap, .int .i64 q] w (PostIntErr 6 w) := by
  have f0 : decide (q < 0) = false := decide_eq_false (by omega)
  have f1 : decide (10000 < q) = false := decide_eq_false (by omega)
  go_enter Try.func48, Try.ntmps48
  go_wp2
  go_ret2
  exact ⟨rfl, Below.refl _ _⟩

set_option maxRecDepth 100000 in
set_option maxHeartbeats 4000000 in
theorem rQuantile_ok (b off cap : Nat) (zs : List Int) (q : Int) (w : World) (hz : zs.length ≤ 10000) (h0 : zs ≠ []) (q0 : 0 ≤ q) (q1 : q ≤ 10000) (hb : b < w.heap.size)
    (h2 : ∀ j, j < zs.length → w.cell? ⟨b, off + j, none⟩ = some (.int .i64 (zs.getD j 0))) :
    Calls Try.prog 48 #[.slice (some ⟨b, off, none⟩) zs.length cap, .int .i64 q] w (PostIntE (qnt zs q) w) := by
  have hl : 0 < zs.length := List.length_pos_iff.2 h0
  have i0 : (zs.length : Int) ≤ (10000 : Int) := by omega
  have i1 : (0 : Int) < (zs.length : Int) := by omega
  have f0 : decide (q < 0) = false := decide_eq_false (by omega)
  have f1 : decide (10000 < q) = false := decide_eq_false (by omega)
  have f2 : ((zs.length : Int) == 0) = false := by rw [beq_eq_false_iff_ne]; omega
  have f2' : (zs.length == 0) = false := by rw [beq_eq_false_iff_ne]; omega
  have m0 : q * (zs.length : Int) ≤ 10000 * 10000 := Int.mul_le_mul q1 i0 (by omega) (by omega)
  have m1 : 0 ≤ q * (zs.length : Int) := Int.mul_nonneg q0 (by omega)
  obtain ⟨t, ht⟩ : ∃ t, q * (zs.length : Int) = t := ⟨_, rfl⟩
  rw [ht] at m0 m1
  have H0 := Lib.hid h0; have H2 := Lib.hid h2
  clear h0 h2
  go_enter Try.func48, Try.ntmps48
  go_wp2
  go_loopw [6, 7, 8] (fun s6 s7 s8 wr => ∃ (i : Nat) (best : Int) (sm : Bool), i ≤ zs.length ∧ s8 = .int .i64 i ∧ s6 = .int .i64 best ∧ s7 = .bool sm ∧ Hid (QSt zs q i best sm) ∧ Hid (Below w.heap.size w wr)) (fun _ _ s8 _ => zs.length - (intOf s8).toNat)
  case atStart => exact ⟨0, 0, false, by omega, rfl, rfl, rfl, Lib.hid (.inl ⟨rfl, rfl, fun j hj => by omega⟩), Lib.hid (Below.refl _ _)⟩
  case round =>
    obtain ⟨i, best, sm, hi, rfl, rfl, rfl, HQ, HB⟩ := hrel
    by_cases hlt : i < zs.length
    · have I0 : (0 : Int) ≤ (i : Int) := by omega
      have I1 : (i : Int) < (zs.length : Int) := by omega
      obtain ⟨z, hz2⟩ : ∃ z, z = zs.getD i 0 := ⟨_, rfl⟩
      have HZ := Lib.hid hz2
      clear hz2
      go_wp2
      go_loopw [9, 10] (fun s9 s10 wx => ∃ k : Nat, k ≤ zs.length ∧ s10 = .int .i64 k ∧ s9 = .int .i64 (cle (zs.take k) z) ∧ Hid (Below w.heap.size w wx)) (fun _ s10 _ => zs.length - (intOf s10).toNat)
      case atStart => exact ⟨0, by omega, rfl, by simp [cle], HB⟩
      case round =>
        obtain ⟨k, hk, rfl, rfl, HB2⟩ := hrel
        have hcl := cle_len (zs.take k) z
        have hkl : (zs.take k).length ≤ k := List.length_take_le _ _
        have cI := (bcell HB2.out b (off + i) hb).trans (H2.out i hlt)
        rw [← HZ.out] at cI
        by_cases hlk : k < zs.length
        · have hs := cle_take zs z k hlk
          have cK := (bcell HB2.out b (off + k) hb).trans (H2.out k hlk)
          have K0 : (0 : Int) ≤ (k : Int) := by omega
          have K1 : (k : Int) < (zs.length : Int) := by omega
          generalize cle (zs.take k) z = N at *
          generalize zs.getD k 0 = u at *
          have HS := Lib.hid hs
          have N1 : (N : Int) ≤ 10000 := by omega
          have N0 : (0 : Int) ≤ (N : Int) := by omega
          clear hs hkl hcl
          by_cases hu : u ≤ z
          · have g1 : decide (u ≤ z) = true := decide_eq_true hu
            go_wp2
            go_quiet (fail)
            go_wp2
            go_roundw
            case rel => exact ⟨k + 1, by omega, by go_num, by rw [HS.out, if_pos hu]; go_num, Lib.hid (below_drewN HB2.out nq)⟩
            case measure => simp [intOf]; omega
          · have g1 : decide (u ≤ z) = false := decide_eq_false hu
            go_wp2
            go_quiet (fail)
            go_wp2
            go_roundw
            case rel => exact ⟨k + 1, by omega, by go_num, by rw [HS.out, if_neg (show ¬ u ≤ z by omega)]; rfl, Lib.hid (below_drewN HB2.out nq)⟩
            case measure => simp [intOf]; omega
        · obtain rfl : k = zs.length := by omega
          have hc2 : cle (zs.take zs.length) z = cle zs z := by rw [List.take_length]
          rw [hc2] at hcl ⊢
          have hE : Enough zs q (zs.getD i 0) ↔ t ≤ (cle zs z : Int) * 10000 := by unfold Enough; rw [← HZ.out, ht]
          have HE := Lib.hid hE
          have N1 : (cle zs z : Int) ≤ 10000 := by omega
          have N0 : (0 : Int) ≤ (cle zs z : Int) := by omega
          generalize cle zs z = N at *
          clear hcl hkl hc2 hE
          by_cases he : t ≤ (N : Int) * 10000
          · have g1 : decide (t ≤ (N : Int) * 10000) = true := decide_eq_true he
            cases sm with
            | false =>
              go_wp2
              go_roundw
              case rel => exact ⟨i + 1, z, true, by omega, by go_num, rfl, rfl, Lib.hid (by have := HQ.out.take hlt (HE.out.2 he) (.inl rfl); rwa [← HZ.out] at this), HB2⟩
              case measure => simp [intOf]; omega
            | true =>
              by_cases hb2 : z < best
              · have g2 : decide (z < best) = true := decide_eq_true hb2
                go_wp2
                go_roundw
                case rel => exact ⟨i + 1, z, true, by omega, by go_num, rfl, rfl, Lib.hid (by have := HQ.out.take hlt (HE.out.2 he) (.inr (by rw [← HZ.out]; exact hb2)); rwa [← HZ.out] at this), HB2⟩
                case measure => simp [intOf]; omega
              · have g2 : decide (z < best) = false := decide_eq_false hb2
                go_wp2
                go_roundw
                case rel => exact ⟨i + 1, best, true, by omega, by go_num, rfl, rfl, Lib.hid (HQ.out.keep (by rw [← HZ.out]; omega)), HB2⟩
                case measure => simp [intOf]; omega
          · have g1 : decide (t ≤ (N : Int) * 10000) = false := decide_eq_false he
            go_wp2
            go_roundw
            case rel => exact ⟨i + 1, best, sm, by omega, by go_num, rfl, rfl, Lib.hid (HQ.out.skip (fun h => he (HE.out.1 h))), HB2⟩
            case measure => simp [intOf]; omega
    · obtain rfl : i = zs.length := by omega
      have HR := Lib.hid (HQ.out.done H0.out q0 q1)
      go_wp2
      go_ret2
      exact ⟨ret_two HR.out rfl, HB.out⟩
end Go.Proofs.Ytgbifcfdbelfpaa
