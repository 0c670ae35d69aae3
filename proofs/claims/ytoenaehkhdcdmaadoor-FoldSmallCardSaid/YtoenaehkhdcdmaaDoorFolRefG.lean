/-
  The reference's Kinds.
-/
import Derived.Test.YtoenaehkhdcdmaaDoorFolRefF
namespace Go.Proofs.YtoenaehkhdcdmaaDoor
open Go.RowKit
set_option linter.unusedVariables false
set_option linter.unusedSimpArgs false

def pK (z : List UInt8) (K : Nat) (r : Fo.Row) : Bool := Fo.ofKind K r && Fo.ofWord z r
theorem any_step (p : Fo.Row → Bool) (i : Nat) (h : i < 40) : (Fo.T.take (i + 1)).any p = ((Fo.T.take i).any p || p (rowAt i)) := by
  rw [List.take_add_one, rowAt_get i h, List.any_append]; simp
structure KindS (z : List UInt8) (w wr : World) (g K S P : Nat) : Prop where
  bel : Below w.heap.size w wr
  tab : Tab wr g
  sum : S = Fo.upTo z (K - 1)
  pow : P = 2 ^ K
structure KindI (z : List UInt8) (w wr : World) (g K i : Nat) (h : Bool) : Prop where
  bel : Below w.heap.size w wr
  tab : Tab wr g
  has : (Fo.T.take i).any (pK z K) = h
set_option maxRecDepth 100000 in
set_option maxHeartbeats 8000000 in
theorem kindsRef_any (z : ByteArray) (w : World) : Calls Tryd.prog 31 #[.string z] w (PostU8 (Fo.kinds z.data.toList) w) := by
  rw [Fo.kinds_upTo]
  have HT := Lib.hid (tableRef_any w)
  go_enter Tryd.func31, Tryd.ntmps31
  go_wp2_with (go_at_call 28; (with_reducible refine HT.out.mono ?_); rintro e w1 ⟨g, rfl, hg, hgw, hb⟩; have H0 := Lib.hid (show KindS z.data.toList w w1 g 1 0 2 from ⟨hb, Tab.of_block hg, rfl, rfl⟩); clear hg hgw hb)
  go_loopw [4, 5, 6] (fun s4 s5 s6 wr => ∃ K S P : Nat, s6 = .int .u8 K ∧ s4 = .int .u8 S ∧ s5 = .int .u8 P ∧ 1 ≤ K ∧ K ≤ 6 ∧ Hid (KindS z.data.toList w wr g K S P)) (fun _ _ s6 _ => 6 - (intOf s6).toNat)
  case atStart => exact ⟨1, 0, 2, rfl, rfl, rfl, by omega, by omega, H0⟩
  case round =>
    obtain ⟨K, S, P, rfl, rfl, rfl, hK1, hK6, HS⟩ := hrel
    by_cases hlt : K ≤ 5
    · have hltI : (K : Int) ≤ 5 := by omega
      have hP : P ≤ 32 := by
        rw [HS.out.pow]
        exact Nat.pow_le_pow_right (n := 2) (by omega) (show K ≤ 5 by omega)
      have hSP : S + 2 ≤ P := by
        have := Fo.upTo_le z.data.toList (K - 1)
        rw [HS.out.sum, HS.out.pow, show K - 1 + 1 = K by omega] at *
        exact this
      have hb1 : (S : Int) + P ≤ 255 := by omega
      have hb2 : 2 * (P : Int) ≤ 255 := by omega
      have hb3 : (K : Int) + 1 ≤ 255 := by omega
      obtain ⟨wo, hwo⟩ : ∃ W, W = wr := ⟨_, rfl⟩
      rw [← hwo] at HS ⊢
      have I0 := Lib.hid (show KindI z.data.toList w wo g K 0 false from ⟨HS.out.bel, HS.out.tab, rfl⟩)
      clear hwo
      go_wp2
      go_loopw [7, 8] (fun s7 s8 wr => ∃ (i : Nat) (h : Bool), s8 = .int .i64 i ∧ s7 = .bool h ∧ i ≤ 40 ∧ Hid (KindI z.data.toList w wr g K i h)) (fun _ s8 _ => 40 - (intOf s8).toNat)
      case atStart => exact ⟨0, false, rfl, rfl, by omega, I0⟩
      case round =>
        obtain ⟨i, h, rfl, rfl, hi, HI⟩ := hrel
        by_cases hin : i < 40
        · have hini : (i : Int) < 40 := by omega
          have hle : ¬ 40 ≤ i := by omega
          have hst := any_step (pK z.data.toList K) i hin
          rw [HI.out.has] at hst
          have HST := Lib.hid hst
          clear hst
          cases h with
          | true =>
            go_wp2
            exact ⟨⟨i + 1, true, by go_num, rfl, by omega, Lib.hid ⟨HI.out.bel, HI.out.tab, by rw [HST.out]; rfl⟩⟩, by simp [intOf]; omega⟩
          | false =>
            obtain ⟨d0, d1, d2⟩ := HI.out.tab.2 i hin
            obtain ⟨⟨x, lx, ly⟩, hr⟩ : ∃ r, rowAt i = r := ⟨_, rfl⟩
            rw [hr] at d0 d1 d2
            have hst2 := HST.out
            rw [hr] at hst2
            obtain ⟨X, hX⟩ : ∃ X : ByteArray, X = ⟨lx.toArray⟩ := ⟨_, rfl⟩
            obtain ⟨Y, hY⟩ : ∃ Y : ByteArray, Y = ⟨ly.toArray⟩ := ⟨_, rfl⟩
            have hXd : X.data.toList = lx := by rw [hX]
            have hYd : Y.data.toList = ly := by rw [hY]
            rw [← hX] at d1
            rw [← hY] at d2
            have qo := of_any x K X Y z wr
            rw [hXd, hYd] at qo
            have hpe : pK z.data.toList K (x, lx, ly) = ((K == 0 || x == K) && (lx == z.data.toList || ly == z.data.toList)) := rfl
            rw [← hpe] at qo
            obtain ⟨B, hB⟩ : ∃ B, pK z.data.toList K (x, lx, ly) = B := ⟨_, rfl⟩
            rw [hB] at qo hst2
            have QO := Lib.hid qo; have HST2 := Lib.hid hst2
            clear hst2 qo hpe hB hX hY hXd hYd hr
            go_wp2_with (go_at_call 53; (with_reducible refine QO.out.mono ?_); rintro e V ⟨rfl, hb⟩; have HB := Lib.hid hb; clear hb)
            exact ⟨⟨i + 1, B, by go_num, rfl, by omega, Lib.hid ⟨below_next HI.out.bel HB.out, HI.out.tab.below HB.out, by rw [HST2.out]; rfl⟩⟩, by simp [intOf]; omega⟩
        · have hini : ¬ (i : Int) < 40 := by omega
          have hh := HI.out.has
          rw [List.take_of_length_le (by rw [T_len]; omega)] at hh
          have hk : Fo.hasK z.data.toList K = h := hh
          have hu : Fo.upTo z.data.toList K = S + (if h then P else 0) := by
            obtain ⟨m, rfl⟩ : ∃ m, K = m + 1 := ⟨K - 1, by omega⟩
            rw [HS.out.sum, HS.out.pow, ← hk]; rfl
          have hp2 : 2 * P = 2 ^ (K + 1) := by rw [HS.out.pow, Nat.pow_succ]; omega
          have HU := Lib.hid hu; have HP2 := Lib.hid hp2
          clear hh hk hu hp2
          cases h with
          | true =>
            go_wp2
            exact ⟨⟨K + 1, S + P, 2 * P, by go_num, by go_num, by go_num, by omega, by omega, Lib.hid ⟨HI.out.bel, HI.out.tab, by rw [show K + 1 - 1 = K by omega, HU.out]; rfl, HP2.out⟩⟩, by simp [intOf]; omega⟩
          | false =>
            go_wp2
            exact ⟨⟨K + 1, S, 2 * P, by go_num, rfl, by go_num, by omega, by omega, Lib.hid ⟨HI.out.bel, HI.out.tab, by rw [show K + 1 - 1 = K by omega, HU.out]; rfl, HP2.out⟩⟩, by simp [intOf]; omega⟩
    · have hltI : ¬ (K : Int) ≤ 5 := by omega
      have hs := HS.out.sum
      rw [show K - 1 = 5 by omega] at hs
      have HSu := Lib.hid hs
      clear hs
      go_wp2
      go_ret
      exact ⟨by rw [HSu.out]; rfl, HS.out.bel⟩
end Go.Proofs.YtoenaehkhdcdmaaDoor
