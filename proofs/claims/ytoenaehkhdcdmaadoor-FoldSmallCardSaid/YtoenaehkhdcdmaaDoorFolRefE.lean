/-
  The reference's Short.
-/
import Derived.Test.YtoenaehkhdcdmaaDoorFolRefD
namespace Go.Proofs.YtoenaehkhdcdmaaDoor
open Go.RowKit
set_option linter.unusedVariables false
set_option linter.unusedSimpArgs false

structure FindS (p : Fo.Row → Bool) (w wr : World) (g k : Nat) : Prop where
  bel : Below w.heap.size w wr
  tab : Tab wr g
  val : Fo.T.find? p = (Fo.T.drop k).find? p
set_option maxRecDepth 100000 in
set_option maxHeartbeats 8000000 in
theorem shortRef_any (q : Nat) (z : ByteArray) (w : World) : Calls Tryd.prog 29 #[.int .u8 q, .string z] w (PostShort q z.data.toList w) := by
  unfold PostShort
  obtain ⟨p, hp⟩ : ∃ p : Fo.Row → Bool, p = fun r => Fo.ofKind q r && r.2.1 == z.data.toList := ⟨_, rfl⟩
  have hsome : ∀ r, Fo.T.find? p = some r → Fo.short q z.data.toList = r.2.2 ∧ Fo.hasShort q z.data.toList = true := by
    intro r h
    unfold Fo.short Fo.hasShort Fo.short?
    rw [← hp, h]; exact ⟨rfl, rfl⟩
  have hnone : Fo.T.find? p = none → Fo.short q z.data.toList = [] ∧ Fo.hasShort q z.data.toList = false := by
    intro h
    unfold Fo.short Fo.hasShort Fo.short?
    rw [← hp, h]; exact ⟨rfl, rfl⟩
  generalize Fo.short q z.data.toList = RS at *
  generalize Fo.hasShort q z.data.toList = RB at *
  have HSo := Lib.hid hsome; have HNo := Lib.hid hnone
  have hpr : ∀ (x : Nat) (lx ly : List UInt8) (X : ByteArray), X = ⟨lx.toArray⟩ → p (x, lx, ly) = ((q == 0 || x == q) && X.toList == z.toList) := by
    rintro x lx ly X rfl
    rw [hp, ByteArray.toList_eq, ByteArray.toList_eq]; rfl
  have HP := Lib.hid hpr
  have HT := Lib.hid (tableRef_any w)
  clear hp hpr hsome hnone
  go_enter Tryd.func29, Tryd.ntmps29
  go_wp2_with (go_at_call 28; (with_reducible refine HT.out.mono ?_); rintro e w1 ⟨g, rfl, hg, hgw, hb⟩; have H0 := Lib.hid (show FindS p w w1 g 0 from ⟨hb, Tab.of_block hg, rfl⟩); clear hg hgw hb)
  go_loopw [7] (fun s7 wr => wr = w1 ∧ ∃ k : Nat, s7 = .int .i64 k ∧ k ≤ 40 ∧ Hid (FindS p w w1 g k)) (fun s7 _ => 40 - (intOf s7).toNat)
  case atStart => exact ⟨rfl, 0, rfl, by omega, H0⟩
  case round =>
    obtain ⟨rfl, k, rfl, hk, HS⟩ := hrel
    by_cases hlt : k < 40
    · have hlt2 : (k : Int) < 40 := by omega
      have hle : ¬ 40 ≤ k := by omega
      obtain ⟨d0, d1, d2⟩ := HS.out.tab.2 k hlt
      have hd := drop_T k hlt
      obtain ⟨⟨x, lx, ly⟩, hr⟩ : ∃ r, rowAt k = r := ⟨_, rfl⟩
      rw [hr] at d0 d1 d2 hd
      obtain ⟨X, hX⟩ : ∃ X : ByteArray, X = ⟨lx.toArray⟩ := ⟨_, rfl⟩
      obtain ⟨Y, hY⟩ : ∃ Y : ByteArray, Y = ⟨ly.toArray⟩ := ⟨_, rfl⟩
      rw [← hX] at d1
      rw [← hY] at d2
      have hpx := HP.out x lx ly X hX
      have hv := HS.out.val
      rw [hd, List.find?_cons] at hv
      have HY := Lib.hid hY
      clear hd hX hY hr
      cases hB : p (x, lx, ly) with
      | true =>
        rw [hB] at hpx hv
        have hc := hpx.symm
        rw [Bool.and_eq_true] at hc
        obtain ⟨c1, c2⟩ := hc
        obtain ⟨s1, s2⟩ := HSo.out _ hv
        have S1 := Lib.hid s1; have S2 := Lib.hid s2
        clear hpx hv hB s1 s2
        rcases (show q = 0 ∨ (q ≠ 0 ∧ x = q) by rw [Bool.or_eq_true, beq_iff_eq, beq_iff_eq] at c1; omega) with rfl | ⟨h0, rfl⟩
        · clear c1
          go_wp2
          go_ret2
          exact ⟨by rw [S1.out, S2.out, HY.out]; rfl, HS.out.bel⟩
        · have k0 : ((x : Int) == 0) = false := by rw [beq_eq_false_iff_ne]; omega
          clear c1 h0
          go_wp2
          go_ret2
          exact ⟨by rw [S1.out, S2.out, HY.out]; rfl, HS.out.bel⟩
      | false =>
        rw [hB] at hpx hv
        have hc := hpx.symm
        have HS2 := Lib.hid (show FindS p w wr g (k + 1) from ⟨HS.out.bel, HS.out.tab, hv⟩)
        clear hv hpx hB
        rcases (show (q = 0 ∧ (X.toList == z.toList) = false) ∨ (q ≠ 0 ∧ x = q ∧ (X.toList == z.toList) = false) ∨ (q ≠ 0 ∧ x ≠ q) by
          by_cases h0 : q = 0
          · subst h0
            exact .inl ⟨rfl, by simpa using hc⟩
          · by_cases h1 : x = q
            · subst h1
              exact .inr (.inl ⟨h0, rfl, by simpa using hc⟩)
            · exact .inr (.inr ⟨h0, h1⟩)) with ⟨rfl, g1⟩ | ⟨h0, rfl, g1⟩ | ⟨h0, h1⟩
        · clear hc
          go_wp2
          exact ⟨⟨trivial, k + 1, by go_num, by omega, HS2⟩, by simp [intOf]; omega⟩
        · have k0 : ((x : Int) == 0) = false := by rw [beq_eq_false_iff_ne]; omega
          clear hc h0
          go_wp2
          exact ⟨⟨trivial, k + 1, by go_num, by omega, HS2⟩, by simp [intOf]; omega⟩
        · have k0 : ((q : Int) == 0) = false := by rw [beq_eq_false_iff_ne]; omega
          have k1 : ((x : Int) == (q : Int)) = false := by rw [beq_eq_false_iff_ne]; omega
          clear hc h0 h1
          go_wp2
          exact ⟨⟨trivial, k + 1, by go_num, by omega, HS2⟩, by simp [intOf]; omega⟩
    · have hge : ¬ (k : Int) < 40 := by omega
      have hv := HS.out.val
      rw [List.drop_of_length_le (by rw [T_len]; omega)] at hv
      obtain ⟨s1, s2⟩ := HNo.out hv
      have S1 := Lib.hid s1; have S2 := Lib.hid s2
      clear hv s1 s2
      go_wp2
      go_ret2
      exact ⟨by rw [S1.out, S2.out]; rfl, HS.out.bel⟩
end Go.Proofs.YtoenaehkhdcdmaaDoor
