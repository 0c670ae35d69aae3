/-
  The reference's Read.
-/
import Derived.Test.YtgcfmkelanhdhaaDoorNatRef9
namespace Go.Proofs.YtgcfmkelanhdhaaDoor
open Go.RowKit
set_option linter.unusedVariables false

theorem dn_bp {l : List UInt8} (h : Na.DgT l) (hl : l.length ≤ 400) : (Na.dn l : Int) < Nb.Bp 1600 := by
  have h1 := Na.dn_lt h
  have h2 : (10 : Nat) ^ l.length ≤ 16 ^ l.length := Nat.pow_le_pow_left (by omega) _
  have h3 : (16 : Nat) ^ l.length = 2 ^ (4 * l.length) := by rw [Nat.pow_mul]
  have h4 := Nb.Bp_le (show 4 * l.length ≤ 1600 by omega)
  rw [bp_two (4 * l.length)] at h4
  have h5 : ((2 ^ (4 * l.length) : Nat) : Int) = (2 : Int) ^ (4 * l.length) := by rw [Int.natCast_pow]; rfl
  rw [← h3] at h5
  omega
theorem dn_next {S : List UInt8} {k : Nat} (h : k < S.length) : Na.dn (S.take (k + 1)) = 10 * Na.dn (S.take k) + Na.d1 S[k] := by
  rw [List.take_succ_eq_append_getElem h, Na.dn_snoc]
def PostRd (s : ByteArray) (w : World) (e : Ending) (w' : World) : Prop :=
  (Na.isT s.data.toList = true ∧ PostNumE (Na.dn s.data.toList) w e w') ∨ (Na.isT s.data.toList = false ∧ e = .returned (.tuple #[.slice none 0 0, .int .i64 30]) ∧ Below w.heap.size w w')
set_option maxRecDepth 100000 in
set_option maxHeartbeats 8000000 in
theorem rread_any (s : ByteArray) (w : World) (hs : s.size ≤ 400) :
    Calls Tryd.prog 29 #[.string s] w (PostRd s w) := by
  go_enter Tryd.func29, Tryd.ntmps29
  go_wp2_with fail
  go_loop [5] (fun i => ∃ (k : Nat), k ≤ s.size ∧ i = .int .i64 k ∧ Hid ((s.data.toList.take k).all Na.isD = true)) (fun i => s.size - (intOf i).toNat)
  case atStart => exact ⟨0, by omega, rfl, Lib.hid (by simp)⟩
  case round =>
    obtain ⟨k, hk, rfl, hm⟩ := hrel
    by_cases hlt : k < s.size
    · have hll : k < s.data.toList.length := by simpa using hlt
      have ha := all_take hll
      have hb := isT_bad hll
      have e : s.data.toList[k] = s[k] := by simp [← ByteArray.getElem_eq_getElem_data]
      rw [e] at ha hb
      rw [hm.out] at ha
      have HA := Lib.hid ha; have HB := Lib.hid hb
      clear ha hb e
      go_wp2_with fail
      all_goals first
        | (go_ret2; exact .inr ⟨HB.out (by unfold Na.isD; rw [decide_eq_false_iff_not]; omega), rfl, Below.refl _ _⟩)
        | exact ⟨⟨k + 1, by omega, by go_num, Lib.hid (by rw [HA.out]; unfold Na.isD; rw [Bool.true_and, decide_eq_true_eq]; omega)⟩, by simp [intOf]; omega⟩
    · have hall : s.data.toList.all Na.isD = true := by
        have := hm.out
        rwa [List.take_of_length_le (by simp; omega)] at this
      have hDg : Na.DgT s.data.toList := by
        intro c hc
        have := List.all_eq_true.1 hall c hc
        simpa [Na.isD] using this
      have hT : Na.isT s.data.toList = (s.data.toList == [48] || (s.data.toList != [] && s.data.toList.head? != some 48)) := by rw [Na.isT, hall, Bool.true_and]
      have HT := Lib.hid hT; have HDG := Lib.hid hDg
      clear hT hall hm hDg
      have hke : (s.size : Int) ≤ (k : Int) := by omega
      by_cases c1 : s.size = 0
      · have HF := Lib.hid (show Na.isT s.data.toList = false by
          have : s.data.toList = [] := List.eq_nil_of_length_eq_zero (by simpa using c1)
          rw [this]; decide)
        clear HT HDG
        go_wp2_with fail
        go_ret2
        exact .inr ⟨HF.out, rfl, Below.refl _ _⟩
      · have h0 : 0 < s.size := by omega
        have f1 : ((s.size : Int) == 0) = false := by rw [beq_eq_false_iff_ne]; omega
        have hh : s.data.toList.head? = some s[0] := by
          have : 0 < s.data.toList.length := by simpa using h0
          rw [List.head?_eq_getElem?, List.getElem?_eq_getElem this]
          simp [← ByteArray.getElem_eq_getElem_data]
        have h48 : s[0] = 48 ↔ (s[0].toNat : Int) = 48 := ⟨fun h => by rw [h]; rfl, fun h => UInt8.toNat_inj.1 (by have : (48 : UInt8).toNat = 48 := rfl; omega)⟩
        have hne : s.data.toList ≠ [] := fun e => by rw [e] at hh; cases hh
        by_cases c2 : 1 < s.size ∧ s[0] = 48
        · have HF := Lib.hid (show Na.isT s.data.toList = false by
            rw [HT.out, hh, c2.2]
            have : s.data.toList ≠ [48] := fun e => by
              have h1 : s.data.toList.length = s.size := by simp
              rw [e] at h1; simp at h1; omega
            rw [beq_eq_false_iff_ne.2 this]; simp)
          have i1 : (1 : Int) < (s.size : Int) := by omega
          have i2 : (s[0].toNat : Int) = 48 := h48.1 c2.2
          clear HT HDG c1 c2 hh h48 hne
          go_wp2_with fail
          go_ret2
          exact .inr ⟨HF.out, rfl, Below.refl _ _⟩
        · have HTT := Lib.hid (show Na.isT s.data.toList = true by
            rw [HT.out]
            by_cases e : s.data.toList = [48]
            · rw [e]; rfl
            · have e2 : s[0] ≠ 48 := by
                intro e3
                refine e ?_
                have h1 : s.data.toList.length = s.size := by simp
                match hS : s.data.toList with
                | [] => exact absurd hS hne
                | [c] => rw [hS] at hh; simp at hh; rw [hh, e3]
                | c :: d :: t => exfalso; rw [hS] at h1; simp at h1; exact c2 ⟨by omega, e3⟩
              rw [hh, bne_iff_ne.2 hne, bne_iff_ne.2 (by rw [Ne, Option.some.injEq]; exact e2)]
              simp)
          have HC2 := Lib.hid (show ¬ (1 < s.size) ∨ ((s[0].toNat : Int) == 48) = false by
            rcases Nat.lt_or_ge 1 s.size with h | h
            · right; rw [beq_eq_false_iff_ne]; exact fun e => c2 ⟨h, h48.2 e⟩
            · left; omega)
          clear HT c1 c2 hh h48 hne
          by_cases h1s : 1 < s.size
          · have i1 : (1 : Int) < (s.size : Int) := by omega
            have i2 : ((s[0].toNat : Int) == 48) = false := by
              rcases HC2.out with h | h
              · exact absurd h1s h
              · exact h
            clear HC2
            go_wp2_with fail
            go_loopw [4, 6] (fun b i wr => ∃ (j : Nat), j ≤ s.size ∧ i = .int .i64 j ∧ Hid (SB wr b (Na.dn (s.data.toList.take j))) ∧ Hid (Below w.heap.size w wr)) (fun _ i _ => s.size - (intOf i).toNat)
            case atStart => exact ⟨0, by omega, rfl, Lib.hid ⟨none, 0, [], rfl, by simpa [Na.dn] using NumB.nil w, by simp, by omega⟩, Lib.hid (Below.refl _ _)⟩
            case round =>
              obtain ⟨j, hj, rfl, HSB, HBW⟩ := hrel
              have hsz : s.data.toList.length = s.size := by simp
              by_cases hj2 : j = s.size
              · subst hj2
                obtain ⟨A, c', q, rfl, hn, hq1, hq2⟩ := HSB.out
                rw [List.take_of_length_le (by omega)] at hn
                have hq3 := sb_len hn (dn_bp HDG.out (by omega))
                have HF := Lib.hid (rfit_any A c' q _ _ hn (by omega) hq1 hq2)
                clear hn hq1 hq2 hq3 HSB hsz
                go_wp2_with (go_at_call 57; (with_reducible refine HF.out.mono ?_); rintro e w' ⟨A3, c3, l3, rfl, h1, h2⟩; have HP := Lib.hid h1; have HB3 := Lib.hid h2; clear h1 h2)
                go_ret2
                exact .inl ⟨HTT.out, A3, c3, l3, rfl, HP.out, HBW.out.trans (HB3.out.mono HBW.out.size)⟩
              · have hjl : j < s.size := by omega
                have k0 : (0 : Int) ≤ (j : Int) := by omega
                have k1 : (j : Int) < (s.size : Int) := by omega
                have hc := HDG.out _ (List.getElem_mem (show j < s.data.toList.length by omega))
                have hnx := dn_next (S := s.data.toList) (k := j) (by omega)
                have e : s.data.toList[j]'(by omega) = s[j] := by simp [← ByteArray.getElem_eq_getElem_data]
                rw [e] at hc hnx
                obtain ⟨c, hcc⟩ : ∃ c : Int, (s[j].toNat : Int) = c := ⟨_, rfl⟩
                have hnx2 : ((Na.dn (s.data.toList.take (j + 1)) : Nat) : Int) = 10 * (Na.dn (s.data.toList.take j) : Int) + (c - 48) := by
                  rw [hnx]; unfold Na.d1; omega
                have hby := dn_bp (HDG.out.take j) (by rw [List.length_take]; omega)
                have HNX := Lib.hid hnx2; have HBY := Lib.hid hby; have HCC := Lib.hid hcc; have HCB := Lib.hid hc
                clear hj2 hnx hnx2 hby e hc hcc hsz
                go_wp2_with fail
                refine regRd_at ?r _ (Nat.le_of_ble_eq_true rfl) s j c _ _ rfl rfl HSB.out hjl (by omega) HCC.out (by have := HCB.out; have := HCC.out; omega) (by have := HCB.out; have := HCC.out; omega) (by omega) HBY.out ?_
                case r =>
                  exact {
                    size := rfl, early := early_of rfl,
                    o0 := ⟨_, rfl, rfl, rfl, rfl⟩, o1 := ⟨_, rfl, rfl, rfl, rfl⟩, o2 := ⟨_, rfl, rfl, rfl, rfl⟩, o3 := ⟨_, rfl, rfl, rfl, rfl⟩, o4 := ⟨_, rfl, rfl, rfl, rfl⟩, o5 := ⟨_, rfl, rfl, rfl, rfl⟩, o6 := ⟨_, rfl, rfl, rfl, rfl⟩, o7 := ⟨_, rfl, rfl, rfl, rfl⟩, o8 := ⟨_, rfl, rfl, rfl, rfl⟩, o9 := ⟨_, rfl, rfl, rfl, rfl⟩, o10 := ⟨_, rfl, rfl, rfl, rfl⟩, o11 := ⟨_, rfl, rfl, rfl, rfl⟩,
                    w2_0 := ⟨_, 0, _, rfl, rfl, rfl, rfl⟩, w2_1 := ⟨_, 1, _, rfl, rfl, rfl, rfl⟩, w5_3 := ⟨_, 0, _, rfl, rfl, rfl, rfl⟩, w5_4 := ⟨_, 1, _, rfl, rfl, rfl, rfl⟩, w6_5 := ⟨_, 0, _, rfl, rfl, rfl, rfl⟩, w7_6 := ⟨_, 0, _, rfl, rfl, rfl, rfl⟩, w8_7 := ⟨_, 0, _, rfl, rfl, rfl, rfl⟩, w9_8 := ⟨_, 0, _, rfl, rfl, rfl, rfl⟩, w10_2 := ⟨_, 0, _, rfl, rfl, rfl, rfl⟩, w10_9 := ⟨_, 1, _, rfl, rfl, rfl, rfl⟩, w11_10 := ⟨_, 0, _, rfl, rfl, rfl, rfl⟩ }
                intro v0 v1 v2 v3 v4 v5 v6 v7 v8 v9 v10 v11 w' hb hsb
                rw [← HNX.out] at hsb
                have HSB' := Lib.hid hsb; have HB' := Lib.hid (HBW.out.trans (hb.mono HBW.out.size)); clear hsb hb
                go_wp2_with fail
                exact ⟨⟨j + 1, by omega, by go_num, HSB', HB'⟩, by simp [intOf]; omega⟩
          · have i1 : (s.size : Int) ≤ 1 := by omega
            clear HC2
            go_wp2_with fail
            go_loopw [4, 6] (fun b i wr => ∃ (j : Nat), j ≤ s.size ∧ i = .int .i64 j ∧ Hid (SB wr b (Na.dn (s.data.toList.take j))) ∧ Hid (Below w.heap.size w wr)) (fun _ i _ => s.size - (intOf i).toNat)
            case atStart => exact ⟨0, by omega, rfl, Lib.hid ⟨none, 0, [], rfl, by simpa [Na.dn] using NumB.nil w, by simp, by omega⟩, Lib.hid (Below.refl _ _)⟩
            case round =>
              obtain ⟨j, hj, rfl, HSB, HBW⟩ := hrel
              have hsz : s.data.toList.length = s.size := by simp
              by_cases hj2 : j = s.size
              · subst hj2
                obtain ⟨A, c', q, rfl, hn, hq1, hq2⟩ := HSB.out
                rw [List.take_of_length_le (by omega)] at hn
                have hq3 := sb_len hn (dn_bp HDG.out (by omega))
                have HF := Lib.hid (rfit_any A c' q _ _ hn (by omega) hq1 hq2)
                clear hn hq1 hq2 hq3 HSB hsz
                go_wp2_with (go_at_call 57; (with_reducible refine HF.out.mono ?_); rintro e w' ⟨A3, c3, l3, rfl, h1, h2⟩; have HP := Lib.hid h1; have HB3 := Lib.hid h2; clear h1 h2)
                go_ret2
                exact .inl ⟨HTT.out, A3, c3, l3, rfl, HP.out, HBW.out.trans (HB3.out.mono HBW.out.size)⟩
              · have hjl : j < s.size := by omega
                have k0 : (0 : Int) ≤ (j : Int) := by omega
                have k1 : (j : Int) < (s.size : Int) := by omega
                have hc := HDG.out _ (List.getElem_mem (show j < s.data.toList.length by omega))
                have hnx := dn_next (S := s.data.toList) (k := j) (by omega)
                have e : s.data.toList[j]'(by omega) = s[j] := by simp [← ByteArray.getElem_eq_getElem_data]
                rw [e] at hc hnx
                obtain ⟨c, hcc⟩ : ∃ c : Int, (s[j].toNat : Int) = c := ⟨_, rfl⟩
                have hnx2 : ((Na.dn (s.data.toList.take (j + 1)) : Nat) : Int) = 10 * (Na.dn (s.data.toList.take j) : Int) + (c - 48) := by
                  rw [hnx]; unfold Na.d1; omega
                have hby := dn_bp (HDG.out.take j) (by rw [List.length_take]; omega)
                have HNX := Lib.hid hnx2; have HBY := Lib.hid hby; have HCC := Lib.hid hcc; have HCB := Lib.hid hc
                clear hj2 hnx hnx2 hby e hc hcc hsz
                go_wp2_with fail
                refine regRd_at ?r _ (Nat.le_of_ble_eq_true rfl) s j c _ _ rfl rfl HSB.out hjl (by omega) HCC.out (by have := HCB.out; have := HCC.out; omega) (by have := HCB.out; have := HCC.out; omega) (by omega) HBY.out ?_
                case r =>
                  exact {
                    size := rfl, early := early_of rfl,
                    o0 := ⟨_, rfl, rfl, rfl, rfl⟩, o1 := ⟨_, rfl, rfl, rfl, rfl⟩, o2 := ⟨_, rfl, rfl, rfl, rfl⟩, o3 := ⟨_, rfl, rfl, rfl, rfl⟩, o4 := ⟨_, rfl, rfl, rfl, rfl⟩, o5 := ⟨_, rfl, rfl, rfl, rfl⟩, o6 := ⟨_, rfl, rfl, rfl, rfl⟩, o7 := ⟨_, rfl, rfl, rfl, rfl⟩, o8 := ⟨_, rfl, rfl, rfl, rfl⟩, o9 := ⟨_, rfl, rfl, rfl, rfl⟩, o10 := ⟨_, rfl, rfl, rfl, rfl⟩, o11 := ⟨_, rfl, rfl, rfl, rfl⟩,
                    w2_0 := ⟨_, 0, _, rfl, rfl, rfl, rfl⟩, w2_1 := ⟨_, 1, _, rfl, rfl, rfl, rfl⟩, w5_3 := ⟨_, 0, _, rfl, rfl, rfl, rfl⟩, w5_4 := ⟨_, 1, _, rfl, rfl, rfl, rfl⟩, w6_5 := ⟨_, 0, _, rfl, rfl, rfl, rfl⟩, w7_6 := ⟨_, 0, _, rfl, rfl, rfl, rfl⟩, w8_7 := ⟨_, 0, _, rfl, rfl, rfl, rfl⟩, w9_8 := ⟨_, 0, _, rfl, rfl, rfl, rfl⟩, w10_2 := ⟨_, 0, _, rfl, rfl, rfl, rfl⟩, w10_9 := ⟨_, 1, _, rfl, rfl, rfl, rfl⟩, w11_10 := ⟨_, 0, _, rfl, rfl, rfl, rfl⟩ }
                intro v0 v1 v2 v3 v4 v5 v6 v7 v8 v9 v10 v11 w' hb hsb
                rw [← HNX.out] at hsb
                have HSB' := Lib.hid hsb; have HB' := Lib.hid (HBW.out.trans (hb.mono HBW.out.size)); clear hsb hb
                go_wp2_with fail
                exact ⟨⟨j + 1, by omega, by go_num, HSB', HB'⟩, by simp [intOf]; omega⟩

end Go.Proofs.YtgcfmkelanhdhaaDoor
