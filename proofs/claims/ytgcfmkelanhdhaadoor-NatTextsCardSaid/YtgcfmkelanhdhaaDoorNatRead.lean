/-
  The walks of nat.isText, groupOf, withGroup and Read.
-/
import Derived.Test.YtgcfmkelanhdhaaDoorNatTxt
import Derived.Lib.Strings
namespace Go.Proofs.YtgcfmkelanhdhaaDoor
open Go.RowKit
set_option linter.unusedVariables false

theorem all_take {l : List UInt8} {k : Nat} (h : k < l.length) : (l.take (k + 1)).all Na.isD = ((l.take k).all Na.isD && Na.isD l[k]) := by
  rw [List.take_succ_eq_append_getElem h, List.all_append, List.all_cons, List.all_nil, Bool.and_true]
theorem isT_bad {l : List UInt8} {k : Nat} (h : k < l.length) (hb : Na.isD l[k] = false) : Na.isT l = false := by
  have : l.all Na.isD = false := by
    rw [List.all_eq_false]
    exact ⟨l[k], List.getElem_mem h, by simp [hb]⟩
  simp [Na.isT, this]
theorem str_eq (a : List UInt8) (s : ByteArray) (h : s.data.toList = a) : (s.toList == a) = true := by
  rw [Lib.toList_data, h]; simp
theorem str_ne (a : List UInt8) (s : ByteArray) (h : s.data.toList ≠ a) : (s.toList == a) = false := by
  rw [Lib.toList_data, beq_eq_false_iff_ne]; exact h

set_option maxHeartbeats 1000000 in
theorem isText_any (s : ByteArray) (w : World) (hs : s.size ≤ 9223372036854775807) :
    Calls Tryd.prog 47 #[.string s] w fun e w' => e = .returned (.bool (Na.isT s.data.toList)) ∧ w = w' := by
  go_enter Tryd.func47, Tryd.ntmps47
  go_wp2
  go_loop [6] (fun i => ∃ (k : Nat), k ≤ s.size ∧ i = .int .i64 k ∧ Hid ((s.data.toList.take k).all Na.isD = true)) (fun i => s.size - (intOf i).toNat)
  case atStart => exact ⟨0, by omega, rfl, Lib.hid (by simp)⟩
  case round =>
    obtain ⟨k, hk, rfl, hm⟩ := hrel
    by_cases hlt : k < s.size
    · have hll : k < s.data.toList.length := by simpa using hlt
      have ha := all_take hll
      have hb := isT_bad hll
      have e : s.data.toList[k] = s[k] := by simp [← ByteArray.getElem_eq_getElem_data]
      rw [e] at ha hb
      rw [hm.out] at ha
      have HA := Lib.hid ha; have HB := Lib.hid hb
      clear ha hb e
      go_wp2
      all_goals first
        | (go_ret; exact ⟨ret_bool (HB.out (by unfold Na.isD; rw [decide_eq_false_iff_not]; omega)).symm, rfl⟩)
        | exact ⟨⟨k + 1, by omega, by go_num, Lib.hid (by rw [HA.out]; unfold Na.isD; rw [Bool.true_and, decide_eq_true_eq]; omega)⟩, by simp [intOf]; omega⟩
    · have hall : s.data.toList.all Na.isD = true := by
        have := hm.out
        rwa [List.take_of_length_le (by simp; omega)] at this
      have hT : Na.isT s.data.toList = (s.data.toList == [48] || (s.data.toList != [] && s.data.toList.head? != some 48)) := by rw [Na.isT, hall, Bool.true_and]
      have HT := Lib.hid hT
      clear hT hall hm
      by_cases c1 : s.data.toList = [48]
      · have e1 := str_eq _ _ c1
        have HZ := Lib.hid (show Na.isT s.data.toList = true by rw [c1]; decide)
        clear c1
        go_wp2
        go_ret
        exact ⟨ret_bool HZ.out.symm, rfl⟩
      · by_cases c2 : s.data.toList = []
        · have e1 := str_ne _ _ c1
          have e2 := str_eq _ _ c2
          have HZ := Lib.hid (show Na.isT s.data.toList = false by rw [c2]; decide)
          clear c1 c2
          go_wp2
          go_ret
          exact ⟨ret_bool HZ.out.symm, rfl⟩
        · have e1 := str_ne _ _ c1
          have e2 := str_ne _ _ c2
          have h0 : 0 < s.size := by
            have := List.length_pos_iff.2 c2
            simpa using this
          have hh : s.data.toList.head? = some s[0] := by
            have : 0 < s.data.toList.length := by simpa using h0
            rw [List.head?_eq_getElem?, List.getElem?_eq_getElem this]
            simp [← ByteArray.getElem_eq_getElem_data]
          have HH := Lib.hid hh
          have HZ := Lib.hid (show Na.isT s.data.toList = ((s[0].toNat : Int) != 48) by
            rw [HT.out, beq_eq_false_iff_ne.2 c1, bne_iff_ne.2 c2, hh, Bool.false_or, Bool.true_and, Bool.eq_iff_iff, bne_iff_ne, bne_iff_ne]
            have : s[0] = 48 ↔ (s[0].toNat : Int) = 48 := ⟨fun h => by rw [h]; rfl, fun h => UInt8.toNat_inj.1 (by have : (48 : UInt8).toNat = 48 := rfl; omega)⟩
            rw [Ne, Ne, Option.some.injEq, this])
          clear c1 c2 hh HH HT
          go_wp2
          go_ret
          exact ⟨ret_bool HZ.out.symm, rfl⟩

theorem dn_take {l : List UInt8} {k : Nat} (h : k < l.length) : Na.dn (l.take (k + 1)) = 10 * Na.dn (l.take k) + Na.d1 l[k] := by
  rw [List.take_succ_eq_append_getElem h, Na.dn_snoc]
set_option maxHeartbeats 1000000 in
theorem groupOf_any (s : ByteArray) (w : World) (hs : s.size ≤ 9) (hd : Na.DgT s.data.toList) :
    Calls Tryd.prog 49 #[.string s] w fun e w' => e = .returned (.int .u32 (Na.dn s.data.toList)) ∧ w = w' := by
  go_enter Tryd.func49, Tryd.ntmps49
  go_wp2
  go_loop [3, 7] (fun n i => ∃ (k a : Nat), k ≤ s.size ∧ i = .int .i64 k ∧ n = .int .u32 a ∧ a < 10 ^ k ∧ Hid (a = Na.dn (s.data.toList.take k))) (fun _ i => s.size - (intOf i).toNat)
  case atStart => exact ⟨0, 0, by omega, rfl, rfl, by decide, Lib.hid rfl⟩
  case round =>
    obtain ⟨k, a, hk, rfl, rfl, ha, hm⟩ := hrel
    by_cases hlt : k < s.size
    · have hll : k < s.data.toList.length := by simpa using hlt
      have e : s.data.toList[k] = s[k] := by simp [← ByteArray.getElem_eq_getElem_data]
      have hn := dn_take hll
      have hc := hd _ (List.getElem_mem hll)
      rw [e] at hn hc
      rw [← hm.out] at hn
      obtain ⟨c0, c1⟩ := hc
      have hpk : 10 ^ k ≤ 10 ^ 8 := Nat.pow_le_pow_right (by omega) (by omega)
      have hp8 : (10 : Nat) ^ 8 = 100000000 := rfl
      have hps : 10 ^ (k + 1) = 10 ^ k * 10 := Nat.pow_succ ..
      have HN := Lib.hid hn
      have c2 : (48 : Int) ≤ (s[k].toNat : Int) := by omega
      have c3 : (s[k].toNat : Int) ≤ 57 := by omega
      have ha2 : a < 100000000 := by omega
      clear hn e hpk hp8
      go_wp2
      exact ⟨⟨k + 1, 10 * a + Na.d1 s[k], by omega, by go_num, by unfold Na.d1; congr 1; omega, by unfold Na.d1; omega, Lib.hid HN.out.symm⟩, by simp [intOf]; omega⟩
    · have he := hm.out
      rw [List.take_of_length_le (by simp; omega)] at he
      have HE := Lib.hid he
      clear he hm
      go_wp2
      go_ret
      exact ⟨ret_int (by rw [HE.out]), rfl⟩

end Go.Proofs.YtgcfmkelanhdhaaDoor
