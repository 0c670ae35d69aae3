/-
  What a byte becomes: the closure.
-/
import Derived.Test.YtcponhdeffnndaaGreatDoorFolWalk1

namespace Go.Proofs.YtcponhdeffnndaaGreatDoor
open Go.RowKit
set_option linter.unusedVariables false
set_option linter.unusedSimpArgs false

theorem drop_cons (s : ByteArray) (i : Nat) (h : i < s.size) : s.data.toList.drop i = s[i] :: s.data.toList.drop (i + 1) := by
  rw [List.drop_eq_getElem_cons (by simpa using h)]; rfl
def pcV (x : List UInt8 × Nat) : Value := .tuple #[strV x.1, .int .i64 x.2]
theorem ext_one (s : ByteArray) (i : Nat) (h : i < s.size) : (s.extract i s.size).extract 0 1 = ⟨[s[i]].toArray⟩ := by
  apply ByteArray.ext
  apply Array.ext'
  have h1 := drop_cons s i h
  have hl : s.data.toList.length = s.size := by simp
  simp only [ByteArray.data_extract, Array.toList_extract, List.extract_eq_take_drop, List.drop_zero, Nat.sub_zero, List.take_take]
  rw [h1, show min 1 (s.size - i) = 1 by omega]
  rfl
theorem cap_one (c : UInt8) (h0 : 97 ≤ c.toNat) (h1 : c.toNat ≤ 122) :
    ((⟨#[65, 66, 67, 68, 69, 70, 71, 72, 73, 74, 75, 76, 77, 78, 79, 80, 81, 82, 83, 84, 85, 86, 87, 88, 89, 90]⟩ : ByteArray).extract (c.toNat - 97) 26).extract 0 1 = ⟨[c - 32].toArray⟩ := by
  have H : ∀ k, k < 26 → ((⟨#[65, 66, 67, 68, 69, 70, 71, 72, 73, 74, 75, 76, 77, 78, 79, 80, 81, 82, 83, 84, 85, 86, 87, 88, 89, 90]⟩ : ByteArray).extract k 26).extract 0 1 = ⟨#[UInt8.ofNat (k + 65)]⟩ := by decide +kernel
  rw [H (c.toNat - 97) (by omega)]
  have hx : UInt8.ofNat (c.toNat - 97 + 65) = c - 32 := ?_
  · rw [hx]
  apply UInt8.toNat_inj.1
  have : (c - 32).toNat = c.toNat - 32 := by
    rw [UInt8.toNat_sub_of_le]
    · rfl
    · rw [UInt8.le_iff_toNat_le]; simp; omega
  rw [this, UInt8.toNat_ofNat']
  omega
set_option maxHeartbeats 4000000 in
theorem becomes_any (s : ByteArray) (b i : Nat) (w : World) (hw : Rdy w) (hs : s.size ≤ 140737488355328) (hi : i < s.size) (hc : w.cell? ⟨b, 0, none⟩ = some (.string s)) :
    Calls Tryz.prog 149 #[.int .i64 i, .pointer (some ⟨b, 0, none⟩)] w fun e w' => e = .returned (pcV (Fo.pc (s.data.toList.drop i))) ∧ w = w' := by
  rw [drop_cons s i hi]
  have hi2 : (i : Int) < s.size := by omega
  have hx := ext_one s i hi
  obtain ⟨c, hcc⟩ : ∃ c, s[i] = c := ⟨_, rfl⟩
  rw [hcc] at hx ⊢
  have HX := Lib.hid hx; clear hx
  by_cases h1 : Fo.small c.toNat = true
  · have e1 : Fo.pc (c :: s.data.toList.drop (i + 1)) = ([c - 32], 1) := by
      have : Fo.kept c.toNat = false := by simp [Fo.small] at h1; simp [Fo.kept]; omega
      simp [Fo.pc, this, h1]
    rw [e1]
    simp [Fo.small] at h1
    obtain ⟨g1, g2⟩ := h1
    have hcap := Lib.hid (cap_one c g1 g2)
    go_enter Tryz.func149, Tryz.ntmps149
    go_wp2
    rw [hcap.out]
    go_ret2
    exact ⟨rfl, rfl⟩
  · have hk := isKept_any c.toNat w
    have h1' : c.toNat < 97 ∨ 122 < c.toNat := by simp [Fo.small] at h1; omega
    by_cases h2 : Fo.kept c.toNat = true
    · have e1 : Fo.pc (c :: s.data.toList.drop (i + 1)) = ([c], 1) := by simp [Fo.pc, h2]
      rw [e1]
      rw [h2] at hk
      have HK := Lib.hid hk
      clear hk h1 h2
      rcases h1' with g | g
      all_goals
        go_enter Tryz.func149, Tryz.ntmps149
        go_wp2_with (go_at_call 150; (with_reducible refine HK.out.mono ?_); rintro e w' ⟨rfl, rfl⟩)
        rw [HX.out]
        go_ret2
        exact ⟨rfl, rfl⟩
    · have h2' : Fo.kept c.toNat = false := by simpa using h2
      rw [h2'] at hk
      have HK := Lib.hid hk
      by_cases h3 : i + 1 < s.size
      · have hi3 : (i : Int) + 1 < s.size := by omega
        have hl := letters_any c.toNat (s[i + 1]).toNat (UInt8.toNat_lt _) w hw
        rw [drop_cons s (i + 1) h3]
        obtain ⟨d, hd⟩ : ∃ d, s[i + 1] = d := ⟨_, rfl⟩
        rw [hd] at hl ⊢
        have e1 : Fo.pc (c :: d :: s.data.toList.drop (i + 1 + 1)) = if (Fo.two c.toNat d.toNat).isEmpty then ([32], 1) else (Fo.two c.toNat d.toNat, 2) := by simp [Fo.pc, h1, h2]
        rw [e1]
        obtain ⟨T, hT⟩ : ∃ T, Fo.two c.toNat d.toNat = T := ⟨_, rfl⟩
        rw [hT] at hl ⊢
        clear hk h1 h2 h2' e1 hT
        cases T with
        | nil =>
          have hl2 : Calls Tryz.prog 151 #[.int .u8 c.toNat, .int .u8 d.toNat] w fun e w' => e = .returned (.string ⟨#[]⟩) ∧ w = w' := hl
          have HL := Lib.hid hl2; clear hl hl2
          rcases h1' with g | g
          all_goals
            go_enter Tryz.func149, Tryz.ntmps149
            go_wp2_with (first
              | (go_at_call 150; (with_reducible refine HK.out.mono ?_); rintro e w' ⟨rfl, rfl⟩)
              | (go_at_call 151; (with_reducible refine HL.out.mono ?_); rintro e w' ⟨rfl, rfl⟩))
            go_ret2
            exact ⟨rfl, rfl⟩
        | cons x T =>
          obtain ⟨S, hS⟩ : ∃ S : ByteArray, S = ⟨(x :: T).toArray⟩ := ⟨_, rfl⟩
          have hl2 : Calls Tryz.prog 151 #[.int .u8 c.toNat, .int .u8 d.toNat] w fun e w' => e = .returned (.string S) ∧ w = w' := by rw [hS]; exact hl
          have hne : (S.toList == []) = false := by rw [ByteArray.toList_eq, hS]; rfl
          have HL := Lib.hid hl2; clear hl hl2
          have HS := Lib.hid hS; clear hS
          rcases h1' with g | g
          all_goals
            go_enter Tryz.func149, Tryz.ntmps149
            go_wp2_with (first
              | (go_at_call 150; (with_reducible refine HK.out.mono ?_); rintro e w' ⟨rfl, rfl⟩)
              | (go_at_call 151; (with_reducible refine HL.out.mono ?_); rintro e w' ⟨rfl, rfl⟩))
            go_ret2
            exact ⟨by rw [HS.out]; rfl, rfl⟩
      · have e0 : s.data.toList.drop (i + 1) = [] := List.drop_of_length_le (by simp; omega)
        have e1 : Fo.pc [c] = ([32], 1) := by simp [Fo.pc, h1, h2]
        rw [e0, e1]
        have hi3 : ¬ (i : Int) + 1 < s.size := by omega
        clear hk h1 h2 h2' e1
        rcases h1' with g | g
        all_goals
          go_enter Tryz.func149, Tryz.ntmps149
          go_wp2_with (go_at_call 150; (with_reducible refine HK.out.mono ?_); rintro e w' ⟨rfl, rfl⟩)
          go_ret2
          exact ⟨rfl, rfl⟩
end Go.Proofs.YtcponhdeffnndaaGreatDoor
