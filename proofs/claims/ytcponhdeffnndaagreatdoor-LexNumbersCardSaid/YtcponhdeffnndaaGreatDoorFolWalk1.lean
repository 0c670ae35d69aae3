/-
  fold's small functions: what stays, the letters.
-/
import Derived.Test.YtcponhdeffnndaaGreatDoorFolTabs
namespace Go.Proofs.YtcponhdeffnndaaGreatDoor
open Go.RowKit
set_option linter.unusedVariables false
set_option linter.unusedSimpArgs false

set_option maxHeartbeats 2000000 in
theorem isKept_any (n : Nat) (w : World) : Calls Tryz.prog 150 #[.int .u8 n] w fun e w' => e = .returned (.bool (Fo.kept n)) ∧ w = w' := by
  unfold Fo.kept
  go_enter Tryz.func150, Tryz.ntmps150
  go_wp2
  all_goals go_ret
  all_goals refine ⟨ret_bool ?_, rfl⟩
  all_goals first | (symm; exact decide_eq_true (by omega)) | (symm; exact decide_eq_false (by omega)) | (rw [Bool.eq_iff_iff]; simp; omega) | skip
set_option maxHeartbeats 2000000 in
theorem keptRef_any (n : Nat) (w : World) : Calls Tryz.prog 160 #[.int .u8 n] w fun e w' => e = .returned (.bool (Fo.kept n)) ∧ w = w' := by
  unfold Fo.kept
  go_enter Tryz.func160, Tryz.ntmps160
  go_wp2
  all_goals go_ret
  all_goals refine ⟨ret_bool ?_, rfl⟩
  all_goals first | (symm; exact decide_eq_true (by omega)) | (symm; exact decide_eq_false (by omega)) | (rw [Bool.eq_iff_iff]; simp; omega) | skip

def c5 (d : Nat) : List UInt8 := if d = 146 ∨ d = 147 then [79, 69] else if d = 160 ∨ d = 161 then [83] else if d = 189 ∨ d = 190 then [90] else []
theorem c5_any (d : Nat) (w : World) : Calls Tryz.prog 232 #[.int .u8 d] w fun e w' => e = .returned (strV (c5 d)) ∧ w = w' := by
  rcases (show d = 146 ∨ d = 147 ∨ d = 160 ∨ d = 161 ∨ d = 189 ∨ d = 190 ∨ (d ≠ 146 ∧ d ≠ 147 ∧ d ≠ 160 ∧ d ≠ 161 ∧ d ≠ 189 ∧ d ≠ 190) by omega) with rfl | rfl | rfl | rfl | rfl | rfl | h
  iterate 6
    · go_enter Tryz.func232, Tryz.ntmps232
      go_wp2
      go_ret
      exact ⟨rfl, rfl⟩
  · have e : c5 d = [] := by
      unfold c5
      rw [if_neg (by omega), if_neg (by omega), if_neg (by omega)]
    rw [e]
    obtain ⟨h1, h2, h3, h4, h5, h6⟩ := h
    go_enter Tryz.func232, Tryz.ntmps232
    go_wp2
    go_ret
    exact ⟨rfl, rfl⟩

def c3 (d : Nat) : List UInt8 := if 128 ≤ d then Fo.tab.getD (d - 128) [] else []
theorem latCells (w : World) (hw : Rdy w) (k : Nat) (hk : k < 32) : w.cell? ⟨6, k, none⟩ = some (strV (latinT.getD k [])) := by
  obtain ⟨⟨t, fr, h⟩, _⟩ := hw
  rw [cell_of_row _ _ k _ t fr h]
  have hl : latinT.length = 32 := by decide
  have hk' : k < latinT.length := by omega
  simp [latinCells, List.getD_eq_getElem?_getD, hk', strV]
theorem c3_table (d : Nat) (h0 : 128 ≤ d) (h1 : d ≤ 190) : c3 d = latinT.getD (d % 32) [] := by
  have H : ∀ k, k < 63 → Fo.tab.getD k [] = latinT.getD ((k + 128) % 32) [] := by decide
  unfold c3
  rw [if_pos h0, H (d - 128) (by omega), show d - 128 + 128 = d by omega]
theorem c3_any (d : Nat) (hd : d < 256) (w : World) (hw : Rdy w) : Calls Tryz.prog 231 #[.int .u8 d] w fun e w' => e = .returned (strV (c3 d)) ∧ w = w' := by
  by_cases h0 : d < 128
  · have e : c3 d = [] := if_neg (by omega)
    rw [e]
    go_enter Tryz.func231, Tryz.ntmps231
    go_wp2
    all_goals go_ret
    exact ⟨rfl, rfl⟩
  · by_cases h1 : 191 < d
    · have e : c3 d = [] := by
        unfold c3
        rw [if_pos (by omega), List.getD_eq_getElem?_getD, List.getElem?_eq_none (by simp [Fo.tab]; omega)]
        rfl
      rw [e]
      go_enter Tryz.func231, Tryz.ntmps231
      go_wp2
      all_goals go_ret
      exact ⟨rfl, rfl⟩
    · by_cases h2 : d = 191
      · subst h2
        go_enter Tryz.func231, Tryz.ntmps231
        go_wp2
        all_goals go_ret
        exact ⟨rfl, rfl⟩
      · rw [c3_table d (by omega) (by omega)]
        have hc := latCells w hw (d % 32) (Nat.mod_lt _ (by omega))
        generalize latinT.getD (d % 32) [] = R at *
        go_enter Tryz.func231, Tryz.ntmps231
        go_wp2
        go_ret
        exact ⟨rfl, rfl⟩
theorem two_eq (c d : Nat) : Fo.two c d = if c = 195 then c3 d else if c = 197 then c5 d else [] := rfl
theorem letters_any (c d : Nat) (hd : d < 256) (w : World) (hw : Rdy w) : Calls Tryz.prog 151 #[.int .u8 c, .int .u8 d] w fun e w' => e = .returned (strV (Fo.two c d)) ∧ w = w' := by
  rw [two_eq]
  rcases (show c = 195 ∨ c = 197 ∨ (c ≠ 195 ∧ c ≠ 197) by omega) with rfl | rfl | ⟨h1, h2⟩
  · have H3 := Lib.hid (c3_any d hd w hw)
    rw [if_pos rfl]
    go_enter Tryz.func151, Tryz.ntmps151
    go_wp2_with (go_at_call 231; (with_reducible refine H3.out.mono ?_); rintro e w' ⟨rfl, rfl⟩)
    go_ret
    exact ⟨rfl, rfl⟩
  · have H5 := Lib.hid (c5_any d w)
    rw [if_neg (by omega), if_pos rfl]
    go_enter Tryz.func151, Tryz.ntmps151
    go_wp2_with (go_at_call 232; (with_reducible refine H5.out.mono ?_); rintro e w' ⟨rfl, rfl⟩)
    go_ret
    exact ⟨rfl, rfl⟩
  · rw [if_neg h1, if_neg h2]
    go_enter Tryz.func151, Tryz.ntmps151
    go_wp2
    go_ret
    exact ⟨rfl, rfl⟩
end Go.Proofs.YtcponhdeffnndaaGreatDoor
