/-
  The walks of civil's functions over holidays.
-/
import Derived.Test.YtmlniggmknjneaaDoorCivWalk1
import Derived.Test.YtmlniggmknjneaaDoorCivPlain2
import Derived.Deep.LoopGhost
namespace Go.Proofs.YtmlniggmknjneaaDoor
open Go.RowKit
set_option linter.unusedVariables false

/-- a slice whose elements are the numbers zs -/
def Rd (w : World) (A : Option Addr) (zs : List Int) : Prop :=
  0 < zs.length → ∃ b off, A = some ⟨b, off, none⟩ ∧ b < w.heap.size ∧ ∀ i, i < zs.length → w.cell? ⟨b, off + i, none⟩ = some (.int .i64 (zs.getD i 0))
theorem Rd.nil (w : World) (A : Option Addr) : Rd w A [] := fun h => by simp at h

theorem rgt_drop (k : Nat) (a : Int) (zs : List Int) (hk : k < zs.length) : Cv.rgt a (zs.drop k) = (decide (a < zs.getD k 0) && decide (zs.getD k 0 ≤ 730484) && Cv.rgt (zs.getD k 0) (zs.drop (k + 1))) := by
  rw [List.drop_eq_getElem_cons hk, Cv.rgt]
  simp [List.getD_eq_getElem?_getD, List.getElem?_eq_getElem hk]

set_option maxHeartbeats 400000 in
theorem right_any (A : Option Addr) (cap : Nat) (zs : List Int) (w : World) (hr : Rd w A zs) (hl : zs.length ≤ 9223372036854775807) :
    Calls Tryd.prog 40 #[.slice A zs.length cap] w fun e w' => e = .returned (.bool (Cv.rightB zs)) ∧ w = w' := by
  by_cases h : 1000 < zs.length
  · go_enter Tryd.func40, Tryd.ntmps40
    go_wp2
    go_ret
    exact ⟨ret_bool (by simp [Cv.rightB]; omega), rfl⟩
  have hr1 : Cv.rightB zs = Cv.rgt (-1) (zs.drop 0) := by simp [Cv.rightB]; omega
  have HR := Lib.hid hr1; clear hr1
  have Hr := Lib.hid hr; clear hr
  go_enter Tryd.func40, Tryd.ntmps40
  go_wp2
  go_loop [3, 11] (fun l i => ∃ (k : Nat) (a : Int), k ≤ zs.length ∧ i = .int .i64 k ∧ l = .int .i64 a ∧ Hid (Cv.rightB zs = Cv.rgt a (zs.drop k))) (fun _ i => zs.length - (intOf i).toNat)
  case atStart => exact ⟨0, -1, by omega, rfl, rfl, HR.out⟩
  case round =>
    obtain ⟨k, a, hk, rfl, rfl, hm⟩ := hrel
    by_cases hlt : k < zs.length
    · obtain ⟨b, off, rfl, hb, hc⟩ := Hr.out (by omega)
      have hc1 := hc k hlt; clear hc
      have hd := rgt_drop k a zs hlt
      obtain ⟨z, hz⟩ : ∃ z, z = zs.getD k 0 := ⟨_, rfl⟩
      rw [← hz] at hc1 hd
      clear hz
      have Hd := Lib.hid hd; clear hd
      by_cases c1 : z ≤ a
      · go_wp2
        go_ret
        exact ⟨ret_bool (by rw [hm.out, Hd.out, decide_eq_false (by omega)]; rfl), rfl⟩
      by_cases c2 : 730484 < z
      · go_wp2
        go_ret
        exact ⟨ret_bool (by rw [hm.out, Hd.out, decide_eq_false (p := z ≤ 730484) (by omega)]; simp), rfl⟩
      have Hg := Lib.hid (show Cv.rightB zs = Cv.rgt z (zs.drop (k + 1)) by rw [hm.out, Hd.out, decide_eq_true (by omega), decide_eq_true (by omega)]; rfl)
      go_wp2
      go_round
      case rel => exact ⟨k + 1, _, by omega, by go_num, rfl, Hg.out⟩
      case measure => simp [intOf]; omega
    · go_wp2
      go_ret
      exact ⟨ret_bool (by rw [hm.out, List.drop_eq_nil_of_le (by omega)]; rfl), rfl⟩

theorem hcnt_drop (k : Nat) (d : Int) (zs : List Int) (hk : k < zs.length) : Cv.hcnt d (zs.drop k) = if d ≤ zs.getD k 0 then 0 else (if zs.getD k 0 % 7 < 5 then 1 else 0) + Cv.hcnt d (zs.drop (k + 1)) := by
  rw [List.drop_eq_getElem_cons hk, Cv.hcnt]
  simp [List.getD_eq_getElem?_getD, List.getElem?_eq_getElem hk]

set_option maxHeartbeats 400000 in
/-- how many holidays are in front of a day -/
theorem hif_any (day : Int) (p : Addr) (A : Option Addr) (cap : Nat) (zs : List Int) (w : World) (hp : w.cell? p = some (.slice A zs.length cap)) (hr : Rd w A zs) (hl : zs.length ≤ 1000)
    (hz : ∀ k, k < zs.length → 0 ≤ zs.getD k 0) :
    Calls Tryd.prog 76 #[.int .i64 day, .pointer (some p)] w fun e w' => e = .returned (.int .i64 (Cv.hcnt day zs)) ∧ w = w' := by
  have Hr := Lib.hid hr; clear hr
  have Hz := Lib.hid hz; clear hz
  go_enter Tryd.func76, Tryd.ntmps76
  go_wp2
  go_loop [4, 9] (fun n i => ∃ (k : Nat) (a : Int), k ≤ zs.length ∧ i = .int .i64 k ∧ n = .int .i64 a ∧ 0 ≤ a ∧ a ≤ k ∧ Hid (Cv.hcnt day zs = a + Cv.hcnt day (zs.drop k))) (fun _ i => zs.length - (intOf i).toNat)
  case atStart => exact ⟨0, 0, by omega, rfl, rfl, by omega, by omega, by simp [Hid]⟩
  case round =>
    obtain ⟨k, a, hk, rfl, rfl, ha0, ha1, hm⟩ := hrel
    by_cases hlt : k < zs.length
    · obtain ⟨b, off, rfl, hb, hc⟩ := Hr.out (by omega)
      have hc1 := hc k hlt; clear hc
      have hz0 := Hz.out k hlt
      have hd := hcnt_drop k day zs hlt
      obtain ⟨z, hz⟩ : ∃ z, z = zs.getD k 0 := ⟨_, rfl⟩
      rw [← hz] at hc1 hd hz0
      clear hz
      have Hd := Lib.hid hd; clear hd
      by_cases c1 : day ≤ z
      · go_wp2
        go_ret
        exact ⟨ret_int (by rw [hm.out, Hd.out, if_pos (by omega)]; omega), rfl⟩
      have c2 : z < day := by omega
      clear c1
      by_cases c3 : z % 7 < 5
      · have Hg := Lib.hid (show Cv.hcnt day zs = a + 1 + Cv.hcnt day (zs.drop (k + 1)) by rw [hm.out, Hd.out, if_neg (by omega), if_pos c3]; omega)
        go_wp2
        go_round
        case rel => exact ⟨k + 1, a + 1, by omega, by go_num, rfl, by omega, by omega, Hg.out⟩
        case measure => simp [intOf]; omega
      · have Hg := Lib.hid (show Cv.hcnt day zs = a + Cv.hcnt day (zs.drop (k + 1)) by rw [hm.out, Hd.out, if_neg (by omega), if_neg c3]; omega)
        go_wp2
        go_round
        case rel => exact ⟨k + 1, a, by omega, by go_num, rfl, by omega, by omega, Hg.out⟩
        case measure => simp [intOf]; omega
    · go_wp2
      go_ret
      exact ⟨ret_int (by rw [hm.out, List.drop_eq_nil_of_le (by omega)]; simp [Cv.hcnt]), rfl⟩

end Go.Proofs.YtmlniggmknjneaaDoor
