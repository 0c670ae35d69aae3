/-
  Tests of bytes, and of all bytes of a word.
-/
import Derived.Test.YtcponhdeffnndaaGreatDoorTokKinds
import Derived.Test.YtcponhdeffnndaaGreatDoorTokPlain2
namespace Go.Proofs.YtcponhdeffnndaaGreatDoor
open Go.RowKit
set_option linter.unusedVariables false
set_option linter.unusedSimpArgs false

/-- a function that tells of bytes -/
def Fits (g : Nat) (p : UInt8 → Bool) : Prop := (∀ args w, (callFunc g args).run Tryz.prog w = .ok (.enter g args) w) ∧ ∀ (c : UInt8) (W : World), Calls Tryz.prog g #[.int .u8 c.toNat] W (PostB (p c) W)
theorem isLetter_fits : Fits 142 Tk.isL := by
  refine ⟨enters_of Tryz.func142 (by kernel_rfl) rfl, fun c W => ?_⟩
  unfold Tk.isL
  go_enter Tryz.func142, Tryz.ntmps142
  go_wp2
  all_goals go_ret
  all_goals exact ⟨ret_bool (by rw [Bool.eq_iff_iff]; simp; omega), Below.refl _ _⟩
theorem isDigit_fits : Fits 144 Tk.isD := by
  refine ⟨enters_of Tryz.func144 (by kernel_rfl) rfl, fun c W => ?_⟩
  unfold Tk.isD
  go_enter Tryz.func144, Tryz.ntmps144
  go_wp2
  all_goals go_ret
  all_goals exact ⟨ret_bool (by rw [Bool.eq_iff_iff]; simp; omega), Below.refl _ _⟩
theorem isLD_fits : Fits 230 Tk.isLD := by
  refine ⟨enters_of Tryz.func230 (by kernel_rfl) rfl, fun c W => ?_⟩
  have q1 := isLetter_fits.2 c
  have q2 := isDigit_fits.2 c
  unfold Tk.isLD
  generalize Tk.isL c = a at *
  generalize Tk.isD c = b at *
  have Q1 := Lib.hid q1; have Q2 := Lib.hid q2
  clear q1 q2
  cases a
  all_goals
    go_enter Tryz.func230, Tryz.ntmps230
    go_wp2_with (first
      | (go_at_call 142; (with_reducible refine (Q1.out W).mono ?_); rintro e w1 ⟨rfl, hb⟩; have B1 := Lib.hid hb; clear hb)
      | (go_at_call 144; (with_reducible refine (Q2.out w1).mono ?_); rintro e w2 ⟨rfl, hb⟩; have B2 := Lib.hid (below_next B1.out hb); clear hb))
    all_goals go_ret
    all_goals exact ⟨rfl, by first | exact B2.out | exact B1.out⟩
theorem isS_fits : Fits 227 Tk.isS := by
  refine ⟨enters_of Tryz.func227 (by kernel_rfl) rfl, fun c W => ?_⟩
  have q1 := isLD_fits.2 c
  unfold Tk.isS
  generalize Tk.isLD c = a at *
  have Q1 := Lib.hid q1
  clear q1
  cases a
  all_goals
    go_enter Tryz.func227, Tryz.ntmps227
    go_wp2_with (go_at_call 230; (with_reducible refine (Q1.out W).mono ?_); rintro e w1 ⟨rfl, hb⟩; have B1 := Lib.hid hb; clear hb)
    all_goals go_ret
    all_goals exact ⟨ret_bool (by first | rfl | (rw [Bool.eq_iff_iff]; simp; omega)), B1.out⟩
theorem isN_fits : Fits 228 Tk.isN := by
  refine ⟨enters_of Tryz.func228 (by kernel_rfl) rfl, fun c W => ?_⟩
  have q1 := isLetter_fits.2 c
  unfold Tk.isN
  generalize Tk.isL c = a at *
  have Q1 := Lib.hid q1
  clear q1
  go_enter Tryz.func228, Tryz.ntmps228
  go_wp2_with (go_at_call 142; (with_reducible refine (Q1.out W).mono ?_); rintro e w1 ⟨rfl, hb⟩; have B1 := Lib.hid hb; clear hb)
  all_goals go_ret
  all_goals exact ⟨rfl, B1.out⟩
theorem all_take (p : UInt8 → Bool) (s : ByteArray) (k : Nat) (h : k < s.size) : (s.data.toList.take (k + 1)).all p = ((s.data.toList.take k).all p && p s[k]) := by
  rw [List.take_add_one, List.getElem?_eq_getElem (by simpa using h), List.all_append]
  simp
  rfl
theorem all_no (p : UInt8 → Bool) (s : ByteArray) (k : Nat) (h : k < s.size) (hp : p s[k] = false) : s.data.toList.all p = false := by
  rw [List.all_eq_false]
  exact ⟨s[k], by simp [ByteArray.getElem_eq_getElem_data], by simp [hp]⟩
set_option maxHeartbeats 2000000 in
theorem all_any (s : ByteArray) (g : Nat) (p : UInt8 → Bool) (w : World) (hf : Fits g p) (hs : s.size ≤ 100000000) :
    Calls Tryz.prog 153 #[.string s, .func (.func g) #[] #[]] w (PostB (s.data.toList.all p) w) := by
  obtain ⟨eg, hq⟩ := hf
  have HQ := Lib.hid hq
  obtain ⟨D, hD⟩ : ∃ D, s.data.toList.all p = D := ⟨_, rfl⟩
  rw [hD]
  have HD := Lib.hid hD
  clear hq hD
  go_enter Tryz.func153, Tryz.ntmps153
  go_wp2
  go_loopw [5, 8] (fun _ s8 wr => ∃ k : Nat, s8 = .int .i64 k ∧ k ≤ s.size ∧ Hid (Below w.heap.size w wr) ∧ Hid ((s.data.toList.take k).all p = true)) (fun _ s8 _ => s.size - (intOf s8).toNat)
  case atStart => exact ⟨0, rfl, Nat.zero_le _, Lib.hid (Below.refl _ _), Lib.hid rfl⟩
  case round =>
    obtain ⟨k, rfl, hk, HB, HA⟩ := hrel
    by_cases hlt : k < s.size
    · have hlt2 : (k : Int) < s.size := by omega
      have HT := Lib.hid (all_take p s k hlt)
      have HN := Lib.hid (all_no p s k hlt)
      obtain ⟨c, hcc⟩ : ∃ c, s[k] = c := ⟨_, rfl⟩
      rw [hcc] at HT HN
      obtain ⟨b, hbb⟩ : ∃ b, p c = b := ⟨_, rfl⟩
      have hc := HQ.out c
      rw [hbb] at hc HT HN
      have HC := Lib.hid hc
      clear hc hbb
      cases b with
      | true =>
        go_wp2_with (go_at_fn g; (with_reducible refine (HC.out wr).mono ?_); rintro e w1 ⟨rfl, hb⟩; have B1 := Lib.hid (below_next HB.out hb); clear hb)
        go_roundw
        case rel => exact ⟨k + 1, by go_num, by omega, B1, Lib.hid (by rw [HT.out, HA.out]; rfl)⟩
        case measure => simp [intOf]; omega
      | false =>
        go_wp2_with (go_at_fn g; (with_reducible refine (HC.out wr).mono ?_); rintro e w1 ⟨rfl, hb⟩; have B1 := Lib.hid (below_next HB.out hb); clear hb)
        go_ret
        exact ⟨ret_bool (by rw [← HD.out]; exact (HN.out trivial).symm), B1.out⟩
    · have hge : ¬ (k : Int) < s.size := by omega
      obtain rfl : k = s.size := by omega
      go_wp2
      go_ret
      refine ⟨ret_bool ?_, HB.out⟩
      have := HA.out
      rw [List.take_of_length_le (by simp)] at this
      rw [← HD.out]; exact this.symm
end Go.Proofs.YtcponhdeffnndaaGreatDoor
