/-
  The library's Cut at a blank, and codeClass.
-/
import Derived.Test.YtcponhdeffnndaaGreatDoorTokCl2
import Derived.Test.YtcponhdeffnndaaGreatDoorTokCode
import Derived.Test.YtcponhdeffnndaaGreatDoorShelf
import Derived.Lib.IndexLaws
namespace Go.Proofs.YtcponhdeffnndaaGreatDoor
open Go.RowKit
set_option linter.unusedVariables false
set_option linter.unusedSimpArgs false

theorem cut_at : ∀ (w : List UInt8) (i : Nat), w[i]? = some 32 → (∀ k, k < i → w[k]? ≠ some 32) → Tk.two w = true ∧ Tk.cut1 w = w.take i ∧ Tk.cut2 w = w.drop (i + 1)
  | [], i, h, _ => by simp at h
  | c :: t, 0, h, _ => by
    have hc : c = 32 := by simpa using h
    subst hc
    exact ⟨by simp [Tk.two], by simp [Tk.cut1], by simp [Tk.cut2]⟩
  | c :: t, i + 1, h, hk => by
    have hc : c ≠ 32 := fun e => hk 0 (by omega) (by simp [e])
    obtain ⟨h1, h2, h3⟩ := cut_at t i (by simpa using h) (fun k hlt => by simpa using hk (k + 1) (by omega))
    refine ⟨?_, ?_, ?_⟩
    · unfold Tk.two at *
      rw [List.contains_cons, h1, Bool.or_true]
    · unfold Tk.cut1; rw [if_neg hc, h2, List.take_succ_cons]
    · unfold Tk.cut2; rw [if_neg hc, h3, List.drop_succ_cons]
theorem cut_idx (w : List UInt8) : (Lib.indexByte w 32 = -1 ∧ Tk.two w = false) ∨ ∃ i : Nat, Lib.indexByte w 32 = i ∧ i < w.length ∧ Tk.two w = true ∧ Tk.cut1 w = w.take i ∧ Tk.cut2 w = w.drop (i + 1) := by
  have hge := Lib.indexByte_ge w 32
  rcases Int.lt_or_le (Lib.indexByte w 32) 0 with h | h
  · have h1 : Lib.indexByte w 32 = -1 := by omega
    refine .inl ⟨h1, ?_⟩
    unfold Tk.two
    cases hc : w.contains 32 with
    | false => rfl
    | true =>
      obtain ⟨k, hk⟩ := List.getElem?_of_mem (List.contains_iff_mem.1 hc)
      exact absurd hk (Lib.indexByte_none h1 k)
  · obtain ⟨i, hi⟩ : ∃ i : Nat, Lib.indexByte w 32 = i := ⟨(Lib.indexByte w 32).toNat, by omega⟩
    obtain ⟨h1, h2⟩ := Lib.indexByte_some hi
    exact .inr ⟨i, hi, (List.getElem?_eq_some_iff.1 h1).1, cut_at w i h1 h2⟩
def PostC3 (s : List UInt8) (w : World) (e : Ending) (w' : World) : Prop := e = .returned (.tuple #[strV (Tk.cut1 s), strV (Tk.cut2 s), .bool (Tk.two s)]) ∧ Below w.heap.size w w'
set_option maxHeartbeats 1000000 in
theorem cutL_any (s : ByteArray) (w : World) (hs : s.size ≤ 100000000) : Calls Tryz.prog 157 #[.string s, .string ⟨#[32]⟩] w (PostC3 s.data.toList w) := by
  have hq := fun V => Tryz.stringslite_Index_one s 32 V
  have hl : s.data.toList.length = s.size := by simp
  unfold PostC3 strV
  rcases cut_idx s.data.toList with ⟨h1, h2⟩ | ⟨i, h1, hi, h2, h3, h4⟩
  · obtain ⟨h3, h4⟩ := Tk.cut_none h2
    rw [h1] at hq
    rw [h2, h3, h4]
    have HQ := Lib.hid hq
    clear hq h1 h2 h3 h4 hl
    go_enter Tryz.func157, Tryz.ntmps157
    go_wp2_with (go_at_call 132; (with_reducible refine (HQ.out _).mono ?_); rintro e w' ⟨rfl, rfl⟩)
    go_ret3
    exact ⟨rfl, Below.refl _ _⟩
  · rw [h1] at hq
    rw [h2, h3, h4]
    have hi2 : (i : Int) ≤ s.size := by omega
    have hi3 : (i : Int) + 1 ≤ s.size := by omega
    have E1 := Lib.hid (ext_take s i); have E2 := Lib.hid (ext_drop s (i + 1) s.size (Nat.le_refl _))
    have HQ := Lib.hid hq
    clear hq h1 h2 h3 h4 hl hi
    go_enter Tryz.func157, Tryz.ntmps157
    go_wp2_with (go_at_call 132; (with_reducible refine (HQ.out _).mono ?_); rintro e w' ⟨rfl, rfl⟩)
    go_quiet (fail)
    all_goals go_wp2
    all_goals go_ret3
    all_goals exact ⟨by rw [E1.out, E2.out]; rfl, belowN (Below.refl _ _) _⟩
theorem cut_any (s : ByteArray) (w : World) (hs : s.size ≤ 100000000) : Calls Tryz.prog 78 #[.string s, .string ⟨#[32]⟩] w (PostC3 s.data.toList w) := by
  have hq := cutL_any s w hs
  unfold PostC3 strV at *
  generalize Tk.cut1 s.data.toList = a at *
  generalize Tk.cut2 s.data.toList = b at *
  generalize Tk.two s.data.toList = d at *
  have HQ := Lib.hid hq
  clear hq
  go_enter Tryz.func78, Tryz.ntmps78
  go_wp2_with (go_at_call 157; (with_reducible refine HQ.out.mono ?_); rintro e w' ⟨rfl, hb⟩; have B1 := Lib.hid hb; clear hb)
  go_ret3
  exact ⟨rfl, B1.out⟩
theorem codeClass_any (k : Nat) (w : World) : Calls Tryz.prog 80 #[.int .u8 k] w fun e w' => e = .returned (.int .u16 (Tk.cls4 k)) ∧ w' = w := by
  unfold Tk.cls4
  by_cases h1 : k = 1
  · subst h1
    go_enter Tryz.func80, Tryz.ntmps80
    go_wp2
    go_ret
    exact ⟨rfl, rfl⟩
  · by_cases h2 : k = 2
    · subst h2
      go_enter Tryz.func80, Tryz.ntmps80
      go_wp2
      go_ret
      exact ⟨rfl, rfl⟩
    · by_cases h3 : k = 3
      · subst h3
        go_enter Tryz.func80, Tryz.ntmps80
        go_wp2
        go_ret
        exact ⟨rfl, rfl⟩
      · rw [if_neg h1, if_neg h2, if_neg h3]
        have e1 : ((k : Int) == 1) = false := by rw [beq_eq_false_iff_ne]; omega
        have e2 : ((k : Int) == 2) = false := by rw [beq_eq_false_iff_ne]; omega
        have e3 : ((k : Int) == 3) = false := by rw [beq_eq_false_iff_ne]; omega
        clear h1 h2 h3
        go_enter Tryz.func80, Tryz.ntmps80
        go_wp2
        go_ret
        exact ⟨rfl, rfl⟩
end Go.Proofs.YtcponhdeffnndaaGreatDoor
