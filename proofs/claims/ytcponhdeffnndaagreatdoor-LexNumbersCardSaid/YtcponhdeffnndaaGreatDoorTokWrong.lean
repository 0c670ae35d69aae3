/-
  isLong, isWrong, and the library's search with them at texts in memory.
-/
import Derived.Test.YtcponhdeffnndaaGreatDoorTokKinds
import Derived.Test.YtcponhdeffnndaaGreatDoorTokWord
import Derived.Test.YtcponhdeffnndaaGreatDoorTokLines
namespace Go.Proofs.YtcponhdeffnndaaGreatDoor
open Go.RowKit
set_option linter.unusedVariables false
set_option linter.unusedSimpArgs false

/-- a function that tells of texts of a few bytes -/
def TellsS (g : Nat) (p : List UInt8 → Bool) (m : Nat) : Prop := (∀ args w, (callFunc g args).run Tryz.prog w = .ok (.enter g args) w) ∧ ∀ (s : ByteArray) (W : World), Rdy W → s.size ≤ m → Calls Tryz.prog g #[.string s] W (PostB (p s.data.toList) W)
theorem isLong_tells : TellsS 41 Tk.long 100000000 := by
  refine ⟨enters_of Tryz.func41 (by kernel_rfl) rfl, fun s W _ hs => ?_⟩
  unfold Tk.long
  rw [show s.data.toList.length = s.size by simp]
  go_enter Tryz.func41, Tryz.ntmps41
  go_wp2
  all_goals go_ret
  all_goals exact ⟨ret_bool (by rw [Bool.eq_iff_iff]; simp; omega), Below.refl _ _⟩
theorem isWrong_tells : TellsS 66 Tk.wrong 100000000 := by
  refine ⟨enters_of Tryz.func66 (by kernel_rfl) rfl, fun s W hw hs => ?_⟩
  have q1 := right_any s W hw hs
  have e := empty_size s
  have e2 : s.data.toList.isEmpty = decide (s.size = 0) := by rw [← e, ByteArray.toList_eq]; cases s.data.toList <;> rfl
  unfold Tk.wrong
  rw [e2]
  generalize (Fo.fold s.data.toList == s.data.toList) = D at *
  have Q1 := Lib.hid q1
  clear q1 e2
  by_cases h0 : s.size = 0
  all_goals
    first
      | rw [decide_eq_true h0] at e ⊢
      | rw [decide_eq_false h0] at e ⊢
    clear h0
    go_enter Tryz.func66, Tryz.ntmps66
    go_wp2_with (go_at_call 29; (with_reducible refine Q1.out.mono ?_); rintro e w1 ⟨rfl, hb⟩; have B1 := Lib.hid hb; clear hb)
    all_goals go_ret
    all_goals exact ⟨rfl, by first | exact B1.out | exact Below.refl _ _⟩
def PostIx (b : Bool) (w : World) (e : Ending) (w' : World) : Prop := (∃ v : Int, e = .returned (.int .i64 v) ∧ decide (0 ≤ v) = b) ∧ Below w.heap.size w w'
theorem any_take (p : List UInt8 → Bool) (l : List (List UInt8)) (k : Nat) (h : k < l.length) (hp : p (l.getD k []) = true) : l.any p = true := by
  rw [List.any_eq_true]
  refine ⟨l.getD k [], ?_, hp⟩
  rw [List.getD_eq_getElem?_getD, List.getElem?_eq_getElem h]
  exact List.getElem_mem h
theorem any_no (p : List UInt8 → Bool) (l : List (List UInt8)) (h : ∀ k, k < l.length → p (l.getD k []) = false) : l.any p = false := by
  rw [List.any_eq_false]
  intro x hx
  obtain ⟨i, hi, he⟩ := List.getElem_of_mem hx
  have := h i hi
  rw [List.getD_eq_getElem?_getD, List.getElem?_eq_getElem hi] at this
  have h2 : p x = false := by rw [← he]; exact this
  simp [h2]
set_option maxHeartbeats 2000000 in
theorem indexS_any (A : Option Addr) (n c g m : Nat) (p : List UInt8 → Bool) (l : List (List UInt8)) (w : World) (hw : Rdy w) (ht : TellsS g p m) (hl : l.length = n) (hn : n ≤ 1000000000) (h : RdS w A l) (hm : ∀ x ∈ l, x.length ≤ m) :
    Calls Tryz.prog 83 #[.slice A n c, .func (.func g) #[] #[]] w (PostIx (l.any p) w) := by
  obtain ⟨eg, hq⟩ := ht
  have HQ := Lib.hid hq; have HL := Lib.hid hl; have HH := Lib.hid h; have R0 := Lib.hid hw; have HM := Lib.hid hm
  have HN1 := Lib.hid (any_take p l); have HN2 := Lib.hid (any_no p l)
  obtain ⟨D, hD⟩ : ∃ D, l.any p = D := ⟨_, rfl⟩
  rw [hD] at HN1 HN2 ⊢
  clear hq hl h hw hm hD
  go_enter Tryz.func83, Tryz.ntmps83
  go_wp2
  go_loopw [5, 8] (fun _ s8 wr => Hid (Below w.heap.size w wr) ∧ ∃ k : Nat, s8 = .int .i64 k ∧ k ≤ n ∧ Hid (∀ j, j < k → p (l.getD j []) = false)) (fun _ s8 _ => n - (intOf s8).toNat)
  case atStart => exact ⟨Lib.hid (Below.refl _ _), 0, rfl, by omega, Lib.hid (fun j h => by omega)⟩
  case round =>
    obtain ⟨HB, k, rfl, hk, HS⟩ := hrel
    by_cases hlt : k < n
    · have hlt2 : (k : Int) < n := by omega
      have hle : ¬ n ≤ k := by omega
      have hkl : k < l.length := by rw [HL.out]; exact hlt
      obtain ⟨b, off, hA, hb, hc⟩ := (HH.out.below HB.out) (by omega)
      subst hA
      have hc1 := hc k hkl
      obtain ⟨Y, hY⟩ : ∃ Y : ByteArray, Y = ⟨(l.getD k []).toArray⟩ := ⟨_, rfl⟩
      rw [← hY] at hc1
      have hYd : Y.data.toList = l.getD k [] := by rw [hY]
      have hYs : Y.size ≤ m := by
        rw [hY]
        show Array.size _ ≤ m
        simp only [List.size_toArray]
        refine HM.out _ ?_
        rw [List.getD_eq_getElem?_getD, List.getElem?_eq_getElem hkl]
        exact List.getElem_mem hkl
      have hcall := HQ.out Y wr (R0.out.below HB.out) hYs
      rw [hYd] at hcall
      obtain ⟨v, hv⟩ : ∃ v, p (l.getD k []) = v := ⟨_, rfl⟩
      rw [hv] at hcall
      have HC := Lib.hid hcall; have HV := Lib.hid hv; have HKL := Lib.hid hkl
      clear hc hY hYd hYs hb hcall hv hkl
      cases v with
      | false =>
        go_wp2_with (go_at_fn g; (with_reducible refine HC.out.mono ?_); rintro e w1 ⟨rfl, hb⟩; have B1 := Lib.hid (below_next HB.out hb); clear hb)
        go_roundw
        case rel =>
          refine ⟨B1, k + 1, by go_num, by omega, Lib.hid (fun j hj => ?_)⟩
          rcases Nat.lt_or_ge j k with h | h
          · exact HS.out j h
          · obtain rfl : j = k := by omega
            exact HV.out
        case measure => simp [intOf]; omega
      | true =>
        go_wp2_with (go_at_fn g; (with_reducible refine HC.out.mono ?_); rintro e w1 ⟨rfl, hb⟩; have B1 := Lib.hid (below_next HB.out hb); clear hb)
        go_ret
        refine ⟨⟨_, rfl, ?_⟩, B1.out⟩
        rw [decide_eq_true (by omega)]
        exact (HN1.out k HKL.out HV.out).symm
    · have hge : ¬ (k : Int) < n := by omega
      obtain rfl : k = n := by omega
      go_wp2
      go_ret
      refine ⟨⟨_, rfl, ?_⟩, HB.out⟩
      have := HN2.out (by rw [HL.out]; exact HS.out)
      rw [this]; decide
set_option maxHeartbeats 1000000 in
theorem containsS_any (A : Option Addr) (n c g m : Nat) (p : List UInt8 → Bool) (l : List (List UInt8)) (w : World) (hw : Rdy w) (ht : TellsS g p m) (hl : l.length = n) (hn : n ≤ 1000000000) (h : RdS w A l) (hm : ∀ x ∈ l, x.length ≤ m) :
    Calls Tryz.prog 40 #[.slice A n c, .func (.func g) #[] #[]] w (PostB (l.any p) w) := by
  have H := Lib.hid (indexS_any A n c g m p l w hw ht hl hn h hm)
  clear hw ht hl hn h hm
  go_enter Tryz.func40, Tryz.ntmps40
  go_wp2_with (go_at_call 83; (with_reducible refine H.out.mono ?_); rintro e w' ⟨⟨v, rfl, hv⟩, hb⟩; have HV := Lib.hid hv; have HB := Lib.hid hb; clear hv hb)
  all_goals go_ret
  all_goals exact ⟨ret_bool HV.out, HB.out⟩
end Go.Proofs.YtcponhdeffnndaaGreatDoor
