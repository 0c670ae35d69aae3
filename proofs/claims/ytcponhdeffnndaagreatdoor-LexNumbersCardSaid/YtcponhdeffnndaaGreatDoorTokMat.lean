/-
  Patterns of letters and digits.
-/
import Derived.Test.YtcponhdeffnndaaGreatDoorTokClass
namespace Go.Proofs.YtcponhdeffnndaaGreatDoor
open Go.RowKit
set_option linter.unusedVariables false
set_option linter.unusedSimpArgs false

def fitB (b : Bool) (c : UInt8) : Bool := if b then Tk.isL c else Tk.isD c
def fitF (b : Bool) : Nat := if b then 142 else 144
def fitV (b : Bool) : Value := .func (.func (fitF b)) #[] #[]
theorem fit_fits (b : Bool) : Fits (fitF b) (fitB b) := by
  cases b
  · exact isDigit_fits
  · exact isLetter_fits
theorem mat_at : ∀ (p : List Bool) (w : List UInt8), w.length = p.length → (Tk.mat p w = true ↔ ∀ i, i < p.length → fitB (p.getD i false) (w.getD i 0) = true)
  | [], [], _ => ⟨fun _ i h => by simp at h, fun _ => rfl⟩
  | [], _ :: _, h => by simp at h
  | _ :: _, [], h => by simp at h
  | b :: p, c :: w, h => by
    have ih := mat_at p w (by simpa using h)
    simp only [Tk.mat, Bool.and_eq_true]
    rw [ih]
    constructor
    · rintro ⟨h1, h2⟩ i hi
      cases i with
      | zero => exact h1
      | succ i => have := h2 i (by simpa using hi); simpa using this
    · intro h3
      refine ⟨h3 0 (by simp), fun i hi => ?_⟩
      have := h3 (i + 1) (by simpa using hi)
      simpa using this
set_option maxHeartbeats 4000000 in
theorem matches_any (s : ByteArray) (g n : Nat) (p : List Bool) (w : World) (hn : p.length = n) (hn6 : n ≤ 6) (hs : s.size ≤ 100000000) (hp : ∀ i, i < n → w.cell? ⟨g, i, none⟩ = some (fitV (p.getD i false))) :
    Calls Tryz.prog 141 #[.string s, .slice (some ⟨g, 0, none⟩) n n] w (PostB (Tk.mat p s.data.toList) w) := by
  have hl : s.data.toList.length = s.size := by simp
  have hgd := fun k (h : k < s.size) => getD_str s k h
  by_cases he : s.size = n
  · obtain ⟨D, hD⟩ : ∃ D, Tk.mat p s.data.toList = D := ⟨_, rfl⟩
    have hm := mat_at p s.data.toList (by omega)
    rw [hD, hn] at hm
    rw [hD]
    have HM := Lib.hid hm; have HP := Lib.hid hp; have HG := Lib.hid hgd; have HE := Lib.hid he
    have he2 : ((s.size : Int) != (n : Int)) = false := by rw [bne_eq_false_iff_eq]; omega
    clear hm hp hgd hD hl he hn
    go_enter Tryz.func141, Tryz.ntmps141
    go_wp2
    go_loopw [5, 6, 14] (fun _ _ s14 wr => ∃ k : Nat, s14 = .int .i64 k ∧ k ≤ n ∧ Hid (Below w.heap.size w wr) ∧ Hid (∀ i, i < k → fitB (p.getD i false) (s.data.toList.getD i 0) = true)) (fun _ _ s14 _ => n - (intOf s14).toNat)
    case atStart => exact ⟨0, rfl, Nat.zero_le _, Lib.hid (Below.refl _ _), Lib.hid (fun i h => absurd h (Nat.not_lt_zero _))⟩
    case round =>
      obtain ⟨k, rfl, hk, HB, HA⟩ := hrel
      by_cases hlt : k < n
      · have hlt2 : (k : Int) < n := by omega
        have hks : k < s.size := by rw [HE.out]; exact hlt
        have hks2 : (k : Int) < s.size := by omega
        have hle : ¬ n ≤ k := by omega
        have hc := cell_keep (HP.out k hlt) HB.out
        have hx := HG.out k hks
        obtain ⟨c, hcc⟩ : ∃ c, s[k] = c := ⟨_, rfl⟩
        rw [hcc] at hx
        obtain ⟨b, hb⟩ : ∃ b, p.getD k false = b := ⟨_, rfl⟩
        rw [hb] at hc
        obtain ⟨eg, hq⟩ := fit_fits b
        have hq2 := hq c
        obtain ⟨v, hv⟩ : ∃ v, fitB b c = v := ⟨_, rfl⟩
        rw [hv] at hq2
        unfold fitV at hc
        generalize fitF b = f at *
        have HQ := Lib.hid hq2; have HX := Lib.hid hx; have HV := Lib.hid hv; have HBB := Lib.hid hb
        clear hq hq2 hx hv hb
        cases v with
        | true =>
          go_wp2_with (go_at_fn f; (with_reducible refine (HQ.out _).mono ?_); rintro e w1 ⟨rfl, hb⟩; have B1 := Lib.hid (below_next HB.out hb); clear hb)
          go_roundw
          case rel =>
            refine ⟨k + 1, by go_num, by omega, B1, Lib.hid (fun i hi => ?_)⟩
            rcases Nat.lt_or_ge i k with h | h
            · exact HA.out i h
            · obtain rfl : i = k := by omega
              rw [HX.out, HBB.out]; exact HV.out
          case measure => simp [intOf]; omega
        | false =>
          go_wp2_with (go_at_fn f; (with_reducible refine (HQ.out _).mono ?_); rintro e w1 ⟨rfl, hb⟩; have B1 := Lib.hid (below_next HB.out hb); clear hb)
          go_ret
          refine ⟨ret_bool ?_, B1.out⟩
          cases D with
          | false => rfl
          | true =>
            have := HM.out.1 rfl k hlt
            rw [HX.out, HBB.out, HV.out] at this
            exact this
      · have hge : ¬ (k : Int) < n := by omega
        obtain rfl : k = n := by omega
        go_wp2
        go_ret
        exact ⟨ret_bool (HM.out.2 HA.out).symm, HB.out⟩
  · have hm : Tk.mat p s.data.toList = false := by
      cases hx : Tk.mat p s.data.toList with
      | false => rfl
      | true => have := Tk.mat_len _ _ hx; omega
    rw [hm]
    have he2 : ((s.size : Int) != (n : Int)) = true := by rw [bne_iff_ne]; omega
    clear hm hp hgd hl he hn
    go_enter Tryz.func141, Tryz.ntmps141
    go_wp2
    all_goals go_ret
    all_goals exact ⟨rfl, Below.refl _ _⟩
set_option maxHeartbeats 1000000 in
theorem pat8_any (s : ByteArray) (w : World) (hs : s.size ≤ 100000000) : Calls Tryz.prog 140 #[.string s] w (PostB (Tk.has 8 s.data.toList) w) := by
  have hq := matches_any s w.heap.size 2 [true, true] (w.alloc (.cells #[.func (.func 142) #[] #[], .func (.func 142) #[] #[]] 186)) rfl (by decide) hs (by
    intro i hi
    rw [cell_of_row _ _ i _ _ _ (heap_alloc_new w _)]
    rcases (show i = 0 ∨ i = 1 by omega) with rfl | rfl <;> rfl)
  have hq2 : Calls Tryz.prog 141 #[.string s, .slice (some ⟨w.heap.size, 0, none⟩) 2 2] (w.alloc (.cells #[.func (.func 142) #[] #[], .func (.func 142) #[] #[]] 186)) (PostB (Tk.has 8 s.data.toList) (w.alloc (.cells #[.func (.func 142) #[] #[], .func (.func 142) #[] #[]] 186))) := hq
  generalize Tk.has 8 s.data.toList = D at *
  have HQ := Lib.hid hq2
  have HB := Lib.hid (below_new w (.cells #[.func (.func 142) #[] #[], .func (.func 142) #[] #[]] 186))
  clear hq hq2
  go_enter Tryz.func140, Tryz.ntmps140
  go_wp2_with (go_at_call 141; (with_reducible refine HQ.out.mono ?_); rintro e w1 ⟨rfl, hb⟩; have B1 := Lib.hid (below_next HB.out hb); clear hb)
  go_ret
  exact ⟨rfl, B1.out⟩
set_option maxHeartbeats 1000000 in
theorem pat9_any (s : ByteArray) (w : World) (hs : s.size ≤ 100000000) : Calls Tryz.prog 143 #[.string s] w (PostB (Tk.has 9 s.data.toList) w) := by
  have hq := matches_any s w.heap.size 5 [false, false, false, false, false] (w.alloc (.cells #[.func (.func 144) #[] #[], .func (.func 144) #[] #[], .func (.func 144) #[] #[], .func (.func 144) #[] #[], .func (.func 144) #[] #[]] 186)) rfl (by decide) hs (by
    intro i hi
    rw [cell_of_row _ _ i _ _ _ (heap_alloc_new w _)]
    rcases (show i = 0 ∨ i = 1 ∨ i = 2 ∨ i = 3 ∨ i = 4 by omega) with rfl | rfl | rfl | rfl | rfl <;> rfl)
  have hq2 : Calls Tryz.prog 141 #[.string s, .slice (some ⟨w.heap.size, 0, none⟩) 5 5] (w.alloc (.cells #[.func (.func 144) #[] #[], .func (.func 144) #[] #[], .func (.func 144) #[] #[], .func (.func 144) #[] #[], .func (.func 144) #[] #[]] 186)) (PostB (Tk.has 9 s.data.toList) (w.alloc (.cells #[.func (.func 144) #[] #[], .func (.func 144) #[] #[], .func (.func 144) #[] #[], .func (.func 144) #[] #[], .func (.func 144) #[] #[]] 186))) := hq
  generalize Tk.has 9 s.data.toList = D at *
  have HQ := Lib.hid hq2
  have HB := Lib.hid (below_new w (.cells #[.func (.func 144) #[] #[], .func (.func 144) #[] #[], .func (.func 144) #[] #[], .func (.func 144) #[] #[], .func (.func 144) #[] #[]] 186))
  clear hq hq2
  go_enter Tryz.func143, Tryz.ntmps143
  go_wp2_with (go_at_call 141; (with_reducible refine HQ.out.mono ?_); rintro e w1 ⟨rfl, hb⟩; have B1 := Lib.hid (below_next HB.out hb); clear hb)
  go_ret
  exact ⟨rfl, B1.out⟩
set_option maxHeartbeats 1000000 in
theorem pat10_any (s : ByteArray) (w : World) (hs : s.size ≤ 100000000) : Calls Tryz.prog 145 #[.string s] w (PostB (Tk.has 10 s.data.toList) w) := by
  have hq := matches_any s w.heap.size 6 [true, false, true, false, true, false] (w.alloc (.cells #[.func (.func 142) #[] #[], .func (.func 144) #[] #[], .func (.func 142) #[] #[], .func (.func 144) #[] #[], .func (.func 142) #[] #[], .func (.func 144) #[] #[]] 186)) rfl (by decide) hs (by
    intro i hi
    rw [cell_of_row _ _ i _ _ _ (heap_alloc_new w _)]
    rcases (show i = 0 ∨ i = 1 ∨ i = 2 ∨ i = 3 ∨ i = 4 ∨ i = 5 by omega) with rfl | rfl | rfl | rfl | rfl | rfl <;> rfl)
  have hq2 : Calls Tryz.prog 141 #[.string s, .slice (some ⟨w.heap.size, 0, none⟩) 6 6] (w.alloc (.cells #[.func (.func 142) #[] #[], .func (.func 144) #[] #[], .func (.func 142) #[] #[], .func (.func 144) #[] #[], .func (.func 142) #[] #[], .func (.func 144) #[] #[]] 186)) (PostB (Tk.has 10 s.data.toList) (w.alloc (.cells #[.func (.func 142) #[] #[], .func (.func 144) #[] #[], .func (.func 142) #[] #[], .func (.func 144) #[] #[], .func (.func 142) #[] #[], .func (.func 144) #[] #[]] 186))) := hq
  generalize Tk.has 10 s.data.toList = D at *
  have HQ := Lib.hid hq2
  have HB := Lib.hid (below_new w (.cells #[.func (.func 142) #[] #[], .func (.func 144) #[] #[], .func (.func 142) #[] #[], .func (.func 144) #[] #[], .func (.func 142) #[] #[], .func (.func 144) #[] #[]] 186))
  clear hq hq2
  go_enter Tryz.func145, Tryz.ntmps145
  go_wp2_with (go_at_call 141; (with_reducible refine HQ.out.mono ?_); rintro e w1 ⟨rfl, hb⟩; have B1 := Lib.hid (below_next HB.out hb); clear hb)
  go_ret
  exact ⟨rfl, B1.out⟩
set_option maxHeartbeats 1000000 in
theorem pat11_any (s : ByteArray) (w : World) (hs : s.size ≤ 100000000) : Calls Tryz.prog 146 #[.string s] w (PostB (Tk.has 11 s.data.toList) w) := by
  have hq := matches_any s w.heap.size 3 [true, false, true] (w.alloc (.cells #[.func (.func 142) #[] #[], .func (.func 144) #[] #[], .func (.func 142) #[] #[]] 186)) rfl (by decide) hs (by
    intro i hi
    rw [cell_of_row _ _ i _ _ _ (heap_alloc_new w _)]
    rcases (show i = 0 ∨ i = 1 ∨ i = 2 by omega) with rfl | rfl | rfl <;> rfl)
  have hq2 : Calls Tryz.prog 141 #[.string s, .slice (some ⟨w.heap.size, 0, none⟩) 3 3] (w.alloc (.cells #[.func (.func 142) #[] #[], .func (.func 144) #[] #[], .func (.func 142) #[] #[]] 186)) (PostB (Tk.has 11 s.data.toList) (w.alloc (.cells #[.func (.func 142) #[] #[], .func (.func 144) #[] #[], .func (.func 142) #[] #[]] 186))) := hq
  generalize Tk.has 11 s.data.toList = D at *
  have HQ := Lib.hid hq2
  have HB := Lib.hid (below_new w (.cells #[.func (.func 142) #[] #[], .func (.func 144) #[] #[], .func (.func 142) #[] #[]] 186))
  clear hq hq2
  go_enter Tryz.func146, Tryz.ntmps146
  go_wp2_with (go_at_call 141; (with_reducible refine HQ.out.mono ?_); rintro e w1 ⟨rfl, hb⟩; have B1 := Lib.hid (below_next HB.out hb); clear hb)
  go_ret
  exact ⟨rfl, B1.out⟩
set_option maxHeartbeats 1000000 in
theorem pat12_any (s : ByteArray) (w : World) (hs : s.size ≤ 100000000) : Calls Tryz.prog 147 #[.string s] w (PostB (Tk.has 12 s.data.toList) w) := by
  have hq := matches_any s w.heap.size 3 [false, true, false] (w.alloc (.cells #[.func (.func 144) #[] #[], .func (.func 142) #[] #[], .func (.func 144) #[] #[]] 186)) rfl (by decide) hs (by
    intro i hi
    rw [cell_of_row _ _ i _ _ _ (heap_alloc_new w _)]
    rcases (show i = 0 ∨ i = 1 ∨ i = 2 by omega) with rfl | rfl | rfl <;> rfl)
  have hq2 : Calls Tryz.prog 141 #[.string s, .slice (some ⟨w.heap.size, 0, none⟩) 3 3] (w.alloc (.cells #[.func (.func 144) #[] #[], .func (.func 142) #[] #[], .func (.func 144) #[] #[]] 186)) (PostB (Tk.has 12 s.data.toList) (w.alloc (.cells #[.func (.func 144) #[] #[], .func (.func 142) #[] #[], .func (.func 144) #[] #[]] 186))) := hq
  generalize Tk.has 12 s.data.toList = D at *
  have HQ := Lib.hid hq2
  have HB := Lib.hid (below_new w (.cells #[.func (.func 144) #[] #[], .func (.func 142) #[] #[], .func (.func 144) #[] #[]] 186))
  clear hq hq2
  go_enter Tryz.func147, Tryz.ntmps147
  go_wp2_with (go_at_call 141; (with_reducible refine HQ.out.mono ?_); rintro e w1 ⟨rfl, hb⟩; have B1 := Lib.hid (below_next HB.out hb); clear hb)
  go_ret
  exact ⟨rfl, B1.out⟩
set_option maxHeartbeats 1000000 in
theorem pat13_any (s : ByteArray) (w : World) (hs : s.size ≤ 100000000) : Calls Tryz.prog 148 #[.string s] w (PostB (Tk.has 13 s.data.toList) w) := by
  have hq := matches_any s w.heap.size 4 [false, false, false, false] (w.alloc (.cells #[.func (.func 144) #[] #[], .func (.func 144) #[] #[], .func (.func 144) #[] #[], .func (.func 144) #[] #[]] 186)) rfl (by decide) hs (by
    intro i hi
    rw [cell_of_row _ _ i _ _ _ (heap_alloc_new w _)]
    rcases (show i = 0 ∨ i = 1 ∨ i = 2 ∨ i = 3 by omega) with rfl | rfl | rfl | rfl <;> rfl)
  have hq2 : Calls Tryz.prog 141 #[.string s, .slice (some ⟨w.heap.size, 0, none⟩) 4 4] (w.alloc (.cells #[.func (.func 144) #[] #[], .func (.func 144) #[] #[], .func (.func 144) #[] #[], .func (.func 144) #[] #[]] 186)) (PostB (Tk.has 13 s.data.toList) (w.alloc (.cells #[.func (.func 144) #[] #[], .func (.func 144) #[] #[], .func (.func 144) #[] #[], .func (.func 144) #[] #[]] 186))) := hq
  generalize Tk.has 13 s.data.toList = D at *
  have HQ := Lib.hid hq2
  have HB := Lib.hid (below_new w (.cells #[.func (.func 144) #[] #[], .func (.func 144) #[] #[], .func (.func 144) #[] #[], .func (.func 144) #[] #[]] 186))
  clear hq hq2
  go_enter Tryz.func148, Tryz.ntmps148
  go_wp2_with (go_at_call 141; (with_reducible refine HQ.out.mono ?_); rintro e w1 ⟨rfl, hb⟩; have B1 := Lib.hid (below_next HB.out hb); clear hb)
  go_ret
  exact ⟨rfl, B1.out⟩
end Go.Proofs.YtcponhdeffnndaaGreatDoor
