/-
  The walks of the reference's small functions: amounts, sums, parts.
-/
import Derived.Test.YtbbmpjndalkgbaaDoorMonSums
namespace Go.Proofs.YtbbmpjndalkgbaaDoor
open Go.RowKit
set_option linter.unusedVariables false

set_option maxHeartbeats 400000 in
theorem rRight_any (a : Int) (w : World) :
    Calls Tryd.prog 25 #[.int .i64 a] w fun e w' => e = .returned (.bool (Mo.rt a)) ∧ w = w' := by
  go_enter Tryd.func25, Tryd.ntmps25
  go_wp2
  all_goals (go_ret; exact ⟨ret_bool (by rw [Bool.eq_iff_iff, Mo.rt_iff]; simp [*] <;> omega), rfl⟩)

set_option maxHeartbeats 400000 in
theorem rSum_any (A : Option Addr) (cap : Nat) (zs : List Int) (w : World) (hr : Rd w A zs) (hl : zs.length ≤ 9223372036854775807) :
    Calls Tryd.prog 27 #[.slice A zs.length cap] w fun e w' => e = .returned (.tuple #[.int .i64 (Mo.smV zs), .int .i64 (Mo.smE zs)]) ∧ w = w' := by
  by_cases h : 4096 < zs.length
  · obtain ⟨e1, e2⟩ := Mo.smE_many h
    have E1 := Lib.hid e1; clear e1
    have E2 := Lib.hid e2; clear e2
    go_enter Tryd.func27, Tryd.ntmps27
    go_wp2
    go_ret2
    exact ⟨ret_two E2.out.symm E1.out.symm, rfl⟩
  have hl2 : zs.length ≤ 4096 := by omega
  have Hr := Lib.hid hr; clear hr
  go_enter Tryd.func27, Tryd.ntmps27
  go_wp2
  go_loop [4, 5] (fun s i => ∃ (k : Nat), k ≤ zs.length ∧ i = .int .i64 k ∧ s = .int .i64 (Mo.sumZ (zs.take k)) ∧ Hid (Mo.allRt (zs.take k) = true)) (fun _ i => zs.length - (intOf i).toNat)
  case atStart => exact ⟨0, by omega, rfl, rfl, by simp [Hid, Mo.allRt]⟩
  case round =>
    obtain ⟨k, hk, rfl, rfl, hm⟩ := hrel
    have hb := Mo.sumZ_bd _ hm.out
    have hlen : (zs.take k).length = k := by rw [List.length_take]; omega
    rw [hlen] at hb
    clear hlen
    by_cases hlt : k < zs.length
    · obtain ⟨b, off, rfl, hbl, hc⟩ := Hr.out.at (by omega)
      have hc1 := hc k hlt; clear hc
      have e1 := Mo.sumZ_take zs k hlt
      have e2 := Mo.allRt_take zs k hlt
      obtain ⟨z, hz⟩ : ∃ z, z = zs.getD k 0 := ⟨_, rfl⟩
      rw [← hz] at hc1 e1 e2
      have E1 := Lib.hid e1; clear e1
      have E2 := Lib.hid e2; clear e2
      clear hz
      cases hrt : Mo.rt z
      · obtain ⟨e3, e4⟩ := Mo.smE_arg hl2 (Mo.allRt_of_take zs (k + 1) (by rw [E2.out, hrt]; simp))
        have E3 := Lib.hid e3; clear e3
        have E4 := Lib.hid e4; clear e4
        have hrt2 : ∀ W, Calls Tryd.prog 25 #[.int .i64 z] W fun e w' => e = .returned (.bool false) ∧ W = w' := fun W => hrt ▸ rRight_any z W
        have HR := Lib.hid hrt2; clear hrt2 hrt
        generalize Mo.sumZ (zs.take k) = s at *
        go_wp2_with (go_at_call 25; refine (HR.out _).mono ?_; rintro e w' ⟨rfl, rfl⟩)
        go_ret2
        exact ⟨ret_two E4.out.symm E3.out.symm, rfl⟩
      · have hz2 := (Mo.rt_iff z).1 hrt
        have hrt2 : ∀ W, Calls Tryd.prog 25 #[.int .i64 z] W fun e w' => e = .returned (.bool true) ∧ W = w' := fun W => hrt ▸ rRight_any z W
        have hm2 := Lib.hid (show Mo.allRt (zs.take (k + 1)) = true by rw [E2.out, hm.out, hrt]; rfl)
        have HR := Lib.hid hrt2; clear hrt2 hrt hm
        generalize Mo.sumZ (zs.take k) = s at *
        obtain ⟨z0, z1⟩ := hz2
        obtain ⟨s0, s1⟩ := hb
        go_wp2_with (go_at_call 25; refine (HR.out _).mono ?_; rintro e w' ⟨rfl, rfl⟩)
        exact ⟨⟨k + 1, by omega, by go_num, by rw [E1.out], hm2⟩, by simp [intOf]; omega⟩
    · have hke : k = zs.length := by omega
      have htk : zs.take k = zs := List.take_of_length_le (by omega)
      rw [htk] at hm ⊢
      clear htk
      cases hrt : Mo.rt (Mo.sumZ zs)
      · obtain ⟨e3, e4⟩ := Mo.smE_long hl2 hm.out hrt
        have hrt2 : ∀ W, Calls Tryd.prog 25 #[.int .i64 (Mo.sumZ zs)] W fun e w' => e = .returned (.bool false) ∧ W = w' := fun W => hrt ▸ rRight_any _ W
        have HR := Lib.hid hrt2; clear hrt2 hrt
        have E3 := Lib.hid e3; clear e3
        have E4 := Lib.hid e4; clear e4
        clear hke
        go_wp2_with (go_at_call 25; refine (HR.out _).mono ?_; rintro e w' ⟨rfl, rfl⟩)
        go_ret2
        exact ⟨ret_two E4.out.symm E3.out.symm, rfl⟩
      · obtain ⟨e3, e4⟩ := Mo.smE_ok hl2 hm.out hrt
        have hrt2 : ∀ W, Calls Tryd.prog 25 #[.int .i64 (Mo.sumZ zs)] W fun e w' => e = .returned (.bool true) ∧ W = w' := fun W => hrt ▸ rRight_any _ W
        have HR := Lib.hid hrt2; clear hrt2 hrt
        have E3 := Lib.hid e3; clear e3
        have E4 := Lib.hid e4; clear e4
        clear hke
        go_wp2_with (go_at_call 25; refine (HR.out _).mono ?_; rintro e w' ⟨rfl, rfl⟩)
        go_ret2
        exact ⟨ret_two E4.out.symm E3.out.symm, rfl⟩

theorem rAdd_any (a b : Int) (w : World) :
    Calls Tryd.prog 24 #[.int .i64 a, .int .i64 b] w fun e w' => e = .returned (.tuple #[.int .i64 (Mo.smV [a, b]), .int .i64 (Mo.smE [a, b])]) ∧ Below w.heap.size w w' := by
  have hq : Calls Tryd.prog 27 #[.slice (some ⟨w.heap.size, 0, none⟩) 2 2] (w.alloc (.cells #[.int .i64 a, .int .i64 b] 3)) fun e w' => e = .returned (.tuple #[.int .i64 (Mo.smV [a, b]), .int .i64 (Mo.smE [a, b])]) ∧ (w.alloc (.cells #[.int .i64 a, .int .i64 b] 3)) = w' :=
    rSum_any (some ⟨w.heap.size, 0, none⟩) 2 [a, b] _ (rd_new w [a, b] 3) (by simp)
  have HQ := Lib.hid hq; clear hq
  go_enter Tryd.func24, Tryd.ntmps24
  go_wp2_with (go_at_call 27; refine HQ.out.mono ?_; rintro e w' ⟨rfl, rfl⟩)
  go_ret2
  exact ⟨rfl, (Below.refl _ _).alloc (Nat.le_refl _) _⟩

set_option maxHeartbeats 1000000 in
theorem down_any (a d : Int) (w : World) (h : 0 < d) (hd : d ≤ 4096000000) (a0 : -1000000000000000 ≤ a) (a1 : a ≤ 1000000000000000) :
    Calls Tryd.prog 54 #[.int .i64 a, .int .i64 d] w fun e w' => e = .returned (.tuple #[.int .i64 (a / d), .int .i64 (a % d)]) ∧ ∃ n, w' = w.drewN n := by
  obtain ⟨t1, t2⟩ := Mo.tdown a d h
  have tm1 : a.tmod d < d := Int.tmod_lt_of_pos _ h
  have tm2 : -d < a.tmod d := by
    have := Int.tmod_lt_of_pos (-a) h
    rw [Int.neg_tmod] at this
    omega
  have bd := Mo.part_bd a 1 d h (by omega) (by omega) a0 a1
  rw [Int.mul_one] at bd
  have hq0 : (d == 0) = false := by rw [beq_eq_false_iff_ne]; omega
  have T1 := Lib.hid t1; have T2 := Lib.hid t2
  have hqb : -1000000000000000 ≤ a.tdiv d ∧ a.tdiv d ≤ 1000000000000001 := by
    by_cases c : a.tmod d < 0
    · have := (t1 c).1; omega
    · have := (t2 (by omega)).1; omega
  obtain ⟨q0, q1⟩ := hqb
  clear t1 t2 bd
  go_enter Tryd.func54, Tryd.ntmps54
  go_wp2
  go_quiet (fail)
  generalize a.tdiv d = q at *
  generalize a.tmod d = r at *
  by_cases hn : r < 0
  · obtain ⟨g1, g2⟩ := T1.out hn
    go_wp2
    go_ret2
    exact ⟨by first | rfl | exact ret_two g1 g2, _, rfl⟩
  · obtain ⟨g1, g2⟩ := T2.out (by omega)
    go_wp2
    go_ret2
    exact ⟨by first | rfl | exact ret_two g1 g2, _, rfl⟩

end Go.Proofs.YtbbmpjndalkgbaaDoor
