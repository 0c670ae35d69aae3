/-
  The walks of money's small functions: amounts, sums, parts.
-/
import Derived.Test.YtbbmpjndalkgbaaDoorBase
import Derived.Test.YtbbmpjndalkgbaaDoorMonPlain3
import Derived.Test.YtbbmpjndalkgbaaDoorShelf
namespace Go.Proofs.YtbbmpjndalkgbaaDoor
open Go.RowKit
set_option linter.unusedVariables false

set_option maxHeartbeats 400000 in
theorem mRight_any (a : Int) (w : World) :
    Calls Tryd.prog 23 #[.int .i64 a] w fun e w' => e = .returned (.bool (Mo.rt a)) ∧ w = w' := by
  go_enter Tryd.func23, Tryd.ntmps23
  go_wp2
  all_goals (go_ret; exact ⟨ret_bool (by rw [Bool.eq_iff_iff, Mo.rt_iff]; simp [*] <;> omega), rfl⟩)

set_option maxHeartbeats 400000 in
theorem mSum_any (A : Option Addr) (cap : Nat) (zs : List Int) (w : World) (hr : Rd w A zs) (hl : zs.length ≤ 9223372036854775807) :
    Calls Tryd.prog 16 #[.slice A zs.length cap] w fun e w' => e = .returned (.tuple #[.int .i64 (Mo.smV zs), .int .i64 (Mo.smE zs)]) ∧ w = w' := by
  by_cases h : 4096 < zs.length
  · obtain ⟨e1, e2⟩ := Mo.smE_many h
    have E1 := Lib.hid e1; clear e1
    have E2 := Lib.hid e2; clear e2
    go_enter Tryd.func16, Tryd.ntmps16
    go_wp2
    go_ret2
    exact ⟨ret_two E2.out.symm E1.out.symm, rfl⟩
  have hl2 : zs.length ≤ 4096 := by omega
  have Hr := Lib.hid hr; clear hr
  go_enter Tryd.func16, Tryd.ntmps16
  go_wp2
  go_loop [4, 12] (fun s i => ∃ (k : Nat), k ≤ zs.length ∧ i = .int .i64 k ∧ s = .int .i64 (Mo.sumZ (zs.take k)) ∧ Hid (Mo.allRt (zs.take k) = true)) (fun _ i => zs.length - (intOf i).toNat)
  case atStart => exact ⟨0, by omega, rfl, rfl, by simp [Hid, Mo.allRt]⟩
  case round =>
    obtain ⟨k, hk, rfl, rfl, hm⟩ := hrel
    have hb := Mo.sumZ_bd _ hm.out
    have hlen : (zs.take k).length = k := by rw [List.length_take]; omega
    rw [hlen] at hb
    clear hlen
    by_cases hlt : k < zs.length
    · obtain ⟨b, off, rfl, hbl, hc⟩ := Hr.out.at (by omega)
      have hc1 := hc k hlt; clear hc
      have e1 := Mo.sumZ_take zs k hlt
      have e2 := Mo.allRt_take zs k hlt
      obtain ⟨z, hz⟩ : ∃ z, z = zs.getD k 0 := ⟨_, rfl⟩
      rw [← hz] at hc1 e1 e2
      have E1 := Lib.hid e1; clear e1
      have E2 := Lib.hid e2; clear e2
      clear hz
      cases hrt : Mo.rt z
      · obtain ⟨e3, e4⟩ := Mo.smE_arg hl2 (Mo.allRt_of_take zs (k + 1) (by rw [E2.out, hrt]; simp))
        have E3 := Lib.hid e3; clear e3
        have E4 := Lib.hid e4; clear e4
        have hrt2 : ∀ W, Calls Tryd.prog 23 #[.int .i64 z] W fun e w' => e = .returned (.bool false) ∧ W = w' := fun W => hrt ▸ mRight_any z W
        have HR := Lib.hid hrt2; clear hrt2 hrt
        generalize Mo.sumZ (zs.take k) = s at *
        go_wp2_with (go_at_call 23; refine (HR.out _).mono ?_; rintro e w' ⟨rfl, rfl⟩)
        go_ret2
        exact ⟨ret_two E4.out.symm E3.out.symm, rfl⟩
      · have hz2 := (Mo.rt_iff z).1 hrt
        have hrt2 : ∀ W, Calls Tryd.prog 23 #[.int .i64 z] W fun e w' => e = .returned (.bool true) ∧ W = w' := fun W => hrt ▸ mRight_any z W
        have hm2 := Lib.hid (show Mo.allRt (zs.take (k + 1)) = true by rw [E2.out, hm.out, hrt]; rfl)
        have HR := Lib.hid hrt2; clear hrt2 hrt hm
        generalize Mo.sumZ (zs.take k) = s at *
        obtain ⟨z0, z1⟩ := hz2
        obtain ⟨s0, s1⟩ := hb
        go_wp2_with (go_at_call 23; refine (HR.out _).mono ?_; rintro e w' ⟨rfl, rfl⟩)
        exact ⟨⟨k + 1, by omega, by go_num, by rw [E1.out], hm2⟩, by simp [intOf]; omega⟩
    · have hke : k = zs.length := by omega
      have htk : zs.take k = zs := List.take_of_length_le (by omega)
      rw [htk] at hm ⊢
      clear htk
      cases hrt : Mo.rt (Mo.sumZ zs)
      · obtain ⟨e3, e4⟩ := Mo.smE_long hl2 hm.out hrt
        have hrt2 : ∀ W, Calls Tryd.prog 23 #[.int .i64 (Mo.sumZ zs)] W fun e w' => e = .returned (.bool false) ∧ W = w' := fun W => hrt ▸ mRight_any _ W
        have HR := Lib.hid hrt2; clear hrt2 hrt
        have E3 := Lib.hid e3; clear e3
        have E4 := Lib.hid e4; clear e4
        clear hke
        go_wp2_with (go_at_call 23; refine (HR.out _).mono ?_; rintro e w' ⟨rfl, rfl⟩)
        go_ret2
        exact ⟨ret_two E4.out.symm E3.out.symm, rfl⟩
      · obtain ⟨e3, e4⟩ := Mo.smE_ok hl2 hm.out hrt
        have hrt2 : ∀ W, Calls Tryd.prog 23 #[.int .i64 (Mo.sumZ zs)] W fun e w' => e = .returned (.bool true) ∧ W = w' := fun W => hrt ▸ mRight_any _ W
        have HR := Lib.hid hrt2; clear hrt2 hrt
        have E3 := Lib.hid e3; clear e3
        have E4 := Lib.hid e4; clear e4
        clear hke
        go_wp2_with (go_at_call 23; refine (HR.out _).mono ?_; rintro e w' ⟨rfl, rfl⟩)
        go_ret2
        exact ⟨ret_two E4.out.symm E3.out.symm, rfl⟩

/-- a part of an amount -/
theorem drewN_zero (w : World) : w.drewN 0 = w := rfl
set_option maxHeartbeats 1000000 in
theorem portion_any (a p q : Int) (w : World) (h : 0 < q) (hq : q ≤ 4096000000) (p0 : 0 ≤ p) (p1 : p ≤ q) (p2 : p ≤ 1000000) (a0 : -1000000000000000 ≤ a) (a1 : a ≤ 1000000000000000) :
    Calls Tryd.prog 33 #[.int .i64 a, .int .i64 p, .int .i64 q] w fun e w' => e = .returned (.tuple #[.int .i64 (a * p / q), .int .i64 (a * p % q)]) ∧ ∃ n, w' = w.drewN n := by
  obtain ⟨i1, i2, i3, i4, i5, i6, i7, i8, i9, i10⟩ := Mo.part_in a p q h hq p0 p1 p2 a0 a1
  obtain ⟨e1, e2⟩ := Mo.part_eq a p q h
  obtain ⟨t1, t2⟩ := Mo.tdown a q h
  have bd := Mo.part_bd a p q h p0 p1 a0 a1
  rw [← e1] at bd
  obtain ⟨bd1, bd2⟩ := bd
  have tm1 : a.tmod q < q := Int.tmod_lt_of_pos _ h
  have tm2 : -q < a.tmod q := by
    have := Int.tmod_lt_of_pos (-a) h
    rw [Int.neg_tmod] at this
    omega
  have E1 := Lib.hid e1; clear e1
  have E2 := Lib.hid e2; clear e2
  have T1 := Lib.hid t1; clear t1
  have T2 := Lib.hid t2; clear t2
  have hq0 : (q == 0) = false := by rw [beq_eq_false_iff_ne]; omega
  generalize a / q = D at *
  generalize a % q = R at *
  generalize a * p / q = X at *
  generalize a * p % q = Y at *
  have f1 : IntKind.i64.wrap (D * p) = D * p := IntWalk.i64_in _ (by omega)
  have f2 : IntKind.i64.wrap (D * p + R * p / q) = D * p + R * p / q := IntWalk.i64_in _ (by omega)
  have f3 : (R * p).tdiv q = R * p / q := Int.tdiv_eq_ediv_of_nonneg i5
  have f4 : (R * p).tmod q = R * p % q := Int.tmod_eq_emod_of_nonneg i5
  have F1 := Lib.hid f1; have F2 := Lib.hid f2; have F3 := Lib.hid f3; have F4 := Lib.hid f4
  clear f1 f2 f3 f4
  go_enter Tryd.func33, Tryd.ntmps33
  go_wp2
  go_quiet (fail)
  by_cases hn : a.tmod q < 0
  · obtain ⟨g1, g2⟩ := T1.out hn
    clear T1 T2
    have F : Hid ((D * p + R * p / q = X) ∧ (R * p % q = Y)) := ⟨E1.out, E2.out⟩
    clear E1 E2
    subst g1
    subst g2
    go_wp2
    have f1 := F1.out; have f2 := F2.out; have f3 := F3.out; have f4 := F4.out
    go_quiet (fail)
    clear f1 f2 f3 f4
    go_wp2
    go_ret2
    exact ⟨ret_two F.out.1 F.out.2, _, World.drewN_drewN ..⟩
  · obtain ⟨g1, g2⟩ := T2.out (by omega)
    clear T1 T2
    have F : Hid ((D * p + R * p / q = X) ∧ (R * p % q = Y)) := ⟨E1.out, E2.out⟩
    clear E1 E2
    subst g1
    subst g2
    go_wp2
    have f1 := F1.out; have f2 := F2.out; have f3 := F3.out; have f4 := F4.out
    go_quiet (fail)
    clear f1 f2 f3 f4
    go_wp2
    go_ret2
    exact ⟨ret_two F.out.1 F.out.2, _, World.drewN_drewN ..⟩

end Go.Proofs.YtbbmpjndalkgbaaDoor
