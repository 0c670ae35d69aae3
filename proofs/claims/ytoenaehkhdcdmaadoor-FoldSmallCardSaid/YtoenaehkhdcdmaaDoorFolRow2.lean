/-
  The closure over a row that Short hands on; what is selected from the rows.
-/
import Derived.Test.YtoenaehkhdcdmaaDoorFolRow1
namespace Go.Proofs.YtoenaehkhdcdmaaDoor
open Go.RowKit
set_option linter.unusedVariables false
set_option linter.unusedSimpArgs false

set_option maxRecDepth 100000 in
set_option maxHeartbeats 4000000 in
theorem short1_any (a k bk bw : Nat) (x y z : ByteArray) (w : World) (hk : w.cell? ⟨bk, 0, none⟩ = some (.int .u8 k)) (hz : w.cell? ⟨bw, 0, none⟩ = some (.string z)) :
    Calls Tryd.prog 50 #[.agg #[.int .u8 a, .string x, .string y], .pointer (some ⟨bk, 0, none⟩), .pointer (some ⟨bw, 0, none⟩)] w
      (PostB ((k == 0 || a == k) && x.data.toList == z.data.toList) w) := by
  have hr := R5.new w bk bw a k x y z hk hz
  have hb := (Below.refl w.heap.size w).alloc (Nat.le_refl _) (.cells #[.int .u8 a, .string x, .string y] 30)
  obtain ⟨W, hW⟩ : ∃ W, W = w.alloc (.cells #[.int .u8 a, .string x, .string y] 30) := ⟨_, rfl⟩
  obtain ⟨g, hg⟩ : ∃ g, g = w.heap.size := ⟨_, rfl⟩
  rw [← hW] at hb hr
  rw [← hg] at hr
  have K1 := Lib.hid (fun V => hasKind_any a k x y V)
  have HB := Lib.hid hb
  have HR := Lib.hid hr
  have HW := Lib.hid hW; have HG := Lib.hid hg
  have E1 := Lib.hid (show (x.toList == z.toList) = (x.data.toList == z.data.toList) by rw [ByteArray.toList_eq, ByteArray.toList_eq])
  clear hb hW hg hk hz hr
  obtain ⟨D, hD⟩ : ∃ D, D = (x.data.toList == z.data.toList) := ⟨_, rfl⟩
  rw [← hD] at E1 ⊢
  clear hD
  have hD2 := E1.out
  by_cases c : (k == 0 || a == k) = true
  · rw [c, Bool.true_and]
    rw [c] at K1
    clear c
    go_enter Tryd.func50, Tryd.ntmps50
    obtain ⟨h0, h1, h2, h3, h4⟩ := HR.out
    rw [HW.out] at h0 h1 h2 h3 h4
    rw [HG.out] at h0 h1 h2
    go_wp2_with (go_at_call 45; (with_reducible refine (K1.out _).mono ?_); rintro e V1 ⟨rfl, hb⟩; rw [← HW.out] at hb; rw [← HG.out]; obtain ⟨u0, u1, u2, u3, u4⟩ := HR.out.below hb; have B1 := Lib.hid (below_next HB.out hb); clear hb h0 h1 h2 h3 h4)
    all_goals go_ret
    all_goals exact ⟨ret_bool (by first | rfl | simp [*]), B1.out⟩
  · have c' : (k == 0 || a == k) = false := by simpa using c
    rw [c', Bool.false_and]
    rw [c'] at K1
    clear c c'
    go_enter Tryd.func50, Tryd.ntmps50
    obtain ⟨h0, h1, h2, h3, h4⟩ := HR.out
    rw [HW.out] at h0 h1 h2 h3 h4
    rw [HG.out] at h0 h1 h2
    go_wp2_with (go_at_call 45; (with_reducible refine (K1.out _).mono ?_); rintro e V1 ⟨rfl, hb⟩; rw [← HW.out] at hb; have B1 := Lib.hid (below_next HB.out hb); clear hb h0 h1 h2 h3 h4)
    go_ret
    exact ⟨rfl, B1.out⟩
end Go.Proofs.YtoenaehkhdcdmaaDoor
