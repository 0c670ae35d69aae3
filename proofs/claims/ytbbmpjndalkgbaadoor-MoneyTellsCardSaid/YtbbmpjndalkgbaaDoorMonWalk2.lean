/-
  The walks of money's ways of rounding: a map of closures, and what a share is.
-/
import Derived.Test.YtbbmpjndalkgbaaDoorMonWalk1
import Derived.Test.YtbbmpjndalkgbaaDoorBaseMap
import Derived.Laws.EntriesVeiled
import Derived.Outline
namespace Go.Proofs.YtbbmpjndalkgbaaDoor
open Go.RowKit
set_option linter.unusedVariables false

/-- the entries: what each way adds -/
def rEs (pn pr pf : Nat) : Array MapEntry :=
  #[⟨.int .u8 1, .func (.func 41) #[] #[], 0⟩,
    ⟨.int .u8 2, .func (.func 42) #[] #[.pointer (some ⟨pr, 0, none⟩)], 1⟩,
    ⟨.int .u8 3, .func (.func 43) #[] #[.pointer (some ⟨pn, 0, none⟩), .pointer (some ⟨pf, 0, none⟩)], 2⟩,
    ⟨.int .u8 4, .func (.func 44) #[] #[.pointer (some ⟨pn, 0, none⟩), .pointer (some ⟨pf, 0, none⟩)], 3⟩]
/-- the map lies there, with what its closures have captured -/
structure Rnds (W : World) (m pn pr pf : Nat) (f r : Int) : Prop where
  map : W.heap[m]? = some (.map (rEs pn pr pf) 4)
  near : W.cell? ⟨pn, 0, none⟩ = some (.func (.func 40) #[] #[.pointer (some ⟨pr, 0, none⟩)])
  rest : W.cell? ⟨pr, 0, none⟩ = some (.int .i64 r)
  floor : W.cell? ⟨pf, 0, none⟩ = some (.int .i64 f)
def PostRnd (f r : Int) (w : World) (e : Ending) (w' : World) : Prop :=
  ∃ m pn pr pf, e = .returned (.map (some m)) ∧ Rnds w' m pn pr pf f r ∧ Below w.heap.size w w'

set_option maxRecDepth 100000 in
set_option maxHeartbeats 1000000 in
theorem roundings_any (f r : Int) (w : World) :
    Calls Tryd.prog 34 #[.int .i64 f, .int .i64 r] w (PostRnd f r w) := by
  have hmm := @run_makeMap Tryd.prog
  go_enter Tryd.func34, Tryd.ntmps34
  go_wp2_with (refine wpList_insert_lit _ rfl (.tmp 7) (.const (.int .u8 1)) (.func 41) 69 rfl 5 67 .u8 Tryd.underlying69 Tryd.underlying5 _ 0 _ rfl (map_new _ _ _ (by simp)) 1 (.func (.func 41) #[] #[]) rfl rfl rfl ?_; intro w1 hb1 hg1)
  have c1 : w1.cell? ⟨w.heap.size, 0, none⟩ = some (.int .i64 f) := hg1.cell (by go_simp) (by simp <;> omega)
  have c2 : w1.cell? ⟨w.heap.size + 1, 0, none⟩ = some (.int .i64 r) := hg1.cell (by go_simp) (by simp <;> omega)
  have c3 : w1.cell? ⟨w.heap.size + 1 + 1, 0, none⟩ = some (.func (.func 40) #[] #[.pointer (some ⟨w.heap.size + 1, 0, none⟩)]) := hg1.cell (by go_simp) (by simp)
  have B1 := Lib.hid ((((((Below.refl w.heap.size w).alloc (Nat.le_refl _) _).alloc (by simp <;> omega) _).alloc (by simp <;> omega) _).alloc (by simp <;> omega) _).grown hg1 (by simp <;> omega) (fun k hk => by cases hk; omega))
  have C := Lib.hid (And.intro c1 (And.intro c2 c3))
  have HB1 := Lib.hid hb1
  clear hg1 c1 c2 c3 hb1
  obtain ⟨w2, hr2, hb2, hg2⟩ := insert_ex 69 5 67 .u8 1 Tryd.underlying69 Tryd.underlying5 HB1.out 2 (.func (.func 42) #[] #[.pointer (some ⟨w.heap.size + 1, 0, none⟩)]) (by simp [Instr.findNow, Instr.sameNow])
  have B2 := Lib.hid (B1.out.grown hg2 B1.out.size (fun k hk => by cases hk; omega))
  have C2 := Lib.hid (And.intro (hg2.cell C.out.1 (by simp <;> omega)) (And.intro (hg2.cell C.out.2.1 (by simp <;> omega)) (hg2.cell C.out.2.2 (by simp))))
  have HB2 := Lib.hid hb2
  clear hg2 hb2
  obtain ⟨w3, hr3, hb3, hg3⟩ := insert_ex 69 5 67 .u8 2 Tryd.underlying69 Tryd.underlying5 HB2.out 3 (.func (.func 43) #[] #[.pointer (some ⟨w.heap.size + 1 + 1, 0, none⟩), .pointer (some ⟨w.heap.size, 0, none⟩)]) (by simp [Instr.findNow, Instr.sameNow])
  have B3 := Lib.hid (B2.out.grown hg3 B2.out.size (fun k hk => by cases hk; omega))
  have C3 := Lib.hid (And.intro (hg3.cell C2.out.1 (by simp <;> omega)) (And.intro (hg3.cell C2.out.2.1 (by simp <;> omega)) (hg3.cell C2.out.2.2 (by simp))))
  have HB3 := Lib.hid hb3
  clear hg3 hb3
  obtain ⟨w4, hr4, hb4, hg4⟩ := insert_ex 69 5 67 .u8 3 Tryd.underlying69 Tryd.underlying5 HB3.out 4 (.func (.func 44) #[] #[.pointer (some ⟨w.heap.size + 1 + 1, 0, none⟩), .pointer (some ⟨w.heap.size, 0, none⟩)]) (by simp [Instr.findNow, Instr.sameNow])
  have B4 := Lib.hid (B3.out.grown hg4 B3.out.size (fun k hk => by cases hk; omega))
  have C4 := Lib.hid (And.intro (hg4.cell C3.out.1 (by simp <;> omega)) (And.intro (hg4.cell C3.out.2.1 (by simp <;> omega)) (hg4.cell C3.out.2.2 (by simp))))
  have HB4 := Lib.hid hb4
  clear hg4 hb4
  clear hmm
  rw [hr2]
  go_wp2
  try rw [hr3]
  try go_wp2
  try rw [hr4]
  try go_wp2
  go_ret
  exact ⟨_, _, _, _, rfl, ⟨HB4.out, C4.out.2.2, C4.out.2.1, C4.out.1⟩, B4.out⟩


set_option maxHeartbeats 400000 in
theorem nearest_any (h : Bool) (r : Int) (p : Nat) (w : World) (hc : w.cell? ⟨p, 0, none⟩ = some (.int .i64 r)) (r0 : 0 ≤ r) (r1 : r < 10000) :
    Calls Tryd.prog 40 #[.bool h, .pointer (some ⟨p, 0, none⟩)] w fun e w' => e = .returned (.int .i64 (if 5000 < r ∨ r = 5000 ∧ h = true then 1 else 0)) ∧ w = w' := by
  by_cases c1 : 5000 < r
  · have f1 : decide (10000 < 2 * r) = true := decide_eq_true (by omega)
    go_enter Tryd.func40, Tryd.ntmps40
    go_wp2
    go_ret
    exact ⟨ret_int (by first | rfl | (rw [if_pos (.inl c1)])), rfl⟩
  by_cases c2 : r = 5000
  · subst c2
    cases h
    all_goals
      go_enter Tryd.func40, Tryd.ntmps40
      go_wp2
      go_ret
      exact ⟨ret_int (by simp), rfl⟩
  · have f1 : decide (10000 < 2 * r) = false := decide_eq_false (by omega)
    have f2 : (2 * r == 10000) = false := by rw [beq_eq_false_iff_ne]; omega
    go_enter Tryd.func40, Tryd.ntmps40
    go_wp2
    go_ret
    exact ⟨ret_int (by first | rfl | (rw [if_neg (fun x => x.elim (fun y => by omega) (fun y => c2 y.1))])), rfl⟩

theorem way1_any (W : World) : Calls Tryd.prog 41 #[] W fun e w' => e = .returned (.int .i64 0) ∧ W = w' := by
  go_enter Tryd.func41, Tryd.ntmps41
  go_wp2
  go_ret
  exact ⟨rfl, rfl⟩
theorem way2_any (r : Int) (p : Nat) (W : World) (hc : W.cell? ⟨p, 0, none⟩ = some (.int .i64 r)) : Calls Tryd.prog 42 #[.pointer (some ⟨p, 0, none⟩)] W fun e w' => e = .returned (.int .i64 (min r 1)) ∧ W = w' := by
  go_enter Tryd.func42, Tryd.ntmps42
  go_wp2
  go_ret
  exact ⟨rfl, rfl⟩
theorem way3_any (m pn pr pf : Nat) (f r : Int) (W : World) (hR : Rnds W m pn pr pf f r) (r0 : 0 ≤ r) (r1 : r < 10000) :
    Calls Tryd.prog 43 #[.pointer (some ⟨pn, 0, none⟩), .pointer (some ⟨pf, 0, none⟩)] W fun e w' => e = .returned (.int .i64 (if 5000 < r ∨ r = 5000 ∧ 0 ≤ f then 1 else 0)) ∧ W = w' := by
  have c1 := hR.near
  have c2 := hR.floor
  have c3 := hR.rest
  have hq : ∀ W, W.cell? ⟨pr, 0, none⟩ = some (.int .i64 r) → Calls Tryd.prog 40 #[.bool (decide (0 ≤ f)), .pointer (some ⟨pr, 0, none⟩)] W fun e w' => e = .returned (.int .i64 (if 5000 < r ∨ r = 5000 ∧ 0 ≤ f then 1 else 0)) ∧ W = w' := by
    intro W hW
    have := nearest_any (decide (0 ≤ f)) r pr W hW r0 r1
    simp only [decide_eq_true_eq] at this
    exact this
  have HQ := Lib.hid (hq _ c3); clear hq c3
  generalize (if 5000 < r ∨ r = 5000 ∧ 0 ≤ f then (1 : Int) else 0) = x at *
  go_enter Tryd.func43, Tryd.ntmps43
  go_wp2_with (go_at_call 40; refine HQ.out.mono ?_; rintro e w' ⟨rfl, rfl⟩)
  go_ret
  exact ⟨rfl, rfl⟩
theorem way4_any (m pn pr pf : Nat) (f r : Int) (W : World) (hR : Rnds W m pn pr pf f r) (r0 : 0 ≤ r) (r1 : r < 10000) :
    Calls Tryd.prog 44 #[.pointer (some ⟨pn, 0, none⟩), .pointer (some ⟨pf, 0, none⟩)] W fun e w' => e = .returned (.int .i64 (if 5000 < r ∨ r = 5000 ∧ f % 2 ≠ 0 then 1 else 0)) ∧ W = w' := by
  have c1 := hR.near
  have c2 := hR.floor
  have c3 := hR.rest
  have hq : ∀ W, W.cell? ⟨pr, 0, none⟩ = some (.int .i64 r) → Calls Tryd.prog 40 #[.bool (f.tmod 2 != 0), .pointer (some ⟨pr, 0, none⟩)] W fun e w' => e = .returned (.int .i64 (if 5000 < r ∨ r = 5000 ∧ f % 2 ≠ 0 then 1 else 0)) ∧ W = w' := by
    intro W hW
    have := nearest_any (f.tmod 2 != 0) r pr W hW r0 r1
    have e : ((f.tmod 2 != 0) = true) ↔ f % 2 ≠ 0 := by
      have t := Mo.tdown f 2 (by omega)
      have t1 : f.tmod 2 < 2 := Int.tmod_lt_of_pos _ (by omega)
      have t2 : (-f).tmod 2 < 2 := Int.tmod_lt_of_pos _ (by omega)
      rw [Int.neg_tmod] at t2
      rw [bne_iff_ne]; omega
    simp only [e] at this
    exact this
  have HQ := Lib.hid (hq _ c3); clear hq c3
  generalize (if 5000 < r ∨ r = 5000 ∧ f % 2 ≠ 0 then (1 : Int) else 0) = x at *
  go_enter Tryd.func44, Tryd.ntmps44
  go_wp2_with (go_at_call 40; refine HQ.out.mono ?_; rintro e w' ⟨rfl, rfl⟩)
  go_ret
  exact ⟨rfl, rfl⟩

end Go.Proofs.YtbbmpjndalkgbaaDoor
