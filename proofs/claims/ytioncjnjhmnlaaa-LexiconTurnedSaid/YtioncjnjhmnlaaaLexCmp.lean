/-
  The order of hits: the closure that Near hands to the library's sort.
-/
import Derived.Test.YtioncjnjhmnlaaaLexFind
import Derived.Test.YtioncjnjhmnlaaaSrt
import Derived.Deep.RegionHeld3
namespace Go.Proofs.Ytioncjnjhmnlaaa
open Go.RowKit Go.Lib Go.Sort Lx
set_option linter.unusedVariables false
set_option linter.unusedSimpArgs false

set_option maxHeartbeats 2000000 in
theorem or_any (g : Nat) (a b : Int) (w : World) (h0 : w.cell? ⟨g, 0, none⟩ = some (.int .i64 a)) (h1 : w.cell? ⟨g, 1, none⟩ = some (.int .i64 b)) :
    Calls Try.prog 27 #[.slice (some ⟨g, 0, none⟩) 2 2] w fun e w' => e = .returned (.int .i64 (if a = 0 then b else a)) ∧ w' = w := by
  by_cases ha : a = 0
  · subst ha
    by_cases hb : b = 0
    · subst hb
      go_enter Try.func27, Try.ntmps27
      go_wp2
      refine wp_loop_rounds 3 ?_
      rw [rounds_succ]; go_wp2
      rw [rounds_succ]; go_wp2
      rw [rounds_succ]; go_wp2
      go_ret
      exact ⟨rfl, rfl⟩
    · have e : (b != 0) = true := by rw [bne_iff_ne]; exact hb
      rw [if_pos rfl]
      go_enter Try.func27, Try.ntmps27
      go_wp2
      refine wp_loop_rounds 2 ?_
      rw [rounds_succ]; go_wp2
      rw [rounds_succ]; go_wp2
      go_ret
      exact ⟨rfl, rfl⟩
  · have e : (a != 0) = true := by rw [bne_iff_ne]; exact ha
    rw [if_neg ha]
    go_enter Try.func27, Try.ntmps27
    go_wp2
    refine wp_loop_rounds 1 ?_
    rw [rounds_succ]; go_wp2
    go_ret
    exact ⟨rfl, rfl⟩
/-- which of two hits comes first: by their costs, then by their numbers -/
def hcmp (x y : Int × Int) : Int := if Lib.compareInt x.2 y.2 = 0 then Lib.compareInt x.1 y.1 else Lib.compareInt x.2 y.2
def hitV (x : Int × Int) : List Value := [.int .i64 x.1, .int .i64 x.2]
theorem hcmp_lt (x y : Int × Int) : ltOf hcmp x y = decide (x.2 < y.2 ∨ x.2 = y.2 ∧ x.1 < y.1) := by
  unfold ltOf hcmp Lib.compareInt
  rw [Bool.eq_iff_iff]
  simp only [decide_eq_true_eq]
  repeat' split
  all_goals omega
theorem hcmp_swo : SWO (ltOf hcmp) where
  irrefl x := by rw [hcmp_lt]; simp
  trans x y z h1 h2 := by rw [hcmp_lt] at *; simp at *; omega
  ntrans x y z h1 h2 := by rw [hcmp_lt] at *; simp at *; omega
set_option maxHeartbeats 4000000 in
theorem closure_any (x y : Int × Int) (W : World) : Calls Try.prog 26 #[.agg #[.int .i64 x.1, .int .i64 x.2], .agg #[.int .i64 y.1, .int .i64 y.2]] W fun e w' => e = .returned (.int .i64 (hcmp x y)) ∧ ∃ q os', w' = grow (W.drewN q) os' := by
  have c1 := fun V => Try.cmp_Compare_int x.2 y.2 V
  have c2 := fun V => Try.cmp_Compare_int x.1 y.1 V
  have hh : hcmp x y = if Lib.compareInt x.2 y.2 = 0 then Lib.compareInt x.1 y.1 else Lib.compareInt x.2 y.2 := rfl
  generalize Lib.compareInt x.2 y.2 = r1 at c1 hh
  generalize Lib.compareInt x.1 y.1 = r2 at c2 hh
  rw [hh]
  obtain ⟨r, hr⟩ : ∃ r, (if r1 = 0 then r2 else r1) = r := ⟨_, rfl⟩
  rw [hr]
  have C1 := Lib.hid c1; have C2 := Lib.hid c2
  clear c1 c2 hh
  go_enter Try.func26, Try.ntmps26
  go_wp2
  have u0 : ((W.alloc (.cells #[.int .i64 x.1, .int .i64 x.2] 38)).alloc (.cells #[.int .i64 y.1, .int .i64 y.2] 38)).cell? ⟨W.heap.size, 0, none⟩ = some (.int .i64 x.1) := by go_simp
  have u1 : ((W.alloc (.cells #[.int .i64 x.1, .int .i64 x.2] 38)).alloc (.cells #[.int .i64 y.1, .int .i64 y.2] 38)).cell? ⟨W.heap.size, 1, none⟩ = some (.int .i64 x.2) := by go_simp
  have u2 : ((W.alloc (.cells #[.int .i64 x.1, .int .i64 x.2] 38)).alloc (.cells #[.int .i64 y.1, .int .i64 y.2] 38)).cell? ⟨W.heap.size + 1, 0, none⟩ = some (.int .i64 y.1) := by go_simp
  have u3 : ((W.alloc (.cells #[.int .i64 x.1, .int .i64 x.2] 38)).alloc (.cells #[.int .i64 y.1, .int .i64 y.2] 38)).cell? ⟨W.heap.size + 1, 1, none⟩ = some (.int .i64 y.2) := by go_simp
  have HQ : Hid (∃ q os', ((W.alloc (.cells #[.int .i64 x.1, .int .i64 x.2] 38)).alloc (.cells #[.int .i64 y.1, .int .i64 y.2] 38)) = grow (W.drewN q) os') := Lib.hid ⟨0, _, by rw [alloc_eq_grow, alloc_eq_grow, grow_grow]; rfl⟩
  obtain ⟨g, hg⟩ : ∃ g, W.heap.size = g := ⟨_, rfl⟩
  obtain ⟨V, hV⟩ : ∃ V, (W.alloc (.cells #[.int .i64 x.1, .int .i64 x.2] 38)).alloc (.cells #[.int .i64 y.1, .int .i64 y.2] 38) = V := ⟨_, rfl⟩
  rw [hV, hg] at u0 u1 u2 u3
  rw [hV] at HQ
  have HQ2 : Hid (∃ q os', V.drew = grow (W.drewN q) os') := by
    obtain ⟨q, os, h⟩ := HQ.out
    exact Lib.hid ⟨q + 1, os, by rw [h]; rfl⟩
  have HQ3 : ∀ o, Hid (∃ q os', V.alloc o = grow (W.drewN q) os') := by
    intro o
    obtain ⟨q, os, h⟩ := HQ.out
    exact Lib.hid ⟨q, _, by rw [h, alloc_eq_grow, grow_grow]⟩
  have HQ4 : ∀ o, Hid (∃ q os', (V.alloc o).drew = grow (W.drewN q) os') := by
    intro o
    obtain ⟨q, os, h⟩ := (HQ3 o).out
    exact Lib.hid ⟨q + 1, os, by rw [h]; rfl⟩
  have y0 : V.drew.cell? ⟨g, 0, none⟩ = some (.int .i64 x.1) := u0
  have y1 : V.drew.cell? ⟨g, 1, none⟩ = some (.int .i64 x.2) := u1
  have y2 : V.drew.cell? ⟨g + 1, 0, none⟩ = some (.int .i64 y.1) := u2
  have y3 : V.drew.cell? ⟨g + 1, 1, none⟩ = some (.int .i64 y.2) := u3
  have hk : ∀ (o : Obj) b i v, V.cell? ⟨b, i, none⟩ = some v → (V.alloc o).cell? ⟨b, i, none⟩ = some v := fun o b i v h => (bcell (below_new V o) b i (World.block_lt_of_cell? _ _ h)).trans h
  have Z := fun o => Lib.hid (And.intro (hk o _ _ _ u0) (And.intro (hk o _ _ _ u1) (And.intro (hk o _ _ _ u2) (hk o _ _ _ u3))))
  have k0 : (V.alloc (.cells #[.int .i64 r1, .int .i64 r2] 3)).cell? ⟨V.heap.size, 0, none⟩ = some (.int .i64 r1) := by go_simp
  have k1 : (V.alloc (.cells #[.int .i64 r1, .int .i64 r2] 3)).cell? ⟨V.heap.size, 1, none⟩ = some (.int .i64 r2) := by go_simp
  have or1 := or_any V.heap.size r1 r2 _ k0 k1
  have or2 := or_any V.heap.size r1 r2 (V.alloc (.cells #[.int .i64 r1, .int .i64 r2] 3)).drew k0 k1
  rw [hr] at or1 or2
  have OR1 := Lib.hid or1; have OR2 := Lib.hid or2
  rw [hV, hg]
  clear hV hg hk k0 k1 or1 or2 hr
  go_region_held3 (fun U => U.cell? ⟨g, 0, none⟩ = some (.int .i64 x.1) ∧ U.cell? ⟨g, 1, none⟩ = some (.int .i64 x.2) ∧ U.cell? ⟨g + 1, 0, none⟩ = some (.int .i64 y.1) ∧ U.cell? ⟨g + 1, 1, none⟩ = some (.int .i64 y.2) ∧ Hid (∃ q os', U = grow (W.drewN q) os'))
    (first | exact ⟨u0, u1, u2, u3, HQ⟩ | exact ⟨y0, y1, y2, y3, HQ2⟩ | exact ⟨(Z _).out.1, (Z _).out.2.1, (Z _).out.2.2.1, (Z _).out.2.2.2, HQ3 _⟩ | exact ⟨(Z _).out.1, (Z _).out.2.1, (Z _).out.2.2.1, (Z _).out.2.2.2, HQ4 _⟩)
    (first
      | (go_at_call 28; (with_reducible refine (C1.out _).mono ?_); rintro e U ⟨rfl, rfl⟩)
      | (go_at_call 28; (with_reducible refine (C2.out _).mono ?_); rintro e U ⟨rfl, rfl⟩)
      | (go_at_call 27; (with_reducible refine OR1.out.mono ?_); rintro e U ⟨rfl, rfl⟩)
      | (go_at_call 27; (with_reducible refine OR2.out.mono ?_); rintro e U ⟨rfl, rfl⟩))
  go_wp2
  go_ret
  exact ⟨rfl, (HQ4 _).out⟩
end Go.Proofs.Ytioncjnjhmnlaaa
