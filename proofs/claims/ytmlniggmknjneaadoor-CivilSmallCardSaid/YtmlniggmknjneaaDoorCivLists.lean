/-
  The walk of the law's lists.
-/
import Derived.Test.YtmlniggmknjneaaDoorCivSmall
import Derived.OwnWalk
namespace Go.Proofs.YtmlniggmknjneaaDoor
open Go.RowKit
set_option linter.unusedVariables false

def tri (i n : Nat) : List Int := (List.range n).map fun (t : Nat) => if t < i then 3 * (t : Int) else 0
theorem tri_len (i n : Nat) : (tri i n).length = n := by simp [tri]
theorem tri_at (i n t : Nat) (h : t < n) : (tri i n).getD t 0 = if t < i then 3 * (t : Int) else 0 := by
  simp [tri, List.getD_eq_getElem?_getD, h]
theorem tri_zero (n : Nat) : (tri 0 n).map (Value.int .i64) = List.replicate n (.int .i64 0) := by
  simp [tri, List.map_map]
  apply List.ext_getElem <;> simp
theorem tri_set (i n : Nat) (h : i < n) : ((tri i n).map (Value.int .i64)).set i (.int .i64 (3 * (i : Int))) = (tri (i + 1) n).map (Value.int .i64) := by
  apply List.ext_getElem
  · simp [tri]
  · intro t h1 h2
    simp [tri, List.getElem_set]
    have ht : t < n := by simpa [tri] using h2
    by_cases e : i = t
    · subst e; simp
    · rw [if_neg e]
      by_cases c : t < i
      · rw [if_pos c, if_pos (by omega)]
      · rw [if_neg c, if_neg (by omega)]
def thr (n : Nat) : List Int := (List.range n).map fun (t : Nat) => 3 * (t : Int)
theorem thr_len (n : Nat) : (thr n).length = n := by simp [thr]
theorem tri_all (n : Nat) : tri n n = thr n := by
  unfold tri thr
  apply List.map_congr_left
  intro t ht
  rw [if_pos (by simpa using ht)]
theorem thr_succ (n : Nat) : thr (n + 1) = thr n ++ [3 * (n : Int)] := by simp [thr, List.range_succ]
theorem thr_le (n : Nat) : ∀ x ∈ thr n, x ≤ 3 * (n : Int) - 3 ∧ 0 ≤ x := by
  intro x hx
  simp [thr] at hx
  obtain ⟨t, ht, rfl⟩ := hx
  omega
theorem thr_rgt (n : Nat) (h : n ≤ 2000) : Cv.rgt (-1) (thr n) = true := by
  induction n with
  | zero => rfl
  | succ k ih =>
    rw [thr_succ]
    refine rgt_snoc (-1) (thr k) (3 * (k : Int) - 1) (3 * (k : Int)) (ih (by omega)) ?_ (by omega) (by omega) (by omega)
    intro x hx
    have := (thr_le k x hx).1
    omega
theorem thr_right (n : Nat) (h : n ≤ 2000) : Cv.rightB (thr n) = decide (n ≤ 1000) := by
  unfold Cv.rightB
  rw [thr_rgt n h, thr_len]; simp

/-- what Between and Ahead answer at such a list -/
structure ListAns (n : Nat) (m e k f : Int) : Prop where
  yes : n ≤ 1000 → e = 0 ∧ f = 0
  no : ¬ n ≤ 1000 → m = 0 ∧ e = 2 ∧ k = 0 ∧ f = 2
def PostB (n : Nat) (W : World) (r : Ending) (w' : World) : Prop :=
  ∃ m e : Int, r = .returned (.tuple #[.int .i64 m, .int .i64 e]) ∧ (n ≤ 1000 → e = 0) ∧ (¬ n ≤ 1000 → m = 0 ∧ e = 2) ∧ Below W.heap.size W w'
theorem list_between (A : Option Addr) (cap n : Nat) (w : World) (hr : Rd w A (thr n)) (h : n ≤ 2000) :
    Calls Tryd.prog 34 #[.int .i64 0, .int .i64 7000, .slice A n cap] w (PostB n w) := by
  have hl := thr_len n
  by_cases c : n ≤ 1000
  · have := between_yes 0 7000 A cap (thr n) w hr (by rw [thr_right n h]; exact decide_eq_true c) (by omega) (by omega) (by omega)
    rw [hl] at this
    refine this.mono ?_
    rintro e w' ⟨rfl, hb⟩
    exact ⟨_, _, rfl, fun _ => rfl, fun x => absurd c x, hb⟩
  · have := between_no 0 7000 A cap (thr n) w hr (by omega) (by rw [thr_right n h, decide_eq_false c]; simp)
    rw [hl] at this
    refine this.mono ?_
    rintro e w' ⟨rfl, rfl⟩
    exact ⟨_, _, rfl, fun x => absurd x c, fun _ => ⟨rfl, rfl⟩, Below.refl _ _⟩
theorem list_ahead (A : Option Addr) (cap n : Nat) (w : World) (hr : Rd w A (thr n)) (h : n ≤ 2000) :
    Calls Tryd.prog 36 #[.int .i64 0, .int .i64 0, .slice A n cap] w (PostB n w) := by
  have hl := thr_len n
  by_cases c : n ≤ 1000
  · have := ahead_all 0 0 A cap (thr n) w hr (by rw [thr_right n h]; exact decide_eq_true c) (by omega) (by omega) (by omega)
    rw [hl] at this
    refine this.mono ?_
    rintro e w' ⟨r, er, rfl, ha, hb⟩
    refine ⟨_, _, rfl, fun _ => ?_, fun x => absurd c x, hb⟩
    rcases ha with ⟨rfl, -⟩ | ⟨-, -, hx⟩
    · rfl
    · have h1 := Cv.hcnt_bd 730485 (thr n)
      have h2 := Cv.hcnt_bd 0 (thr n)
      unfold Cv.wif at hx
      omega
  · have := ahead_no 0 0 A cap (thr n) w hr (by omega) (by rw [thr_right n h, decide_eq_false c]; simp)
    rw [hl] at this
    refine this.mono ?_
    rintro e w' ⟨rfl, hb⟩
    exact ⟨_, _, rfl, fun x => absurd x c, fun _ => ⟨rfl, rfl⟩, hb⟩
theorem list_right (A : Option Addr) (cap n : Nat) (w : World) (hr : Rd w A (thr n)) (h : n ≤ 2000) :
    Calls Tryd.prog 40 #[.slice A n cap] w fun e w' => e = .returned (.bool (decide (n ≤ 1000))) ∧ w = w' := by
  have := right_any A cap (thr n) w hr (by rw [thr_len]; omega)
  rw [thr_right n h, thr_len] at this
  exact this

/-- a block of slices of numbers -/
structure Rows6 (w : World) (b n : Nat) : Prop where
  lt : b < w.heap.size
  cells : ∀ j, j < n → ∃ (A : Option Addr) (zs : List Int) (cap : Nat), w.cell? ⟨b, j, none⟩ = some (.slice A zs.length cap) ∧ Rd w A zs ∧ (A = none → zs.length = 0 ∧ cap = 0)
theorem Rows6.below {w w1 : World} {b n : Nat} (h : Rows6 w b n) (hb : Below w.heap.size w w1) : Rows6 w1 b n :=
  ⟨by have := hb.size; have := h.lt; omega, fun j hj => by obtain ⟨A, zs, cap, h1, h2, h3⟩ := h.cells j hj; exact ⟨A, zs, cap, (bcell hb b j h.lt).trans h1, h2.below hb, h3⟩⟩

theorem rd_own {w : World} {g n : Nat} (h : w.ownsRow g 3 1 (.slice (some ⟨g, 0, none⟩) n n) n ((thr n).map (Value.int .i64))) : Rd w (some ⟨g, 0, none⟩) (thr n) := by
  obtain ⟨A, cap, e, -, hr⟩ := own_rd h
  have : A = some ⟨g, 0, none⟩ := by
    simp at e
    exact e.1.symm
  rw [this] at hr
  exact hr

set_option maxRecDepth 100000 in
set_option maxHeartbeats 4000000 in
theorem lists_any (w : World) (hw : Rdy w) :
    Calls Tryd.prog 25 #[] w fun e w' => e = .returned (.bool true) ∧ Below w.heap.size w w' := by
  have R0 := Lib.hid hw; clear hw
  obtain ⟨i0, hi, hz0, hz1, hz2⟩ := info_parts infoInt
  go_enter Tryd.func25, Tryd.ntmps25
  go_wp2_with fail
  have hB1 := (Below.refl w.heap.size w).alloc (Nat.le_refl _) (.cells #[.int .i64 0, .int .i64 1, .int .i64 1000, .int .i64 1001] 3)
  have HB1 := Lib.hid hB1; clear hB1
  have hc : ∀ j, j < 4 → ∃ n : Nat, n ≤ 1001 ∧ (w.alloc (.cells #[.int .i64 0, .int .i64 1, .int .i64 1000, .int .i64 1001] 3)).cell? ⟨w.heap.size, j, none⟩ = some (.int .i64 (n : Int)) := by
    intro j hj
    rcases (by omega : j = 0 ∨ j = 1 ∨ j = 2 ∨ j = 3) with rfl | rfl | rfl | rfl
    · exact ⟨0, by omega, new_cell _ _ _ _ _ rfl⟩
    · exact ⟨1, by omega, new_cell _ _ _ _ _ rfl⟩
    · exact ⟨1000, by omega, new_cell _ _ _ _ _ rfl⟩
    · exact ⟨1001, by omega, new_cell _ _ _ _ _ rfl⟩
  have hlt := new_lt w (.int .i64 0) #[.int .i64 0, .int .i64 1, .int .i64 1000, .int .i64 1001] 3 rfl
  have HC := Lib.hid hc; clear hc
  generalize hW2 : World.alloc w _ = W2 at *
  clear hW2
  go_loopw [14] (fun y wr => ∃ j : Nat, j ≤ 4 ∧ y = .int .i64 j ∧ Hid (Below W2.heap.size W2 wr)) (fun y _ => 4 - (intOf y).toNat)
  case atStart => exact ⟨0, by omega, rfl, Lib.hid (Below.refl _ _)⟩
  case round =>
    obtain ⟨j, hj, rfl, HB⟩ := hrel
    by_cases hj2 : j < 4
    · obtain ⟨n, hn, hc⟩ := HC.out j hj2
      have hc1 := (bcell HB.out w.heap.size j hlt).trans hc
      have hj3 : decide ((j : Int) < 4) = true := decide_eq_true (by omega)
      clear hc
      go_wp2_with (at_make; refine wpList_make_full _ rfl _ _ 34 rfl wr.heap.size 3 i0 (.int .i64 0) 1 Tryd.underlying34 hi hz0 hz1 _ _ _ _ n rfl rfl rfl rfl ?b1 ?b2 ?b3 ?_)
      case b1 => rw [hz2]; omega
      case b2 => unfold maxLen; omega
      case b3 => exact Nat.le_refl _
      intro w1 hown hgrow
      have hB3 := HB.out.trans (((Below.refl wr.heap.size wr).grown hgrow (Nat.le_refl _) (fun k hk => by cases hk)).mono HB.out.size)
      have HB3 := Lib.hid hB3; clear hB3
      have hsz := HB.out.size
      rw [toList_madeCells_one, ← tri_zero] at hown
      clear hgrow hc1
      generalize wr.heap.size = g at *
      go_wp2_with fail
      clear HB
      go_loopw [22] (fun y wr => ∃ i : Nat, i ≤ n ∧ y = .int .i64 i ∧ Hid (wr.ownsRow g 3 1 (.slice (some ⟨g, 0, none⟩) n n) n ((tri i n).map (Value.int .i64))) ∧ Hid (Below W2.heap.size W2 wr)) (fun y _ => n - (intOf y).toNat)
      case atStart => exact ⟨0, by omega, rfl, hown, HB3⟩
      case round =>
        obtain ⟨i, hi0, rfl, HO, HB⟩ := hrel
        by_cases hin : i < n
        · have hcell : wr.cell? ⟨g, i, none⟩ = some (.int .i64 ((tri i n).getD i 0)) := by
            have hc := HO.out.cells (g := g) rfl i (.int .i64 ((tri i n).getD i 0)) (by
              have hl2 : i < (tri i n).length := by rw [tri_len]; exact hin
              rw [List.getElem?_map, List.getElem?_eq_getElem hl2, List.getD_eq_getElem?_getD, List.getElem?_eq_getElem hl2]; rfl)
            have e : (⟨g, 0, none⟩ : Addr).add i = ⟨g, 0 + i, none⟩ := by unfold Addr.add; split <;> simp [*]
            rw [e, Nat.zero_add] at hc; exact hc
          generalize (tri i n).getD i 0 = old at hcell
          have hfr := HO.out.frozenAt i
          have hst := (HO.out.stored i (.int .i64 (3 * (i : Int)))).1
          rw [tri_set i n hin] at hst
          have HST := Lib.hid hst; clear hst
          have HBS := Lib.hid (HB.out.setCell (p := ⟨g, i, none⟩) hsz (.int .i64 (3 * (i : Int))))
          have hin2 : (i : Int) < (n : Int) := by omega
          go_wp2_with fail
          exact ⟨⟨i + 1, by omega, by go_num, HST, HBS⟩, by simp [intOf]; omega⟩
        · have hie : i = n := by omega
          subst hie
          rw [tri_all] at HO
          have HR := Lib.hid (rd_own HO.out)
          go_wp2_with fail
          refine (list_between (some ⟨g, 0, none⟩) i i wr HR.out (by omega)).mono ?_
          rintro e w4 ⟨m, e4, rfl, hy4, hno4, hb⟩
          have HR4 := Lib.hid (HR.out.below hb)
          have HB4 := Lib.hid (HB.out.trans (hb.mono HB.out.size))
          clear hb
          have HY4 := Lib.hid hy4; have HN4 := Lib.hid hno4; clear hy4 hno4
          go_wp2_with fail
          refine (list_ahead (some ⟨g, 0, none⟩) i i w4 HR4.out (by omega)).mono ?_
          rintro e w5 ⟨k, f5, rfl, hy5, hno5, hb⟩
          have HR5 := Lib.hid (HR4.out.below hb)
          have HB5 := Lib.hid (HB4.out.trans (hb.mono HB4.out.size))
          clear hb
          have HRT := Lib.hid (list_right (some ⟨g, 0, none⟩) i i w5 HR5.out (by omega))
          by_cases c : i ≤ 1000
          · have h1 := HY4.out c
            have h2 := hy5 c
            subst h1; subst h2
            have ci : (i : Int) ≤ 1000 := by omega
            have HRT2 := HRT.out
            rw [decide_eq_true c] at HRT2
            have HRT3 := Lib.hid HRT2
            clear HRT HRT2 hy5 hno5 HY4 HN4
            go_wp2_with fail
            refine HRT3.out.mono ?_
            rintro e w' ⟨rfl, rfl⟩
            go_wp2_with fail
            exact ⟨⟨j + 1, by omega, by go_num, HB5⟩, by simp [intOf]; omega⟩
          · obtain ⟨rfl, rfl⟩ := HN4.out c
            obtain ⟨rfl, rfl⟩ := hno5 c
            have ci : decide ((i : Int) ≤ 1000) = false := decide_eq_false (by omega)
            have ci2 : decide (i ≤ 1000) = false := decide_eq_false c
            have HRT2 := HRT.out
            rw [decide_eq_false c] at HRT2
            have HRT3 := Lib.hid HRT2
            clear HRT HRT2 hy5 hno5 HY4 HN4 c
            go_wp2_with fail
            refine HRT3.out.mono ?_
            rintro e w' ⟨rfl, rfl⟩
            go_wp2_with fail
            exact ⟨⟨j + 1, by omega, by go_num, HB5⟩, by simp [intOf]; omega⟩
    · have hj4 : decide ((j : Int) < 4) = false := decide_eq_false (by omega)
      go_wp2_with fail
      obtain ⟨A0, hA0⟩ : ∃ x : World, x = wr := ⟨_, rfl⟩
      rw [← hA0]
      have BB0 : Below w.heap.size w A0 := by rw [hA0]; exact HB1.out.trans (HB.out.mono HB1.out.size)
      clear hA0 HB HC HB1 hlt
      obtain ⟨A1, hA1⟩ : ∃ x, x = A0.alloc (Obj.cells #[Value.int .i64 0, Value.int .i64 0] 3) := ⟨_, rfl⟩
      rw [← hA1]
      have s1 : A1.heap.size = A0.heap.size + 1 := by rw [hA1]; simp
      have r1 : Rd A1 (some ⟨A0.heap.size, 0, none⟩) [0, 0] := by rw [hA1]; exact rd_new A0 [0, 0] 3
      have b1 : Below A0.heap.size A0 A1 := by rw [hA1]; exact (Below.refl _ _).alloc (Nat.le_refl _) _
      rw [← s1]
      clear hA1
      obtain ⟨A2, hA2⟩ : ∃ x, x = A1.alloc (Obj.cells #[Value.int .i64 5, Value.int .i64 4] 3) := ⟨_, rfl⟩
      rw [← hA2]
      have s2 : A2.heap.size = A1.heap.size + 1 := by rw [hA2]; simp
      have r2 : Rd A2 (some ⟨A1.heap.size, 0, none⟩) [5, 4] := by rw [hA2]; exact rd_new A1 [5, 4] 3
      have b2 : Below A1.heap.size A1 A2 := by rw [hA2]; exact (Below.refl _ _).alloc (Nat.le_refl _) _
      rw [← s2]
      clear hA2
      obtain ⟨A3, hA3⟩ : ∃ x, x = A2.alloc (Obj.cells #[Value.int .i64 (-1)] 3) := ⟨_, rfl⟩
      rw [← hA3]
      have s3 : A3.heap.size = A2.heap.size + 1 := by rw [hA3]; simp
      have r3 : Rd A3 (some ⟨A2.heap.size, 0, none⟩) [-1] := by rw [hA3]; exact rd_new A2 [-1] 3
      have b3 : Below A2.heap.size A2 A3 := by rw [hA3]; exact (Below.refl _ _).alloc (Nat.le_refl _) _
      rw [← s3]
      clear hA3
      obtain ⟨A4, hA4⟩ : ∃ x, x = A3.alloc (Obj.cells #[Value.int .i64 730485] 3) := ⟨_, rfl⟩
      rw [← hA4]
      have s4 : A4.heap.size = A3.heap.size + 1 := by rw [hA4]; simp
      have r4 : Rd A4 (some ⟨A3.heap.size, 0, none⟩) [730485] := by rw [hA4]; exact rd_new A3 [730485] 3
      have b4 : Below A3.heap.size A3 A4 := by rw [hA4]; exact (Below.refl _ _).alloc (Nat.le_refl _) _
      rw [← s4]
      clear hA4
      obtain ⟨A5, hA5⟩ : ∃ x, x = A4.alloc (Obj.cells #[Value.int .i64 730484] 3) := ⟨_, rfl⟩
      rw [← hA5]
      have s5 : A5.heap.size = A4.heap.size + 1 := by rw [hA5]; simp
      have r5 : Rd A5 (some ⟨A4.heap.size, 0, none⟩) [730484] := by rw [hA5]; exact rd_new A4 [730484] 3
      have b5 : Below A4.heap.size A4 A5 := by rw [hA5]; exact (Below.refl _ _).alloc (Nat.le_refl _) _
      rw [← s5]
      clear hA5
      obtain ⟨A6, hA6⟩ : ∃ x, x = A5.alloc (Obj.cells #[Value.int .i64 0, Value.int .i64 730484] 3) := ⟨_, rfl⟩
      rw [← hA6]
      have s6 : A6.heap.size = A5.heap.size + 1 := by rw [hA6]; simp
      have r6 : Rd A6 (some ⟨A5.heap.size, 0, none⟩) [0, 730484] := by rw [hA6]; exact rd_new A5 [0, 730484] 3
      have b6 : Below A5.heap.size A5 A6 := by rw [hA6]; exact (Below.refl _ _).alloc (Nat.le_refl _) _
      rw [← s6]
      clear hA6
      have b7 : Below A6.heap.size A6 (A6.alloc (Obj.cells #[Value.slice (some ⟨A0.heap.size, 0, none⟩) 2 2, Value.slice (some ⟨A1.heap.size, 0, none⟩) 2 2, Value.slice (some ⟨A2.heap.size, 0, none⟩) 1 1, Value.slice (some ⟨A3.heap.size, 0, none⟩) 1 1, Value.slice (some ⟨A4.heap.size, 0, none⟩) 1 1, Value.slice (some ⟨A5.heap.size, 0, none⟩) 2 2] 34)) := (Below.refl _ _).alloc (Nat.le_refl _) _
      have l7 := new_lt A6 (.slice (some ⟨A0.heap.size, 0, none⟩) 2 2) (t := 34) (cs := #[Value.slice (some ⟨A0.heap.size, 0, none⟩) 2 2, Value.slice (some ⟨A1.heap.size, 0, none⟩) 2 2, Value.slice (some ⟨A2.heap.size, 0, none⟩) 1 1, Value.slice (some ⟨A3.heap.size, 0, none⟩) 1 1, Value.slice (some ⟨A4.heap.size, 0, none⟩) 1 1, Value.slice (some ⟨A5.heap.size, 0, none⟩) 2 2]) rfl
      have hrows : Rows6 (A6.alloc (Obj.cells #[Value.slice (some ⟨A0.heap.size, 0, none⟩) 2 2, Value.slice (some ⟨A1.heap.size, 0, none⟩) 2 2, Value.slice (some ⟨A2.heap.size, 0, none⟩) 1 1, Value.slice (some ⟨A3.heap.size, 0, none⟩) 1 1, Value.slice (some ⟨A4.heap.size, 0, none⟩) 1 1, Value.slice (some ⟨A5.heap.size, 0, none⟩) 2 2] 34)) A6.heap.size 6 := by
        refine ⟨l7, fun k hk => ?_⟩
        rcases (by omega : k = 0 ∨ k = 1 ∨ k = 2 ∨ k = 3 ∨ k = 4 ∨ k = 5) with rfl | rfl | rfl | rfl | rfl | rfl
        · exact ⟨some ⟨A0.heap.size, 0, none⟩, [0, 0], 2, new_cell A6 _ _ _ _ rfl, ((((((r1.below b2).below b3).below b4).below b5).below b6).below b7), fun h => by cases h⟩
        · exact ⟨some ⟨A1.heap.size, 0, none⟩, [5, 4], 2, new_cell A6 _ _ _ _ rfl, (((((r2.below b3).below b4).below b5).below b6).below b7), fun h => by cases h⟩
        · exact ⟨some ⟨A2.heap.size, 0, none⟩, [-1], 1, new_cell A6 _ _ _ _ rfl, ((((r3.below b4).below b5).below b6).below b7), fun h => by cases h⟩
        · exact ⟨some ⟨A3.heap.size, 0, none⟩, [730485], 1, new_cell A6 _ _ _ _ rfl, (((r4.below b5).below b6).below b7), fun h => by cases h⟩
        · exact ⟨some ⟨A4.heap.size, 0, none⟩, [730484], 1, new_cell A6 _ _ _ _ rfl, ((r5.below b6).below b7), fun h => by cases h⟩
        · exact ⟨some ⟨A5.heap.size, 0, none⟩, [0, 730484], 2, new_cell A6 _ _ _ _ rfl, (r6.below b7), fun h => by cases h⟩
      have hbel : Below w.heap.size w (A6.alloc (Obj.cells #[Value.slice (some ⟨A0.heap.size, 0, none⟩) 2 2, Value.slice (some ⟨A1.heap.size, 0, none⟩) 2 2, Value.slice (some ⟨A2.heap.size, 0, none⟩) 1 1, Value.slice (some ⟨A3.heap.size, 0, none⟩) 1 1, Value.slice (some ⟨A4.heap.size, 0, none⟩) 1 1, Value.slice (some ⟨A5.heap.size, 0, none⟩) 2 2] 34)) := by
        have q0 := BB0.size
        have q1 := BB0.trans (b1.mono q0)
        have q2 := q1.trans (b2.mono q1.size)
        have q3 := q2.trans (b3.mono q2.size)
        have q4 := q3.trans (b4.mono q3.size)
        have q5 := q4.trans (b5.mono q4.size)
        have q6 := q5.trans (b6.mono q5.size)
        exact q6.trans (b7.mono q6.size)
      have HRW := Lib.hid hrows; have HBB := Lib.hid hbel
      clear hrows hbel b1 b2 b3 b4 b5 b6 b7 l7 r1 r2 r3 r4 r5 r6 s1 s2 s3 s4 s5 s6 BB0
      generalize World.alloc A6 _ = A7 at *
      generalize A6.heap.size = bb at *
      go_loopw [86] (fun y wr => ∃ i : Nat, i ≤ 6 ∧ y = .int .i64 i ∧ Hid (Rows6 wr bb 6) ∧ Hid (Below w.heap.size w wr)) (fun y _ => 6 - (intOf y).toNat)
      case atStart => exact ⟨0, by omega, rfl, HRW, HBB⟩
      case round =>
        obtain ⟨i, hi0, rfl, HR2, HB2⟩ := hrel
        by_cases hi2 : i < 6
        · obtain ⟨A, zs, cap, hc, hrd, hnone⟩ := HR2.out.cells i hi2
          have HRD := Lib.hid hrd; have HNO := Lib.hid hnone
          clear hrd hnone
          go_wp2_with fail
          refine (works_law A cap zs 0 9 3 101 101 wr (R0.out.below HB2.out) HRD.out HNO.out (by omega) (by omega) (by omega) (by omega) (by omega) (by omega)).mono ?_
          rintro e w7 ⟨rfl, hb⟩
          have HR3 := Lib.hid (HR2.out.below hb)
          have HB3 := Lib.hid (HB2.out.trans (hb.mono HB2.out.size))
          clear hb
          go_wp2_with fail
          exact ⟨⟨i + 1, by omega, by go_num, HR3, HB3⟩, by simp [intOf]; omega⟩
        · go_wp2_with fail
          refine (awake_any wr (R0.out.below HB2.out)).mono ?_
          rintro e w8 ⟨rfl, hb⟩
          have HB3 := Lib.hid (HB2.out.trans (hb.mono HB2.out.size))
          clear hb
          go_wp2_with fail
          go_ret
          exact ⟨rfl, HB3.out⟩

theorem walk_civilSmall (w : World) (hw : Rdy w) :
    Calls Tryd.prog 6 #[] w fun e w' => e = .returned (.bool true) ∧ Below w.heap.size w w' :=
  small_of lists_any w hw

end Go.Proofs.YtmlniggmknjneaaDoor
