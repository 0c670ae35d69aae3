/-
  The walk of the law CivilAdds.
-/
import Derived.Test.YtmlniggmknjneaaDoorCivAhead
namespace Go.Proofs.YtmlniggmknjneaaDoor
open Go.RowKit
set_option linter.unusedVariables false

theorem hcnt_snoc (a d l : Int) (ys : List Int) (h : Cv.rgt a (ys ++ [l]) = true) : Cv.hcnt d (ys ++ [l]) = Cv.hcnt d ys + if l < d ∧ l % 7 < 5 then 1 else 0 := by
  induction ys generalizing a with
  | nil =>
    simp only [List.nil_append, Cv.hcnt]
    by_cases c : d ≤ l
    · rw [if_pos c, if_neg (by omega)] <;> rfl
    · rw [if_neg c]
      by_cases c2 : l % 7 < 5
      · rw [if_pos c2, if_pos ⟨by omega, c2⟩] <;> omega
      · rw [if_neg c2, if_neg (fun x => c2 x.2)] <;> omega
  | cons y t ih =>
    rw [List.cons_append] at h ⊢
    obtain ⟨h1, h2, h3⟩ := (Cv.rgt_cons _ _ _).1 h
    have hm := Cv.rgt_mem y (t ++ [l]) h3 l (by simp)
    simp only [Cv.hcnt]
    by_cases c : d ≤ y
    · rw [if_pos c, if_pos c, if_neg (by omega)]; rfl
    · rw [if_neg c, if_neg c, ih y h3]; omega
theorem rgt_init (a l : Int) (ys : List Int) (h : Cv.rgt a (ys ++ [l]) = true) : Cv.rgt a ys = true ∧ (∀ x ∈ ys, x < l) ∧ a < l ∧ l ≤ 730484 := by
  induction ys generalizing a with
  | nil =>
    obtain ⟨h1, h2, h3⟩ := (Cv.rgt_cons _ _ _).1 h
    exact ⟨rfl, by simp, h1, h2⟩
  | cons y t ih =>
    rw [List.cons_append] at h
    obtain ⟨h1, h2, h3⟩ := (Cv.rgt_cons _ _ _).1 h
    obtain ⟨i1, i2, i3, i4⟩ := ih y h3
    refine ⟨by rw [Cv.rgt_cons]; exact ⟨h1, h2, i1⟩, ?_, by omega, i4⟩
    intro x hx
    rcases List.mem_cons.1 hx with rfl | hx
    · exact i3
    · exact i2 x hx
/-- what a last holiday more does -/
theorem last_one (ys : List Int) (l : Int) (h : Cv.rightB (ys ++ [l]) = true) :
    Cv.rightB ys = true ∧ 0 ≤ l ∧ l ≤ 730484 ∧ Cv.wif ys 730484 = Cv.wif (ys ++ [l]) 730484 + (if Cv.isW ys l = true ∧ l < 730484 then 1 else 0) := by
  obtain ⟨h1, h2⟩ := right_parts h
  obtain ⟨r1, r2, r3, r4⟩ := rgt_init _ _ _ h2
  refine ⟨?_, by omega, r4, ?_⟩
  · unfold Cv.rightB; rw [r1, decide_eq_true (by simp at h1; omega)]; rfl
  · unfold Cv.wif
    rw [hcnt_snoc _ _ _ _ h2]
    have hc : ys.contains l = false := by
      cases hcc : ys.contains l
      · rfl
      · have := r2 l (by simpa using hcc); omega
    have hi : Cv.isW ys l = true ↔ l % 7 < 5 := by unfold Cv.isW; rw [hc]; simp
    simp only [hi]
    by_cases c1 : l % 7 < 5 <;> by_cases c2 : l < 730484
    · rw [if_pos ⟨c2, c1⟩, if_pos ⟨c1, c2⟩]; omega
    · rw [if_neg (fun x => c2 x.1), if_neg (fun x => c2 x.2)]; omega
    · rw [if_neg (fun x => c1 x.2), if_neg (fun x => c1 x.1)]; omega
    · rw [if_neg (fun x => c1 x.2), if_neg (fun x => c1 x.1)]; omega
theorem wif_zero (zs : List Int) (h : Cv.rightB zs = true) : Cv.wif zs 0 = 0 := by
  have h2 := (right_parts h).2
  unfold Cv.wif
  cases zs with
  | nil => rfl
  | cons y t =>
    obtain ⟨h3, -, -⟩ := (Cv.rgt_cons _ _ _).1 h2
    simp only [Cv.hcnt]
    rw [if_pos (by omega)]; omega
theorem wif_weeks (a k : Int) (h0 : 0 ≤ a) : Cv.wif [] (a + k * 7) - Cv.wif [] a = k * 5 := by
  unfold Cv.wif; simp only [Cv.hcnt]; omega

set_option maxRecDepth 100000 in
set_option maxHeartbeats 4000000 in
theorem walk_civilAdds (w : World) (a0 : Option Addr) (len0 cap0 : Nat) (z0 : List Int) (w0 : IsRow .u16 w a0 len0 cap0 z0) (a1 : Int) (w1 : (Lit.int .i64 a1).wf = true) (a2 : Int) (w2 : (Lit.int .i64 a2).wf = true) (a3 : Int) (w3 : (Lit.int .i64 a3).wf = true) (hw : Rdy w) :
    Calls Tryd.prog 10 #[.slice a0 len0 cap0, .int .i64 a1, .int .i64 a2, .int .i64 a3] w fun e w' => e = .returned (.bool true) ∧ Below w.heap.size w w' := by
  have b1 := int_bd w1
  have b2 := int_bd w2
  have b3 := int_bd w3
  clear w1 w2 w3
  have R0 := Lib.hid hw; clear hw
  have W0 := Lib.hid w0; clear w0
  obtain ⟨x, hx⟩ : ∃ d, d = a1 % 730485 := ⟨_, rfl⟩
  obtain ⟨y, hy⟩ : ∃ d, d = a2 % 730485 := ⟨_, rfl⟩
  obtain ⟨z, hz⟩ : ∃ d, d = a3 % 730485 := ⟨_, rfl⟩
  have hp0 : ∀ W, Calls Tryd.prog 33 #[.int .i64 a1] W fun e w' => e = .returned (.int .i64 x) ∧ W = w' := by
    intro W; rw [hx]; exact lawDay_any a1 W (by omega) (by omega)
  have hp1 : ∀ W, Calls Tryd.prog 33 #[.int .i64 a2] W fun e w' => e = .returned (.int .i64 y) ∧ W = w' := by
    intro W; rw [hy]; exact lawDay_any a2 W (by omega) (by omega)
  have hp2 : ∀ W, Calls Tryd.prog 33 #[.int .i64 a3] W fun e w' => e = .returned (.int .i64 z) ∧ W = w' := by
    intro W; rw [hz]; exact lawDay_any a3 W (by omega) (by omega)
  have x0 : 0 ≤ x := by omega
  have x1 : x ≤ 730484 := by omega
  have y0 : 0 ≤ y := by omega
  have y1 : y ≤ 730484 := by omega
  have z0' : 0 ≤ z := by omega
  have z1 : z ≤ 730484 := by omega
  clear hx hy hz b1 b2 b3
  have P0 := Lib.hid hp0; clear hp0
  have P1 := Lib.hid hp1; clear hp1
  have P2 := Lib.hid hp2; clear hp2
  go_enter Tryd.func10, Tryd.ntmps10
  go_wp2_with (first
    | (go_at_call 19; refine (awake_any _ R0.out).mono ?_; rintro e w1 ⟨rfl, hb1⟩; have B1 := Lib.hid hb1; clear hb1)
    | (go_at_call 32; refine (list_row a0 len0 cap0 z0 w w1 W0.out B1.out).mono ?_; rintro e w2 ⟨A, cap, zs, rfl, hcap, hrd, hri, hb2⟩; have D2 := Lib.hid hrd; have HI := Lib.hid hri; have B2 := Lib.hid (B1.out.trans (hb2.mono B1.out.size)); clear hb2 hrd hri)
    | (go_at_call 33; (with_reducible refine (P0.out _).mono ?_); rintro e w' ⟨rfl, rfl⟩)
    | (go_at_call 33; (with_reducible refine (P1.out _).mono ?_); rintro e w' ⟨rfl, rfl⟩)
    | (go_at_call 33; (with_reducible refine (P2.out _).mono ?_); rintro e w' ⟨rfl, rfl⟩))
  generalize hp : min x (min y (min (max x y) z)) = p
  generalize hq : max (min x y) (min (max x y) z) = q
  generalize hr : max x (max y z) = r
  obtain ⟨o1, o2, o3, o4⟩ : 0 ≤ p ∧ p ≤ q ∧ q ≤ r ∧ r ≤ 730484 := by omega
  clear hp hq hr x0 x1 y0 y1 z0' z1 P0 P1 P2
  have hb0 := Cv.wif_bd zs p o1
  have hb1 := Cv.wif_bd zs q (by omega)
  have hb2 := Cv.wif_bd zs r (by omega)
  have hl1000 := (right_parts HI.out).1
  have hbt1 : ∀ W, Rd W A zs → Calls Tryd.prog 34 #[.int .i64 p, .int .i64 q, .slice A zs.length cap] W fun e w' => e = .returned (.tuple #[.int .i64 (Cv.wif zs q - Cv.wif zs p), .int .i64 0]) ∧ Below W.heap.size W w' :=
    fun W hW => between_yes p q A cap zs W hW HI.out o1 o2 (by omega)
  have hbt2 : ∀ W, Rd W A zs → Calls Tryd.prog 34 #[.int .i64 q, .int .i64 r, .slice A zs.length cap] W fun e w' => e = .returned (.tuple #[.int .i64 (Cv.wif zs r - Cv.wif zs q), .int .i64 0]) ∧ Below W.heap.size W w' :=
    fun W hW => between_yes q r A cap zs W hW HI.out (by omega) o3 o4
  have hbt3 : ∀ W, Rd W A zs → Calls Tryd.prog 34 #[.int .i64 p, .int .i64 r, .slice A zs.length cap] W fun e w' => e = .returned (.tuple #[.int .i64 (Cv.wif zs r - Cv.wif zs p), .int .i64 0]) ∧ Below W.heap.size W w' :=
    fun W hW => between_yes p r A cap zs W hW HI.out o1 (by omega) o4
  have T1 := Lib.hid hbt1; clear hbt1
  have T2 := Lib.hid hbt2; clear hbt2
  have T3 := Lib.hid hbt3; clear hbt3
  refine (T1.out w2 D2.out).mono ?_
  rintro e w3 ⟨rfl, hb3⟩
  have D3 := Lib.hid (D2.out.below hb3)
  have B3 := Lib.hid (B2.out.trans (hb3.mono B2.out.size))
  clear hb3
  go_wp2_with fail
  refine (T2.out w3 D3.out).mono ?_
  rintro e w4 ⟨rfl, hb4⟩
  have D4 := Lib.hid (D3.out.below hb4)
  have B4 := Lib.hid (B3.out.trans (hb4.mono B3.out.size))
  clear hb4
  go_wp2_with fail
  refine (T3.out w4 D4.out).mono ?_
  rintro e w5 ⟨rfl, hb5⟩
  have D5 := Lib.hid (D4.out.below hb5)
  have B5 := Lib.hid (B4.out.trans (hb5.mono B4.out.size))
  clear hb5
  have hne : (Cv.wif zs q - Cv.wif zs p + (Cv.wif zs r - Cv.wif zs q) != Cv.wif zs r - Cv.wif zs p) = false := by rw [bne_eq_false_iff_eq]; omega
  go_wp2_with fail
  clear hne
  clear hb0 hb1 hb2 T1 T2 T3 R0 W0 B1 B2 B3 B4 D2 D3 D4
  have hst := fun d => Cv.wif_step (-1) d zs (right_parts HI.out).2
  have HST := Lib.hid hst; clear hst
  go_loopw [16] (fun i wr => ∃ d : Int, i = .int .i64 d ∧ p ≤ d ∧ d ≤ p + 7 ∧ Hid (Rd wr A zs) ∧ Hid (Below w.heap.size w wr)) (fun i _ => 8 - (intOf i - p).toNat)
  case atStart => exact ⟨p, rfl, by omega, by omega, D5, B5⟩
  case round =>
    obtain ⟨d, rfl, d1, d2, D6, B6⟩ := hrel
    by_cases hd : d < min (p + 7) r
    · have hd7 : d < p + 7 := by omega
      have hdr : d < r := by omega
      have hyes : ∀ W, Rd W A zs → Calls Tryd.prog 35 #[.int .i64 d, .slice A zs.length cap] W fun e w' => e = .returned (.tuple #[.bool (Cv.isW zs d), .int .i64 0]) ∧ Below W.heap.size W w' :=
        fun W hW => works_yes d A cap zs W hW HI.out (by omega) (by omega)
      have hbt : ∀ W, Rd W A zs → Calls Tryd.prog 34 #[.int .i64 d, .int .i64 (d + 1), .slice A zs.length cap] W fun e w' => e = .returned (.tuple #[.int .i64 (if Cv.isW zs d = true then 1 else 0), .int .i64 0]) ∧ Below W.heap.size W w' := by
        intro W hW
        have := between_yes d (d + 1) A cap zs W hW HI.out (by omega) (by omega) (by omega)
        rw [show Cv.wif zs (d + 1) - Cv.wif zs d = if Cv.isW zs d = true then 1 else 0 by have := HST.out d; omega] at this
        exact this
      generalize Cv.isW zs d = o at hyes hbt
      have HY := Lib.hid hyes; clear hyes
      have HT := Lib.hid hbt; clear hbt
      rcases o with _ | _
      · go_wp2_with (first
          | (go_at_call 35; refine (HY.out _ D6.out).mono ?_; rintro e w6 ⟨rfl, hb6⟩; have D7 := Lib.hid (D6.out.below hb6); have B7 := Lib.hid (B6.out.trans (hb6.mono B6.out.size)); clear hb6)
          | (go_at_call 34; refine (HT.out _ D7.out).mono ?_; rintro e w7 ⟨rfl, hb7⟩; have D8 := Lib.hid (D7.out.below hb7); have B8 := Lib.hid (B7.out.trans (hb7.mono B7.out.size)); clear hb7))
        exact ⟨⟨d + 1, rfl, by omega, by omega, D8, B8⟩, by simp [intOf]; omega⟩
      · go_wp2_with (first
          | (go_at_call 35; refine (HY.out _ D6.out).mono ?_; rintro e w6 ⟨rfl, hb6⟩; have D7 := Lib.hid (D6.out.below hb6); have B7 := Lib.hid (B6.out.trans (hb6.mono B6.out.size)); clear hb6)
          | (go_at_call 34; refine (HT.out _ D7.out).mono ?_; rintro e w7 ⟨rfl, hb7⟩; have D8 := Lib.hid (D7.out.below hb7); have B8 := Lib.hid (B7.out.trans (hb7.mono B7.out.size)); clear hb7))
        exact ⟨⟨d + 1, rfl, by omega, by omega, D8, B8⟩, by simp [intOf]; omega⟩
    · have hn0 : 0 ≤ (r - p) / 7 ∧ (r - p) / 7 * 7 ≤ r - p := by omega
      have hbt : ∀ W, Calls Tryd.prog 34 #[.int .i64 p, .int .i64 (p + (r - p) / 7 * 7), .slice none 0 0] W fun e w' => e = .returned (.tuple #[.int .i64 ((r - p) / 7 * 5), .int .i64 0]) ∧ Below W.heap.size W w' := by
        intro W
        have := between_yes p (p + (r - p) / 7 * 7) none 0 [] W (Rd.nil _ _) rfl o1 (by omega) (by omega)
        rw [wif_weeks p _ o1] at this
        exact this
      have HT := Lib.hid hbt; clear hbt
      clear HST
      obtain rfl | ⟨ys, l, rfl⟩ : zs = [] ∨ ∃ ys l, zs = ys ++ [l] := by
        rcases List.eq_nil_or_concat zs with h | ⟨ys, l, h⟩
        · exact .inl h
        · exact .inr ⟨ys, l, by rw [h, List.concat_eq_append]⟩
      · go_wp2_with (first
          | (go_at_call 34; (with_reducible refine (HT.out _).mono ?_); rintro e w7 ⟨rfl, hb7⟩; have B7 := Lib.hid (B6.out.trans (hb7.mono B6.out.size)); clear hb7))
        go_ret
        exact ⟨rfl, B7.out⟩
      · have hlen : (ys ++ [l]).length = ys.length + 1 := by simp
        obtain ⟨l1, l2, l3, l4⟩ := last_one ys l HI.out
        have L4 := Lib.hid l4
        have HR1 := Lib.hid l1; clear l4 l1
        obtain ⟨b, off, rfl, hb, hc⟩ := D6.out (by omega)
        have hc1 : wr.cell? ⟨b, off + ys.length, none⟩ = some (.int .i64 l) := by
          have := hc ys.length (by omega)
          rw [this]; simp
        have HC := Lib.hid hc1; clear hc1 hc
        have hrd : ∀ W, Rd W (some ⟨b, off, none⟩) (ys ++ [l]) → Rd W (some ⟨b, off, none⟩) ys := by
          intro W h _
          obtain ⟨b', off', e, hb', hc'⟩ := h (by omega)
          refine ⟨b', off', e, hb', fun i hi => ?_⟩
          rw [hc' i (by omega)]
          simp [List.getD_eq_getElem?_getD, List.getElem?_append_left hi]
        have HRD := Lib.hid hrd; clear hrd
        rw [hlen]
        rw [hlen] at hcap hl1000
        have hbelow : ∀ W, Below wr.heap.size wr W → W.cell? ⟨b, off + ys.length, none⟩ = some (.int .i64 l) := fun W h => (bcell h b _ hb).trans HC.out
        have HBL := Lib.hid hbelow; clear hbelow
        go_wp2_with (first
          | (go_at_call 34; (with_reducible refine (HT.out _).mono ?_); rintro e w7 ⟨rfl, hb7⟩; have hcw := HBL.out _ hb7; have D7 := Lib.hid (D6.out.below hb7); have B7 := Lib.hid (B6.out.trans (hb7.mono B6.out.size)); clear hb7))
        have hless : ∀ W, Rd W (some ⟨b, off, none⟩) (ys ++ [l]) → Calls Tryd.prog 34 #[.int .i64 0, .int .i64 730484, .slice (some ⟨b, off, none⟩) ys.length cap] W fun e w' => e = .returned (.tuple #[.int .i64 (Cv.wif ys 730484), .int .i64 0]) ∧ Below W.heap.size W w' := by
          intro W hW
          have := between_yes 0 730484 (some ⟨b, off, none⟩) cap ys W (HRD.out W hW) HR1.out (by omega) (by omega) (by omega)
          rw [wif_zero ys HR1.out, Int.sub_zero] at this
          exact this
        have hwith : ∀ W, Rd W (some ⟨b, off, none⟩) (ys ++ [l]) → Calls Tryd.prog 34 #[.int .i64 0, .int .i64 730484, .slice (some ⟨b, off, none⟩) (ys.length + 1) cap] W fun e w' => e = .returned (.tuple #[.int .i64 (Cv.wif (ys ++ [l]) 730484), .int .i64 0]) ∧ Below W.heap.size W w' := by
          intro W hW
          have := between_yes 0 730484 (some ⟨b, off, none⟩) cap (ys ++ [l]) W hW HI.out (by omega) (by omega) (by omega)
          rw [wif_zero _ HI.out, Int.sub_zero, hlen] at this
          exact this
        have hwk : ∀ W, Rd W (some ⟨b, off, none⟩) (ys ++ [l]) → Calls Tryd.prog 35 #[.int .i64 l, .slice (some ⟨b, off, none⟩) ys.length cap] W fun e w' => e = .returned (.tuple #[.bool (Cv.isW ys l), .int .i64 0]) ∧ Below W.heap.size W w' :=
          fun W hW => works_yes l (some ⟨b, off, none⟩) cap ys W (HRD.out W hW) HR1.out l2 l3
        have hl4 := L4.out
        have hbd := Cv.wif_bd (ys ++ [l]) 730484 (by omega)
        rw [hlen] at hbd
        clear L4 HT
        generalize Cv.isW ys l = o at hl4 hwk
        generalize Cv.wif ys 730484 = X at hl4 hless
        generalize Cv.wif (ys ++ [l]) 730484 = Y at hl4 hwith hbd
        have HL := Lib.hid hl4; clear hl4
        have T1 := Lib.hid hless; clear hless
        have T2 := Lib.hid hwith; clear hwith
        have T3 := Lib.hid hwk; clear hwk
        refine (T1.out w7 D7.out).mono ?_
        rintro e w8 ⟨rfl, hb8⟩
        have D8 := Lib.hid (D7.out.below hb8)
        have B8 := Lib.hid (B7.out.trans (hb8.mono B7.out.size))
        clear hb8
        go_wp2_with fail
        refine (T2.out w8 D8.out).mono ?_
        rintro e w9 ⟨rfl, hb9⟩
        have D9 := Lib.hid (D8.out.below hb9)
        have B9 := Lib.hid (B8.out.trans (hb9.mono B8.out.size))
        clear hb9
        go_wp2_with fail
        refine (T3.out w9 D9.out).mono ?_
        rintro e w10 ⟨rfl, hb10⟩
        have B10 := Lib.hid (B9.out.trans (hb10.mono B9.out.size))
        clear hb10 T1 T2 T3
        rcases o with _ | _
        · have hX : X = Y := by simpa using HL.out
          subst hX
          clear HL
          go_wp2_with fail
          all_goals
            go_ret
            exact ⟨rfl, B10.out⟩
        · by_cases hll : l < 730484
          · have hX : X = Y + 1 := by simpa [hll] using HL.out
            subst hX
            clear HL
            go_wp2_with fail
            all_goals
              go_ret
              exact ⟨rfl, B10.out⟩
          · have hX : X = Y := by simpa [hll] using HL.out
            have hl5 : l = 730484 := by omega
            subst hX
            subst hl5
            clear HL hll
            go_wp2_with fail
            all_goals
              go_ret
              exact ⟨rfl, B10.out⟩

end Go.Proofs.YtmlniggmknjneaaDoor
