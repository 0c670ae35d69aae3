/-
  The walk of the law MoneyWrong.
-/
import Derived.Test.YtbbmpjndalkgbaaDoorMonSums
namespace Go.Proofs.YtbbmpjndalkgbaaDoor
open Go.RowKit
set_option linter.unusedVariables false

theorem split_no (c : Int) (A : Option Addr) (cap : Nat) (ws : List Int) (w : World) (hr : Rd w A ws) (hl : ws.length ≤ 4096) (h : Mo.spOk c ws = false) :
    Calls Tryd.prog 15 #[.int .i64 c, .slice A ws.length cap] w fun e w' => ∃ B cp, e = .returned (.tuple #[.slice B 0 cp, .int .i64 2]) ∧ Below w.heap.size w w' := by
  refine (split_any c A cap ws w hr (by omega)).mono ?_
  rintro e w' ⟨B, cp, rfl, -, hb⟩
  rw [(Mo.spE_bad hl h).1, (Mo.spE_bad hl h).2]
  exact ⟨B, cp, rfl, hb⟩
theorem split_new (c : Int) (ws : List Int) (w : World) (hl : ws.length ≤ 4096) (h : Mo.spOk c ws = false) :
    Calls Tryd.prog 15 #[.int .i64 c, .slice (some ⟨w.heap.size, 0, none⟩) ws.length ws.length] (w.alloc (.cells (ws.map (Value.int .i64)).toArray 3)) fun e w' => ∃ B cp, e = .returned (.tuple #[.slice B 0 cp, .int .i64 2]) ∧ Below w.heap.size w w' := by
  refine (split_no c (some ⟨w.heap.size, 0, none⟩) ws.length ws _ (rd_new w ws 3) hl h).mono ?_
  rintro e w' ⟨B, cp, rfl, hb⟩
  have ha := (Below.refl w.heap.size w).alloc (Nat.le_refl _) (.cells (ws.map (Value.int .i64)).toArray 3)
  exact ⟨B, cp, rfl, ha.trans (hb.mono ha.size)⟩
theorem share_wrong (a s way : Int) (w : World) (v0 : 0 ≤ way) (v1 : way ≤ 255) (h : Mo.shOk a s way = false) :
    Calls Tryd.prog 18 #[.int .i64 a, .int .i64 s, .int .u8 way] w fun e w' => e = .returned (.tuple #[.int .i64 0, .int .i64 2]) ∧ Below w.heap.size w w' := by
  have := share_any a s way w v0 v1
  unfold PostSh at this
  rw [(Mo.sh_no h).1, (Mo.sh_no h).2] at this
  exact this
theorem add_wrong (a b v e : Int) (w : World) (h : Mo.smV [a, b] = v ∧ Mo.smE [a, b] = e) :
    Calls Tryd.prog 20 #[.int .i64 a, .int .i64 b] w fun x w' => x = .returned (.tuple #[.int .i64 v, .int .i64 e]) ∧ Below w.heap.size w w' := by
  have := add_any a b w
  rw [h.1, h.2] at this
  exact this
theorem text_wrong (a : Int) (w : World) (hw : P10 w) (h : Mo.rt a = false) :
    Calls Tryd.prog 21 #[.int .i64 a] w fun e w' => e = .returned (.tuple #[.string ⟨#[]⟩, .int .i64 2]) ∧ Below w.heap.size w w' := by
  have := text_any a w hw
  unfold PostTx at this
  rw [show Mo.txV a = [] by simp [Mo.txV, h], show Mo.txE a = 2 by simp [Mo.txE, h]] at this
  exact this
theorem pick60 (n : Int) : 0 ≤ n % 1152921504606846976 ∧ n % 1152921504606846976 < 1152921504606846976 := by omega
theorem tq (x : Int) (h : 1000000000000000 < x) (h1 : x ≤ 2000000000000000000) : ∃ d : Nat, x.tdiv 1000000000000000 = d ∧ (-x).tdiv 1000000000000000 = -d ∧ 1 ≤ d ∧ d ≤ 2000 := by
  refine ⟨(x.tdiv 1000000000000000).toNat, ?_, ?_, ?_, ?_⟩ <;> (try rw [Int.neg_tdiv]) <;> (rw [Int.tdiv_eq_ediv_of_nonneg (by omega)]; omega)

/-- what the law's loop asks of one number beyond -/
structure Out (x d : Int) : Prop where
  add : ∀ w, Calls Tryd.prog 20 #[.int .i64 x, .int .i64 0] w fun e w' => e = .returned (.tuple #[.int .i64 0, .int .i64 2]) ∧ Below w.heap.size w w'
  sum : ∀ w, Calls Tryd.prog 16 #[.slice (some ⟨w.heap.size, 0, none⟩) 2 2] (w.alloc (.cells #[.int .i64 0, .int .i64 x] 3)) fun e w' => e = .returned (.tuple #[.int .i64 0, .int .i64 2]) ∧ Below w.heap.size w w'
  share : ∀ w, Calls Tryd.prog 18 #[.int .i64 x, .int .i64 0, .int .u8 4] w fun e w' => e = .returned (.tuple #[.int .i64 0, .int .i64 2]) ∧ Below w.heap.size w w'
  split : ∀ w, Calls Tryd.prog 15 #[.int .i64 x, .slice (some ⟨w.heap.size, 0, none⟩) 1 1] (w.alloc (.cells #[.int .i64 1] 3)) fun e w' => ∃ B cp, e = .returned (.tuple #[.slice B 0 cp, .int .i64 2]) ∧ Below w.heap.size w w'
  text : ∀ w, P10 w → Calls Tryd.prog 21 #[.int .i64 x] w fun e w' => e = .returned (.tuple #[.string ⟨#[]⟩, .int .i64 2]) ∧ Below w.heap.size w w'
  right : ∀ w, Calls Tryd.prog 23 #[.int .i64 x] w fun e w' => e = .returned (.bool false) ∧ w = w'
  split0 : ∀ w, Calls Tryd.prog 15 #[.int .i64 0, .slice (some ⟨w.heap.size, 0, none⟩) 2 2] (w.alloc (.cells #[.int .i64 1, .int .i64 x] 3)) fun e w' => ∃ B cp, e = .returned (.tuple #[.slice B 0 cp, .int .i64 2]) ∧ Below w.heap.size w w'
  share0 : ∀ w, Calls Tryd.prog 18 #[.int .i64 0, .int .i64 (10000 + d), .int .u8 2] w fun e w' => ∃ v er, e = .returned (.tuple #[.int .i64 v, .int .i64 er]) ∧ (0 < x → v = 0 ∧ er = 2) ∧ Below w.heap.size w w'
theorem out_of (x d : Int) (h : x < -1000000000000000 ∨ 1000000000000000 < x) (hd : 0 < x → 1 ≤ d) : Out x d := by
  have hr : Mo.rt x = false := (Mo.rt_not x).2 h
  have hw : ¬ (0 ≤ x ∧ x ≤ 1000000) := by omega
  constructor
  · exact fun w => add_wrong _ _ _ _ _ (by have := Mo.smE_arg (zs := [x, 0]) (by simp) (by simp [Mo.allRt, hr]); exact ⟨this.2, this.1⟩)
  · intro w
    have e := Mo.smE_arg (zs := [0, x]) (by simp) (by simp [Mo.allRt, hr])
    have := mSum_any (some ⟨w.heap.size, 0, none⟩) 2 [0, x] _ (rd_new w [0, x] 3) (by simp)
    rw [e.1, e.2] at this
    refine Calls.mono this ?_
    rintro e w' ⟨rfl, rfl⟩
    exact ⟨rfl, (Below.refl _ _).alloc (Nat.le_refl _) _⟩
  · exact fun w => share_wrong _ _ _ _ (by omega) (by omega) (by simp [Mo.shOk, hr])
  · exact fun w => split_new _ [1] w (by simp) (by simp [Mo.spOk, hr])
  · exact fun w hw => text_wrong _ _ hw hr
  · intro w; have := mRight_any x w; rw [hr] at this; exact this
  · refine fun w => split_new _ [1, x] w (by simp) ?_
    have : Mo.wts [1, x] = false := by simp [Mo.wts]; omega
    simp [Mo.spOk, this]
  · intro w
    refine (share_any 0 (10000 + d) 2 w (by omega) (by omega)).mono ?_
    rintro e w' ⟨rfl, hb⟩
    refine ⟨_, _, rfl, fun h0 => ?_, hb⟩
    have : Mo.shOk 0 (10000 + d) 2 = false := by
      rw [Bool.eq_false_iff]; intro hc
      have := (Mo.shOk_iff _ _ _).1 hc
      have := hd h0
      omega
    exact Mo.sh_no this

set_option maxRecDepth 100000 in
set_option maxHeartbeats 1500000 in
theorem walk_moneyWrong (a0 : Int) (w0 : (Lit.int .i64 a0).wf = true) (a1 : Int) (w1 : (Lit.int .u8 a1).wf = true) (w : World) (hw : Rdy w) :
    Calls Tryd.prog 10 #[.int .i64 a0, .int .u8 a1] w fun e w' => e = .returned (.bool true) ∧ Below w.heap.size w w' := by
  have b0 := int_bd w0
  have b1 := u8_bd w1
  clear w0 w1
  have hpk := fun W => pick_any a0 1152921504606846976 W (by omega) (by omega)
  have hp := pick60 a0
  generalize a0 % 1152921504606846976 = p at *
  obtain ⟨x, hx⟩ : ∃ x : Int, x = 1000000000000001 + p := ⟨_, rfl⟩
  obtain ⟨d, hd1, hd2, hd3, hd4⟩ := tq x (by omega) (by omega)
  have o1 := out_of x d (by omega) (by omega)
  have o2 := out_of (-x) (-d) (by omega) (by omega)
  have R0 := Lib.hid hw; clear hw
  have PK := Lib.hid hpk; have O1 := Lib.hid o1; have O2 := Lib.hid o2; have D1 := Lib.hid hd1; have D2 := Lib.hid hd2
  clear hpk o1 o2 hd1 hd2
  have q9 : ¬ (1 ≤ a1 ∧ a1 ≤ 4) → ∀ W, Calls Tryd.prog 18 #[.int .i64 1, .int .i64 1, .int .u8 a1] W fun e w' => e = .returned (.tuple #[.int .i64 0, .int .i64 2]) ∧ Below W.heap.size W w' := fun h W => share_wrong _ _ _ _ (by omega) (by omega) (by
    rw [Bool.eq_false_iff]; intro hc; have := (Mo.shOk_iff _ _ _).1 hc; omega)
  have q10 : (1 ≤ a1 ∧ a1 ≤ 4) → ∀ W, Calls Tryd.prog 18 #[.int .i64 1, .int .i64 1, .int .u8 ((a1 + 4) % 256)] W fun e w' => e = .returned (.tuple #[.int .i64 0, .int .i64 2]) ∧ Below W.heap.size W w' := fun h W => share_wrong _ _ _ _ (by omega) (by omega) (by
    rw [Bool.eq_false_iff]; intro hc; have := (Mo.shOk_iff _ _ _).1 hc; omega)
  have q11 : ∀ w, Calls Tryd.prog 15 #[.int .i64 1, .slice (some ⟨w.heap.size, 0, none⟩) 2 2] (w.alloc (.cells #[.int .i64 0, .int .i64 0] 3)) fun e w' => ∃ B cp, e = .returned (.tuple #[.slice B 0 cp, .int .i64 2]) ∧ Below w.heap.size w w' :=
    fun w => split_new _ [0, 0] w (by simp) (by decide)
  have q12 : ∀ W, Calls Tryd.prog 20 #[.int .i64 1000000000000000, .int .i64 1] W fun e w' => e = .returned (.tuple #[.int .i64 0, .int .i64 3]) ∧ Below W.heap.size W w' := fun W => add_wrong _ _ _ _ _ (by decide)
  have q13 : ∀ W, Calls Tryd.prog 18 #[.int .i64 1, .int .i64 (-1), .int .u8 2] W fun e w' => e = .returned (.tuple #[.int .i64 0, .int .i64 2]) ∧ Below W.heap.size W w' := fun W => share_wrong _ _ _ _ (by omega) (by omega) (by decide)
  have q14 : ∀ W, Calls Tryd.prog 15 #[.int .i64 1, .slice none 0 0] W fun e w' => ∃ B cp, e = .returned (.tuple #[.slice B 0 cp, .int .i64 2]) ∧ Below W.heap.size W w' :=
    fun W => split_no _ _ _ [] _ (Rd.nil _ _) (by simp) (by decide)
  have Q9 := Lib.hid q9; have Q10 := Lib.hid q10; have Q11 := Lib.hid q11; have Q12 := Lib.hid q12; have Q13 := Lib.hid q13; have Q14 := Lib.hid q14
  clear q9 q10 q11 q12 q13 q14
  obtain ⟨p0, p1⟩ := hp
  obtain ⟨v0, v1⟩ := b1
  have gW : (decide (1 ≤ a1) = false ∧ ¬ (1 ≤ a1 ∧ a1 ≤ 4)) ∨ (decide (1 ≤ a1) = true ∧ decide (a1 ≤ 4) = false ∧ ¬ (1 ≤ a1 ∧ a1 ≤ 4)) ∨ (decide (1 ≤ a1) = true ∧ decide (a1 ≤ 4) = true ∧ 1 ≤ a1 ∧ a1 ≤ 4) := by
    by_cases c : 1 ≤ a1
    · by_cases c2 : a1 ≤ 4
      · exact .inr (.inr ⟨decide_eq_true c, decide_eq_true c2, c, c2⟩)
      · exact .inr (.inl ⟨decide_eq_true c, decide_eq_false c2, by omega⟩)
    · exact .inl ⟨decide_eq_false c, by omega⟩
  have hxe : p = x - 1000000000000001 := by omega
  have hxb : 1000000000000001 ≤ x ∧ x ≤ 1153921504606846976 := by omega
  obtain ⟨hx0, hx1⟩ := hxb
  subst hxe
  clear hx p0 p1
  rcases gW with ⟨c1, c3⟩ | ⟨c1, c2, c3⟩ | ⟨c1, c2, c3⟩
  all_goals
    have C3 := Lib.hid c3; clear c3
    go_enter Tryd.func10, Tryd.ntmps10
    go_wp2_with (first
      | (go_at_call 11; refine (awake_any _ R0.out).mono ?_; rintro e x1 ⟨rfl, hb⟩; have B1 := Lib.hid hb; clear hb)
      | (go_at_call 17; (with_reducible refine (PK.out _).mono ?_); rintro e w' ⟨rfl, rfl⟩))
    rw [show 1000000000000001 + (x - 1000000000000001) = x by omega]
    have HRD := Lib.hid (show Rd (x1.alloc (.cells #[.int .i64 x, .int .i64 (-x)] 3)) (some ⟨x1.heap.size, 0, none⟩) [x, -x] from rd_new x1 [x, -x] 3)
    have BX := Lib.hid (B1.out.alloc B1.out.size (.cells #[.int .i64 x, .int .i64 (-x)] 3))
    have RX := Lib.hid (R0.out.below BX.out)
    generalize x1.alloc (.cells #[.int .i64 x, .int .i64 (-x)] 3) = W0 at *
    generalize x1.heap.size = g at *
    clear B1 PK
    go_loopw [47] (fun i wr => ∃ k : Nat, k ≤ 2 ∧ i = .int .i64 k ∧ Hid (Below W0.heap.size W0 wr)) (fun i _ => 2 - (intOf i).toNat)
    case atStart => exact ⟨0, by omega, rfl, Lib.hid (Below.refl _ _)⟩
    case round =>
      obtain ⟨k, hk, rfl, HB⟩ := hrel
      by_cases h1 : k < 2
      · obtain ⟨b, off, he, hbl, hc⟩ := (HRD.out.below HB.out).at (by simp)
        obtain ⟨rfl, rfl⟩ : g = b ∧ 0 = off := by simpa using he
        have hc1 := hc k h1; clear hc he
        have hy : ∃ y e : Int, [x, -x].getD k 0 = y ∧ Hid (Out y e) ∧ Hid (y.tdiv 1000000000000000 = e) ∧ (-1153921504606846976 ≤ y ∧ y ≤ 1153921504606846976) ∧ (-2000 ≤ e ∧ e ≤ 2000) ∧ (0 < y ∨ y < 0) := by
          have : k = 0 ∨ k = 1 := by omega
          rcases this with rfl | rfl
          · exact ⟨x, d, rfl, O1, D1, by omega, by omega, by omega⟩
          · exact ⟨-x, -d, rfl, O2, D2, by omega, by omega, by omega⟩
        obtain ⟨y, e, hy1, OY, DY, ⟨y0, y1⟩, ⟨e0, e1⟩, hys⟩ := hy
        rw [hy1, Nat.zero_add] at hc1
        have hsz := HB.out.size
        have g2 : (k : Int) < 2 := by omega
        have hdy := DY.out
        rcases hys with gy | gy
        all_goals
          go_wp2_with (first
            | (go_at_call 20; (with_reducible refine (OY.out.add _).mono ?_); rintro e x2 ⟨rfl, hb⟩; have B2 := Lib.hid (HB.out.trans (hb.mono HB.out.size)); clear hb)
            | (go_at_call 16; (with_reducible refine (OY.out.sum _).mono ?_); rintro e x3 ⟨rfl, hb⟩; have B3 := Lib.hid (B2.out.trans (hb.mono B2.out.size)); clear hb)
            | (go_at_call 18; (with_reducible refine (OY.out.share _).mono ?_); rintro e x4 ⟨rfl, hb⟩; have B4 := Lib.hid (B3.out.trans (hb.mono B3.out.size)); clear hb)
            | (go_at_call 15; (with_reducible refine (OY.out.split _).mono ?_); rintro e x5 ⟨S5, cp5, rfl, hb⟩; have B5 := Lib.hid (B4.out.trans (hb.mono B4.out.size)); clear hb)
            | (go_at_call 21; (with_reducible refine (OY.out.text _ (RX.out.below B5.out).p10).mono ?_); rintro e x6 ⟨rfl, hb⟩; have B6 := Lib.hid (B5.out.trans (hb.mono B5.out.size)); clear hb)
            | (go_at_call 23; (with_reducible refine (OY.out.right _).mono ?_); rintro e w' ⟨rfl, rfl⟩)
            | (go_at_call 18; (with_reducible refine (OY.out.share0 _).mono ?_); rintro e x7 ⟨v6, e6, rfl, h6, hb⟩; have B7 := Lib.hid (B6.out.trans (hb.mono B6.out.size)); clear hb; (first | (rw [eq_true gy] at h6; obtain ⟨rfl, rfl⟩ := h6 trivial) | clear h6))
            | (go_at_call 15; (with_reducible refine (OY.out.split0 _).mono ?_); rintro e x8 ⟨S8, cp8, rfl, hb⟩; have B8 := Lib.hid (B7.out.trans (hb.mono B7.out.size)); clear hb))
          exact ⟨⟨k + 1, by omega, by go_num, B8⟩, by simp [intOf]; omega⟩
      · have hke : k = 2 := by omega
        subst hke
        clear h1 hk
        go_wp2_with (first
          | (go_at_call 18; (with_reducible refine (Q9.out C3.out _).mono ?_); rintro e x2 ⟨rfl, hb⟩; have B2 := Lib.hid (HB.out.trans (hb.mono HB.out.size)); clear hb)
          | (go_at_call 18; (with_reducible refine (Q10.out C3.out _).mono ?_); rintro e x2 ⟨rfl, hb⟩; have B2 := Lib.hid (HB.out.trans (hb.mono HB.out.size)); clear hb)
          | (go_at_call 15; (with_reducible refine (Q11.out _).mono ?_); rintro e x3 ⟨S3, cp3, rfl, hb⟩; have B3 := Lib.hid (B2.out.trans (hb.mono B2.out.size)); clear hb)
          | (go_at_call 20; (with_reducible refine (Q12.out _).mono ?_); rintro e x4 ⟨rfl, hb⟩; have B4 := Lib.hid (B3.out.trans (hb.mono B3.out.size)); clear hb)
          | (go_at_call 18; (with_reducible refine (Q13.out _).mono ?_); rintro e x5 ⟨rfl, hb⟩; have B5 := Lib.hid (B4.out.trans (hb.mono B4.out.size)); clear hb)
          | (go_at_call 15; (with_reducible refine (Q14.out _).mono ?_); rintro e x6 ⟨S6, cp6, rfl, hb⟩; have B6 := Lib.hid (B5.out.trans (hb.mono B5.out.size)); clear hb))
        go_ret
        exact ⟨rfl, BX.out.trans (B6.out.mono BX.out.size)⟩

end Go.Proofs.YtbbmpjndalkgbaaDoor
