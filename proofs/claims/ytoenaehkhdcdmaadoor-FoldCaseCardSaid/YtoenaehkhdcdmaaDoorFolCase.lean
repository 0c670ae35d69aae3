/-
  The walk of FoldCase.
-/
import Derived.Test.YtoenaehkhdcdmaaDoorFolJoin
import Derived.Laws.IdiomStrings
namespace Go.Proofs.YtoenaehkhdcdmaaDoor
open Go.RowKit
set_option linter.unusedVariables false
set_option linter.unusedSimpArgs false

/-- what '[]byte(s)' leaves -/
def cc (W : World) (s : ByteArray) : Nat := grownCap W s.size 0 5
def cw (W : World) (s : ByteArray) : World := W.drew.alloc (.cells (bytesRow s (cc W s)) 5 ((bytesRow s (cc W s)).size, (bytesRow s (cc W s)).size + 1))
theorem conv_cw (s : ByteArray) (W : World) : (convert 9 23 (.string s)).run Tryd.prog W = .ok (.slice (some ⟨W.heap.size, 0, none⟩) s.size (cc W s)) (cw W s) :=
  run_bytes_of_string W 9 23 5 s Tryd.underlying9 Tryd.underlying23 Tryd.underlying5
theorem cw_below (s : ByteArray) (W : World) : Below W.heap.size W (cw W s) := (below_drewN (Below.refl _ W) 1).alloc (Nat.le_refl _) _
/-- the bytes l from a block's beginning, none of them shared -/
structure ByB (w : World) (g : Nat) (l : List UInt8) : Prop where
  cell : ∀ j, j < l.length → w.cell? ⟨g, j, none⟩ = some (.int .u8 (l.getD j 0).toNat)
  froz : ∀ j, j < l.length → w.frozen? ⟨g, j, none⟩ = false
  blk : g < w.heap.size
theorem ByB.new (s : ByteArray) (W : World) : ByB (cw W s) W.heap.size s.data.toList := by
  have hd : W.drew.heap.size = W.heap.size := rfl
  refine ⟨fun j hj => ?_, fun j hj => ?_, ?_⟩
  · have hj' : j < s.data.size := by simpa using hj
    unfold cw
    rw [← hd, World.cell?_alloc_mark, bytesRow_at s _ j hj', List.getD_eq_getElem?_getD, List.getElem?_eq_getElem hj]
    simp
  · have hj' : j < s.data.size := by simpa using hj
    unfold cw
    rw [← hd, World.frozen?_alloc_mark]
    have : (bytesRow s (cc W s)).size ≥ s.data.size := by unfold bytesRow; simp
    rw [decide_eq_false (by omega)]; rfl
  · unfold cw
    show W.heap.size < (W.heap.push _).size
    rw [Array.size_push]; omega
theorem ByB.below {w w' : World} {g : Nat} {l : List UInt8} (h : ByB w g l) (hb : Below w.heap.size w w') : ByB w' g l :=
  ⟨fun j hj => cell_keep (h.cell j hj) hb, fun j hj => (hb.frozen (p := ⟨g, j, none⟩) h.blk).trans (h.froz j hj), by have := hb.size; have := h.blk; omega⟩
theorem ByB.far {w : World} {g g' : Nat} {l : List UInt8} (h : ByB w g l) (hg : g' ≠ g) (k : Nat) (v : Value) : ByB (w.setCell ⟨g', k, none⟩ v) g l := by
  refine ⟨fun j hj => ?_, fun j hj => ?_, ?_⟩
  · rw [World.cell?_setCell_other _ _ _ _ (fun e => hg (by injection e))]; exact h.cell j hj
  · rw [World.frozen?_setCell]; exact h.froz j hj
  · simp [World.setCell]; exact h.blk
theorem ByB.put {w : World} {g : Nat} {l : List UInt8} (h : ByB w g l) (k : Nat) (hk : k < l.length) (c : UInt8) (v : Int) (hv : v = (c.toNat : Int)) : ByB (w.setCell ⟨g, k, none⟩ (.int .u8 v)) g (l.set k c) := by
  subst hv
  refine ⟨fun j hj => ?_, fun j hj => ?_, ?_⟩
  · rw [List.length_set] at hj
    by_cases hjk : j = k
    · subst hjk
      rw [World.cell?_setCell_same _ _ _ (h.cell j hj), List.getD_eq_getElem?_getD]
      simp [hj]
    · rw [World.cell?_setCell_other _ _ _ _ (fun e => hjk (by injection e with _ e _; exact e.symm)), h.cell j hj, List.getD_eq_getElem?_getD, List.getD_eq_getElem?_getD, List.getElem?_set_ne (fun e => hjk e.symm)]
  · rw [List.length_set] at hj
    rw [World.frozen?_setCell]; exact h.froz j hj
  · simp [World.setCell]; exact h.blk
theorem ByB.conv {w : World} {g n c : Nat} {l : List UInt8} (h : ByB w g l) (hn : l.length = n) : (convert 23 9 (.slice (some ⟨g, 0, none⟩) n c)).run Tryd.prog w = .ok (.string ⟨l.toArray⟩) w := by
  subst hn
  refine run_convert_bytes_back (P := Tryd.prog) w 23 9 5 ⟨g, 0, none⟩ c l Tryd.underlying23 Tryd.underlying5 Tryd.underlying9 (fun j hj => ?_)
  have e : (⟨g, 0, none⟩ : Addr).add j = ⟨g, j, none⟩ := by unfold Addr.add; split <;> simp [*]
  rw [e, h.cell j hj, List.getD_eq_getElem?_getD, List.getElem?_eq_getElem hj]; rfl
/-- changed up to k -/
def mix (f : UInt8 → UInt8) (l : List UInt8) (k : Nat) : List UInt8 := (l.take k).map f ++ l.drop k
theorem mix_len (f : UInt8 → UInt8) (l : List UInt8) (k : Nat) : (mix f l k).length = l.length := by
  unfold mix; simp; omega
theorem mix_zero (f : UInt8 → UInt8) (l : List UInt8) : mix f l 0 = l := by simp [mix]
theorem mix_all (f : UInt8 → UInt8) (l : List UInt8) : mix f l l.length = l.map f := by simp [mix]
theorem mix_succ (f : UInt8 → UInt8) (l : List UInt8) (k : Nat) (h : k < l.length) : mix f l (k + 1) = (mix f l k).set k (f (l.getD k 0)) := by
  unfold mix
  have hl : ((l.take k).map f).length = k := by simp; omega
  rw [List.set_append_right _ _ (by omega), hl, Nat.sub_self, List.take_add_one, List.getElem?_eq_getElem h, List.drop_eq_getElem_cons h, List.getD_eq_getElem?_getD, List.getElem?_eq_getElem h, List.map_append, List.append_assoc]
  rfl
theorem mix_same (f : UInt8 → UInt8) (l : List UInt8) (k : Nat) (h : k < l.length) (hf : f (l.getD k 0) = l.getD k 0) : mix f l (k + 1) = mix f l k := by
  rw [mix_succ f l k h, hf]
  apply List.ext_getElem?
  intro i
  by_cases hi : k = i
  · subst hi
    rw [List.getElem?_set_self (by rw [mix_len]; exact h)]
    unfold mix
    have hl : ((l.take k).map f).length = k := by simp; omega
    rw [List.getElem?_append_right (by omega), hl, Nat.sub_self, List.getElem?_drop, List.getD_eq_getElem?_getD, Nat.add_zero, List.getElem?_eq_getElem h]
    rfl
  · rw [List.getElem?_set_ne hi]

structure CaseS (s : ByteArray) (w wr : World) (g1 g2 k : Nat) : Prop where
  bel : Below w.heap.size w wr
  one : ByB wr g1 (mix Fo.up s.data.toList k)
  two : ByB wr g2 (mix Fo.cm s.data.toList k)
  b1 : w.heap.size ≤ g1
  b2 : w.heap.size ≤ g2
  ne : g1 ≠ g2
theorem ext_sub (s : ByteArray) (k : Nat) (h : k < s.size) : s.extract k (k + 1) = ⟨#[s[k]]⟩ := by
  apply ByteArray.ext
  apply Array.ext'
  have h1 := drop_cons s k h
  simp only [ByteArray.data_extract, Array.toList_extract, List.extract_eq_take_drop, Nat.add_sub_cancel_left]
  rw [h1]
  rfl
theorem bytes_of2 (l : List UInt8) : ∃ B : ByteArray, B = ⟨l.toArray⟩ ∧ B.data.toList = l ∧ B.size = l.length := ⟨_, rfl, rfl, by show Array.size _ = _; simp⟩
/-- the fold of one byte, as the walk asks it -/
theorem foldOne_any (c : UInt8) (w : World) (hw : Rdy w) (hc : c.toNat < 128) :
    Calls Tryd.prog 13 #[.string ⟨#[c]⟩] w fun e w' => ∃ X : ByteArray, e = .returned (.string X) ∧ ((X.toList == []) = true ↔ Fo.bl c) ∧ Below w.heap.size w w' := by
  refine (fold_any ⟨#[c]⟩ w hw (by show 1 ≤ _; omega)).mono ?_
  rintro e w' ⟨rfl, hb⟩
  refine ⟨_, rfl, ?_, hb⟩
  rw [ByteArray.toList_eq, beq_iff_eq]
  exact Fo.fold_one c hc
set_option maxRecDepth 100000 in
set_option maxHeartbeats 8000000 in
theorem walk_foldCase (s : ByteArray) (hm : s.size ≤ maxLen) (w : World) (hw : Rdy w) : Calls Tryd.prog 6 #[.string s] w fun e w' => e = .returned (.bool true) ∧ Below w.heap.size w w' := by
  have HA := Lib.hid (awake_any w hw)
  have HR := Lib.hid hw
  clear hw
  by_cases hlong : 2000 < s.size
  · have hl2 : (2000 : Int) < s.size := by omega
    go_enter Tryd.func6, Tryd.ntmps6
    go_wp2_with (go_at_call 12; (with_reducible refine HA.out.mono ?_); rintro e w1 ⟨rfl, hb⟩; have B1 := Lib.hid hb; clear hb)
    go_ret
    exact ⟨rfl, B1.out⟩
  · have h1 : ¬ (2000 : Int) < s.size := by omega
    have hs8 : s.size ≤ 2000 := by omega
    have hcv := conv_cw s
    have hLL : s.data.toList.length = s.size := by simp
    have HLL := Lib.hid hLL
    clear hLL
    go_enter Tryd.func6, Tryd.ntmps6
    go_wp2_with (go_at_call 12; (with_reducible refine HA.out.mono ?_); rintro e w1 ⟨rfl, hb⟩; have B1 := Lib.hid hb; have R1 := Lib.hid (HR.out.below hb); clear hb)
    have hn1 := ByB.new s w1
    have hn2 := ByB.new s (cw w1 s)
    have hb1 := cw_below s w1
    have hb2 := cw_below s (cw w1 s)
    have H0 := Lib.hid (show CaseS s w (cw (cw w1 s) s) w1.heap.size (cw w1 s).heap.size 0 from
      ⟨below_next (below_next B1.out hb1) hb2, by rw [mix_zero]; exact hn1.below hb2, by rw [mix_zero]; exact hn2, B1.out.size, Nat.le_trans B1.out.size hb1.size, by have := hn1.blk; omega⟩)
    clear hn1 hn2 hb1 hb2 hcv
    obtain ⟨g1, hg1⟩ : ∃ g, g = w1.heap.size := ⟨_, rfl⟩
    obtain ⟨g2, hg2⟩ : ∃ g, g = (cw w1 s).heap.size := ⟨_, rfl⟩
    rw [← hg1, ← hg2] at H0 ⊢
    generalize cc w1 s = c1
    generalize cc (cw w1 s) s = c2
    obtain ⟨W0, hW0⟩ : ∃ W0, W0 = cw (cw w1 s) s := ⟨_, rfl⟩
    rw [← hW0] at H0 ⊢
    clear hg1 hg2 hW0
    go_loopw [5] (fun s5 wr => ∃ k : Nat, s5 = .int .i64 k ∧ k ≤ s.size ∧ Hid (CaseS s w wr g1 g2 k)) (fun s5 _ => s.size - (intOf s5).toNat)
    case atStart => exact ⟨0, rfl, by omega, H0⟩
    case round =>
      obtain ⟨k, rfl, hk, HS⟩ := hrel
      by_cases hlt : k < s.size
      · have hlt2 : (k : Int) < s.size := by omega
        have hle : ¬ s.size ≤ k := by omega
        have hkl : k < s.data.toList.length := by rw [HLL.out]; exact hlt
        have d1 := HS.out.one.cell k (by rw [mix_len]; exact hkl)
        have d2 := HS.out.two.cell k (by rw [mix_len]; exact hkl)
        have f1 := HS.out.one.froz k (by rw [mix_len]; exact hkl)
        have f2 := HS.out.two.froz k (by rw [mix_len]; exact hkl)
        have u1 := mix_succ Fo.up s.data.toList k hkl
        have u2 := mix_succ Fo.cm s.data.toList k hkl
        have v1 := mix_same Fo.up s.data.toList k hkl
        have v2 := mix_same Fo.cm s.data.toList k hkl
        have hx := ext_sub s k hlt
        have hgd := getD_at s k hlt
        obtain ⟨c, hc⟩ : ∃ c, s[k]'hlt = c := ⟨_, rfl⟩
        rw [hc] at hx hgd
        rw [hgd] at u1 u2 v1 v2
        have U1 := Lib.hid u1; have U2 := Lib.hid u2; have V1 := Lib.hid v1; have V2 := Lib.hid v2
        have HX := Lib.hid hx
        have HKL := Lib.hid hkl
        clear u1 u2 v1 v2 hx hgd hkl
        have hz : k ≤ 2000 := by omega
        have hn8 := UInt8.toNat_lt c
        by_cases hsm : Fo.small c.toNat = true
        · -- a small letter
          have hup : Fo.up c = c - 32 := by simp [Fo.up, hsm]
          have hnb : ¬Fo.bl c := fun h => by rw [h.2.2] at hsm; cases hsm
          have hcm : Fo.cm c = c := if_neg hnb
          have hbig := (Fo.up_big hsm).2
          have hs32 : ((c - 32).toNat : Int) = (c.toNat : Int) - 32 := by
            have := Fo.small_kept c hsm
            rw [UInt8.toNat_sub_of_le]
            · simp [Fo.small] at hsm; simp; omega
            · rw [UInt8.le_iff_toNat_le]; simp [Fo.small] at hsm; simp; omega
          have hsm2 := hsm
          simp [Fo.small] at hsm2
          obtain ⟨g3, g4⟩ := hsm2
          have hbw := HS.out.bel.setCell (p := ⟨g1, k, none⟩) HS.out.b1 (.int .u8 ((c.toNat : Int) - 32))
          have QF := Lib.hid (foldOne_any c _ (HR.out.below hbw) hbig)
          have n1 := HS.out.one.put k (by rw [mix_len]; exact HKL.out) (c - 32) _ hs32.symm
          rw [← hup, ← U1.out] at n1
          have n2 := HS.out.two.far HS.out.ne k (.int .u8 ((c.toNat : Int) - 32))
          rw [← V2.out hcm] at n2
          have N1 := Lib.hid n1; have N2 := Lib.hid n2; have BW := Lib.hid hbw
          have HNB := Lib.hid hnb
          clear hsm hup hnb hcm hs32 hbw n1 n2
          go_wp2_with (first
            | (go_at_call 13; rw [HX.out]; (with_reducible refine QF.out.mono ?_); rintro e v1 ⟨X, rfl, hiff, hb⟩; have HB := Lib.hid hb; have he : (X.toList == []) = false := Bool.eq_false_iff.2 (fun h => HNB.out (hiff.1 h)); clear hb hiff))
          exact ⟨⟨k + 1, by go_num, by omega, Lib.hid ⟨below_next BW.out HB.out, N1.out.below HB.out, N2.out.below HB.out, HS.out.b1, HS.out.b2, HS.out.ne⟩⟩, by simp [intOf]; omega⟩
        · have hup : Fo.up c = c := by simp [Fo.up, hsm]
          have n1 := HS.out.one
          rw [← V1.out hup] at n1
          have N1 := Lib.hid n1
          have hsm2 : c.toNat < 97 ∨ 122 < c.toNat := by simp [Fo.small] at hsm; omega
          have HSM := Lib.hid hsm
          clear n1 hup hsm
          by_cases hbig : c.toNat < 128
          · have QF := Lib.hid (foldOne_any c wr (HR.out.below HS.out.bel) hbig)
            by_cases hbl : Fo.bl c
            · have hcm : Fo.cm c = 44 := if_pos hbl
              have hf44 : ∀ V, Below wr.heap.size wr V → ByB (V.setCell ⟨g2, k, none⟩ (.int .u8 44)) g2 (mix Fo.cm s.data.toList (k + 1)) := fun V hb => by
                have := (HS.out.two.below hb).put k (by rw [mix_len]; exact HKL.out) 44 44 rfl
                rw [← hcm, ← U2.out] at this
                exact this
              have HF := Lib.hid hf44
              have HBL := Lib.hid hbl
              clear hbl hcm hf44
              rcases hsm2 with g | g
              all_goals
                go_wp2_with (first
                  | (go_at_call 13; rw [HX.out]; (with_reducible refine QF.out.mono ?_); rintro e v1 ⟨X, rfl, hiff, hb⟩; have HB := Lib.hid hb; have he : (X.toList == []) = true := hiff.2 HBL.out; have e2 := cell_keep d2 hb; have f3 := ((hb.frozen (p := ⟨g2, k, none⟩) HS.out.two.blk).trans f2); clear hb hiff))
                exact ⟨⟨k + 1, by go_num, by omega, Lib.hid ⟨(below_next HS.out.bel HB.out).setCell HS.out.b2 _, (N1.out.below HB.out).far (fun e => HS.out.ne e.symm) _ _, HF.out _ HB.out, HS.out.b1, HS.out.b2, HS.out.ne⟩⟩, by simp [intOf]; omega⟩
            · have hcm : Fo.cm c = c := if_neg hbl
              have n2 := HS.out.two
              rw [← V2.out hcm] at n2
              have N2 := Lib.hid n2
              have HNB := Lib.hid hbl
              clear hbl hcm n2
              rcases hsm2 with g | g
              all_goals
                go_wp2_with (first
                  | (go_at_call 13; rw [HX.out]; (with_reducible refine QF.out.mono ?_); rintro e v1 ⟨X, rfl, hiff, hb⟩; have HB := Lib.hid hb; have he : (X.toList == []) = false := Bool.eq_false_iff.2 (fun h => HNB.out (hiff.1 h)); clear hb hiff))
                exact ⟨⟨k + 1, by go_num, by omega, Lib.hid ⟨below_next HS.out.bel HB.out, N1.out.below HB.out, N2.out.below HB.out, HS.out.b1, HS.out.b2, HS.out.ne⟩⟩, by simp [intOf]; omega⟩
          · have hcm : Fo.cm c = c := if_neg (fun h => hbig h.1)
            have n2 := HS.out.two
            rw [← V2.out hcm] at n2
            have N2 := Lib.hid n2
            have g : 122 < c.toNat := by omega
            clear hcm n2 hsm2
            go_wp2
            exact ⟨⟨k + 1, by go_num, by omega, Lib.hid ⟨HS.out.bel, N1.out, N2.out, HS.out.b1, HS.out.b2, HS.out.ne⟩⟩, by simp [intOf]; omega⟩
      · have hge : ¬ (k : Int) < s.size := by omega
        obtain rfl : k = s.size := by omega
        have n1 := HS.out.one
        have n2 := HS.out.two
        rw [← HLL.out, mix_all] at n1 n2
        have HB := Lib.hid HS.out.bel
        have l1 : (s.data.toList.map Fo.up).length = s.size := by rw [List.length_map, HLL.out]
        have l2 : (s.data.toList.map Fo.cm).length = s.size := by rw [List.length_map, HLL.out]
        have k1 := n1.conv (c := c1) l1
        have N2 := Lib.hid n2
        obtain ⟨X1, hX1, hX1d, hX1s⟩ := bytes_of2 (s.data.toList.map Fo.up)
        obtain ⟨X2, hX2, hX2d, hX2s⟩ := bytes_of2 (s.data.toList.map Fo.cm)
        obtain ⟨T, hT, hTd, hTs⟩ := bytes_of2 (Fo.fold s.data.toList)
        rw [← hX1] at k1
        have k2 := fun V (hb : Below wr.heap.size wr V) => (N2.out.below hb).conv (c := c2) l2
        rw [← hX2] at k2
        have q1 := fun V (h : Rdy V) => fold_any X1 V h (by omega)
        have q2 := fun V (h : Rdy V) => fold_any X2 V h (by omega)
        have q3 := fun V (h : Rdy V) => fold_any s V h (by omega)
        unfold PostStr at q1 q2 q3
        rw [hX1d, Fo.fold_up, ← hT] at q1
        rw [hX2d, Fo.fold_cm, ← hT] at q2
        rw [← hT] at q3
        have Q1 := Lib.hid q1; have Q2 := Lib.hid q2; have Q3 := Lib.hid q3; have K2 := Lib.hid k2
        have R0 := Lib.hid (HR.out.below HB.out)
        have hTT : (T.toList == T.toList) = true := beq_self_eq_true _
        clear n1 n2 l1 l2 q1 q2 q3 hX1 hX1d hX1s hX2 hX2d hX2s hT hTd hTs HS k2
        go_wp2_with (first
          | (go_at_call 13; (with_reducible refine (Q1.out wr R0.out).mono ?_); rintro e v1 ⟨rfl, hb⟩; have C1 := Lib.hid hb; have S1 := Lib.hid (R0.out.below hb); clear hb)
          | (go_at_call 13; (with_reducible refine (Q3.out v1 S1.out).mono ?_); rintro e v2 ⟨rfl, hb⟩; have C2 := Lib.hid (below_next C1.out hb); have S2 := Lib.hid (S1.out.below hb); have k2 := K2.out v2 (below_next C1.out hb); clear hb)
          | (go_at_call 13; (with_reducible refine (Q2.out v2 S2.out).mono ?_); rintro e v3 ⟨rfl, hb⟩; have C3 := Lib.hid (below_next C2.out hb); have S3 := Lib.hid (S2.out.below hb); clear hb)
          | (go_at_call 13; (with_reducible refine (Q3.out v3 S3.out).mono ?_); rintro e v4 ⟨rfl, hb⟩; have C4 := Lib.hid (below_next C3.out hb); clear hb))
        go_ret
        exact ⟨rfl, below_next HB.out C4.out⟩
end Go.Proofs.YtoenaehkhdcdmaaDoor
