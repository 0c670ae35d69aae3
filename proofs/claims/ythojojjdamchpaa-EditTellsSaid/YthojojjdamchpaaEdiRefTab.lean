/-
  The reference's table.
-/
import Derived.Test.YthojojjdamchpaaEdiRefTab0
import Derived.Test.YthojojjdamchpaaEdiRefFits
import Derived.Deep.RegionHeld3
namespace Go.Proofs.Ythojojjdamchpaa
open Go.RowKit Go.Shelf
set_option linter.unusedVariables false
set_option linter.unusedSimpArgs false

theorem tx_ext (b : ByteArray) (j : Nat) : tx (b.extract j b.size) = (tx b).drop j := by
  unfold tx
  simp only [ByteArray.data_extract, Array.toList_extract, List.extract_eq_take_drop]
  rw [List.take_of_length_le]
  simp
/-- a row that is being made -/
structure TI (c : Ed.Cst) (a b : ByteArray) (W1 : World) (Bd R p i q : Nat) (W : World) : Prop where
  bel : Below W1.heap.size W1 W
  td : TD c a b (Bd + 1) R Bd p W
  cel : W.cell? ⟨Bd, i, none⟩ = some (sl R (b.size + 1))
  row : ∃ g, RowI W R (b.size + 1) g ∧ ∀ j', j' ≤ b.size → b.size < j' + q → g j' = Dv c a b i j'
theorem TI.below {c : Ed.Cst} {a b : ByteArray} {W1 : World} {Bd R p i q : Nat} {W W' : World} (h : TI c a b W1 Bd R p i q W) (hb : Below W.heap.size W W') : TI c a b W1 Bd R p i q W' := by
  obtain ⟨h1, h2, h3, g, h4, h5⟩ := h
  refine ⟨h1.trans (hb.mono h1.size), h2.below hb, cell_keep h3 hb, g, h4.keep fun o _ ho => (hb.block _ (Array.getElem?_eq_some_iff.1 ho).1).trans ho, h5⟩
theorem TI.get {c : Ed.Cst} {a b : ByteArray} {W1 : World} {Bd R p i q j X Y : Nat} {W : World} (h : TI c a b W1 Bd R p i q W) (hi : i + p = a.size) (hj : j + q = b.size) (hX : i + X ≤ a.size) (hY : j + Y ≤ b.size) (h0 : 0 < X + Y) :
    ∃ blk, W.cell? ⟨Bd, i + X, none⟩ = some (.slice (some ⟨blk, 0, none⟩) (b.size + 1) (b.size + 1)) ∧ W.cell? ⟨blk, j + Y, none⟩ = some (.int .i64 (Dv c a b (i + X) (j + Y))) := by
  obtain ⟨h1, h2, h3, g, h4, h5⟩ := h
  rcases Nat.eq_zero_or_pos X with rfl | hp
  · refine ⟨R, h3, ?_⟩
    rw [h4.cell (j + Y) (by omega), h5 (j + Y) hY (by omega)]
    rfl
  · obtain ⟨blk, h6, -, h7⟩ := h2.get hX (by omega)
    exact ⟨blk, h6, h7 _ hY⟩
theorem TI.next {c : Ed.Cst} {a b : ByteArray} {W1 : World} {Bd R p i q j : Nat} {W : World} (h : TI c a b W1 Bd R p i q W) (hj : j + q = b.size) (hB : Bd < R) (hW : W1.heap.size ≤ Bd) : TI c a b W1 Bd R p i (q + 1) (W.setCell ⟨R, j, none⟩ (.int .i64 (Dv c a b i j))) := by
  obtain ⟨h1, h2, h3, g, h4, h5⟩ := h
  refine ⟨h1.setCell (p := ⟨R, j, none⟩) (by show W1.heap.size ≤ R; omega) _, h2.set R j _ (Nat.le_refl _) hB, set_cell_other h3 (by omega), _, h4.store j _ (by omega), fun j' hj' h6 => ?_⟩
  by_cases e : j' = j
  · subst e; simp
  · rw [if_neg e]; exact h5 j' hj' (by omega)
/-- the least over the first kinds, and what the loop holds -/
def Bst (c : Ed.Cst) (a b : ByteArray) (i j m : Nat) (z best : Int) : Prop := ∃ o, Ed.lst (fun k => Ed.cst c k + Dv c a b (i + Ed.tk k) (j + Ed.wr k)) ((tx a).drop i) ((tx b).drop j) m = o ∧ best = o.getD z ∧ (∀ v, o = some v → 0 ≤ v)
theorem Bst.no {c : Ed.Cst} {a b : ByteArray} {i j m : Nat} {z best : Int} (h : Bst c a b i j m z best) (hf : Ed.fit (m + 1) ((tx a).drop i) ((tx b).drop j) = false) : Bst c a b i j (m + 1) z best := by
  obtain ⟨o, h1, h2, h3⟩ := h
  refine ⟨o, ?_, h2, h3⟩
  unfold Ed.lst
  rw [if_neg (by rw [hf]; simp), h1]
theorem Bst.yes {c : Ed.Cst} {a b : ByteArray} {i j m : Nat} {best v : Int} (h : Bst c a b i j m (-1) best) (hf : Ed.fit (m + 1) ((tx a).drop i) ((tx b).drop j) = true) (hv : v = Ed.cst c (m + 1) + Dv c a b (i + Ed.tk (m + 1)) (j + Ed.wr (m + 1))) (h0 : 0 ≤ v) : Bst c a b i j (m + 1) (-1) (if best < 0 ∨ v < best then v else best) := by
  obtain ⟨o, h1, h2, h3⟩ := h
  cases o with
  | none =>
    have h2 : best = -1 := h2
    refine ⟨some v, ?_, ?_, fun u hu => by cases hu; exact h0⟩
    · unfold Ed.lst
      rw [if_pos hf, h1, hv]; rfl
    · rw [if_pos (.inl (by omega))]; rfl
  | some u =>
    have h2 : best = u := h2
    subst h2
    have hu := h3 _ rfl
    refine ⟨some (min best v), ?_, ?_, fun x hx => by cases hx; omega⟩
    · unfold Ed.lst
      rw [if_pos hf, h1, hv]; rfl
    · show _ = min best v
      split <;> omega
theorem Bst.end {c : Ed.Cst} {a b : ByteArray} {i j : Nat} {z best : Int} (h : Bst c a b i j 5 z best) (hi : i ≤ a.size) (hj : j ≤ b.size) (hz : z = 0 ∨ ¬ (i = a.size ∧ j = b.size)) : best = Dv c a b i j := by
  obtain ⟨o, h1, h2, h3⟩ := h
  have h4 := dv_lst c a b i j
  rw [h1] at h4
  rw [← h4, h2]
  cases o with
  | some v => rfl
  | none =>
    rcases hz with rfl | hz
    · rfl
    · obtain ⟨v, hv⟩ := Ed.lst_some (f := fun k => Ed.cst c k + Dv c a b (i + Ed.tk k) (j + Ed.wr k)) (a := (tx a).drop i) (b := (tx b).drop j) (by
        by_cases e : i = a.size
        · right
          intro e2
          have := congrArg List.length e2
          rw [List.length_drop, tx_len] at this
          simp at this
          omega
        · left
          intro e2
          have := congrArg List.length e2
          rw [List.length_drop, tx_len] at this
          simp at this
          omega)
      rw [h1] at hv
      cases hv
theorem fit_room {a b : ByteArray} {i j k : Nat} (hi : i ≤ a.size) (hj : j ≤ b.size) (hf : Ed.fit k ((tx a).drop i) ((tx b).drop j) = true) : i + Ed.tk k ≤ a.size ∧ j + Ed.wr k ≤ b.size ∧ 0 < Ed.tk k + Ed.wr k := by
  obtain ⟨h1, h2, h3⟩ := Ed.fit_len hf
  rw [List.length_drop, tx_len] at h1 h2
  omega
set_option maxRecDepth 100000 in
set_option maxHeartbeats 16000000 in
theorem table_any (a b : ByteArray) (c : Ed.Cst) (hc : c.ok) (ha : a.size ≤ 60) (hb : b.size ≤ 60) (w : World) :
    Calls Try.prog 25 #[.string a, .string b, cstV c] w fun e w' => ∃ Bd hi, e = .returned (sl Bd (a.size + 1)) ∧ TD c a b (Bd + 1) hi Bd (a.size + 1) w' ∧ Below w.heap.size w w' := by
  obtain ⟨W1, hW1, hb1, hq1, hcb⟩ := cboxF w c
  have fa := fun k h1 h5 s t V => fits_any k h1 h5 s t c V
  unfold cstV PostF at fa
  unfold cstV
  have FA := Lib.hid fa; have HC := Lib.hid hc
  have HB1 := Lib.hid hb1
  have HCB := Lib.hid hcb
  have hai : (a.size : Int) ≤ 60 := by omega
  have hbi : (b.size : Int) ≤ 60 := by omega
  clear fa hc hb1 hcb
  have hs1 : w.heap.size + 1 = W1.heap.size := by rw [hW1]; simp
  have HS1 := Lib.hid hs1
  clear hs1
  have hs1 : w.heap.size + 1 = W1.heap.size := by rw [hW1]; simp
  have HS1 := Lib.hid hs1
  clear hs1
  have hs1 : w.heap.size + 1 = W1.heap.size := by rw [hW1]; simp
  have HS1 := Lib.hid hs1
  clear hs1
  have hs1 : w.heap.size + 1 = W1.heap.size := by rw [hW1]; simp
  have HS1 := Lib.hid hs1
  clear hs1
  have hs1 : w.heap.size + 1 = W1.heap.size := by rw [hW1]; simp
  have HS1 := Lib.hid hs1
  clear hs1
  go_enter Try.func25, Try.ntmps25
  go_wp2_with (at_make; rw [← hW1]; refine wpList_make_tab _ rfl _ _ rfl (a.size + 1) rfl rfl (by omega) ?_; intro V hcs h3 hs3; unfold sl; have HCS := Lib.hid hcs; have H3 := Lib.hid h3; have HS3 := Lib.hid hs3; clear hcs h3 hs3)
  obtain ⟨Bd, hBd⟩ : ∃ Bd, w.heap.size + 1 = Bd := ⟨_, rfl⟩
  rw [hBd]
  have hs1 := HS1.out
  rw [hBd] at hs1
  have hcs := HCS.out; have hs3 := HS3.out
  rw [← hs1] at hcs hs3
  obtain ⟨cs0, hcs1, hcs2⟩ := hcs
  have HT0 : Hid (TD c a b (Bd + 1) V.heap.size Bd 0 V) := Lib.hid ⟨cs0, hcs1, hcs2, fun i h1 h2 => by omega⟩
  have HQ := Lib.hid (show w.heap.size < Bd by omega)
  have HWs := Lib.hid hs1.symm
  clear hcs1 hcs2 hs1 hs3 HCS HS1 hW1 hq1 hBd
  have HCK := Lib.hid (fun wr (h : Below W1.heap.size W1 wr) => (show wr.cell? ⟨w.heap.size, 0, none⟩ = some (.int .i64 c.ins) ∧ wr.cell? ⟨w.heap.size, 1, none⟩ = some (.int .i64 c.del) ∧ wr.cell? ⟨w.heap.size, 2, none⟩ = some (.int .i64 c.chg) ∧ wr.cell? ⟨w.heap.size, 3, none⟩ = some (.int .i64 c.swp) from ⟨cell_keep HCB.out.1 h, cell_keep HCB.out.2.1 h, cell_keep HCB.out.2.2.1 h, cell_keep HCB.out.2.2.2 h⟩))
  go_loopw [8] (fun j8 wr => ∃ (p : Nat) (z : Int), p ≤ a.size + 1 ∧ z = (a.size : Int) - p ∧ j8 = .int .i64 z ∧ Hid (Bd < wr.heap.size ∧ TD c a b (Bd + 1) wr.heap.size Bd p wr) ∧ Hid (Below W1.heap.size W1 wr)) (fun j8 _ => (intOf j8 + 1).toNat)
  case atStart => exact ⟨0, _, by omega, by omega, rfl, Lib.hid ⟨by have := HS3.out; have := HWs.out; omega, HT0.out⟩, H3⟩
  case round =>
    obtain ⟨p, z, hp, hz, rfl, HT, HB⟩ := hrel
    clear HT0 H3 HS3
    by_cases hpl : p ≤ a.size
    · obtain ⟨i, hi⟩ : ∃ i, i + p = a.size := ⟨a.size - p, by omega⟩
      obtain rfl : z = (i : Int) := by omega
      clear hz
      have i1 : decide ((0 : Int) ≤ (i : Int)) = true := decide_eq_true (by omega)
      have i2 : (i : Int) < (a.size : Int) + 1 := by omega
      have i3 : (i : Int) ≤ 60 := by omega
      obtain ⟨R, hR⟩ : ∃ R, wr.heap.size = R := ⟨_, rfl⟩
      have ht := HT.out
      rw [hR] at ht
      have HT := Lib.hid ht
      have HRs := Lib.hid hR
      clear ht hR
      go_wp2_with (at_make; refine wpList_make_rowR _ rfl _ _ rfl (b.size + 1) rfl rfl (by omega) ?_; intro V7 hr7 hb7 hs7; unfold sl; rw [HRs.out] at hr7 hb7 hs7 ⊢; have HR7 := Lib.hid hr7; have HB7 := Lib.hid hb7; have HS7 := Lib.hid hs7; have hT7 : TD c a b (Bd + 1) R Bd p V7 := HT.out.2.below (by rw [HRs.out]; exact hb7); have hfz : V7.frozen? ⟨Bd, i, none⟩ = false := (by obtain ⟨cs, h1, _⟩ := hT7; exact blk_frozen h1 i); have hcl : ∃ v, V7.cell? ⟨Bd, i, none⟩ = some v := (by obtain ⟨cs, h1, h2, _⟩ := hT7; rw [cell_of_row V7 Bd i cs _ _ h1]; exact ⟨_, Array.getElem?_eq_getElem (by omega)⟩); obtain ⟨v7, hv7⟩ := hcl; have HT7 := Lib.hid hT7; clear hT7 hr7 hb7 hs7)
      have hsR : Bd < R := by have := HT.out.1; omega
      have HSR := Lib.hid hsR
      have hTI : TI c a b W1 Bd R p i 0 (V7.setCell ⟨Bd, i, none⟩ (.slice (some ⟨R, 0, none⟩) (b.size + 1) (b.size + 1))) := by
        obtain ⟨h1, h2⟩ := HT7.out.put hi (Nat.lt_succ_self _) (.slice (some ⟨R, 0, none⟩) (b.size + 1) (b.size + 1))
        refine ⟨Below.setCell (HB.out.trans (HB7.out.mono (by have := HWs.out; omega))) (p := ⟨Bd, i, none⟩) (by show W1.heap.size ≤ Bd; have := HWs.out; omega) _, h1, h2, _, HR7.out.keep fun o _ ho => (heap_set_other V7 Bd i R _ (by omega)).trans ho, fun j' h3 h4 => by omega⟩
      have HTI := Lib.hid hTI
      clear hTI HT HT7 HR7 HB7 HS7 hfz hv7 hsR i1 i2 HB
      go_loopw [9] (fun j9 wx => ∃ (q : Nat) (z : Int), q ≤ b.size + 1 ∧ z = (b.size : Int) - q ∧ j9 = .int .i64 z ∧ Hid (TI c a b W1 Bd R p i q wx)) (fun j9 _ => (intOf j9 + 1).toNat)
      case atStart => exact ⟨0, _, by omega, by omega, rfl, HTI⟩
      case round =>
        obtain ⟨q, z, hq, hz, rfl, HTQ⟩ := hrel
        clear HTI
        by_cases hql : q ≤ b.size
        · obtain ⟨j, hj⟩ : ∃ j, j + q = b.size := ⟨b.size - q, by omega⟩
          obtain rfl : z = (j : Int) := by omega
          clear hz
          have j1 : decide ((0 : Int) ≤ (j : Int)) = true := decide_eq_true (by omega)
          have j2 : (j : Int) < (b.size : Int) + 1 := by omega
          have j3 : (j : Int) ≤ 60 := by omega
          have i2 : (i : Int) < (a.size : Int) + 1 := by omega
          have ii : (i : Int) ≤ (a.size : Int) := by omega
          have jj : (j : Int) ≤ (b.size : Int) := by omega
          have hil : i ≤ a.size := by omega
          have hjl : j ≤ b.size := by omega
          obtain ⟨zb, hzb⟩ : ∃ zb : Int, (if i = a.size ∧ j = b.size then (0 : Int) else -1) = zb := ⟨_, rfl⟩
          have hzc : (zb = 0 ∧ i = a.size ∧ j = b.size) ∨ (zb = -1 ∧ ¬ (i = a.size ∧ j = b.size)) := by
            rw [← hzb]
            by_cases e : i = a.size ∧ j = b.size
            · rw [if_pos e]; exact .inl ⟨rfl, e.1, e.2⟩
            · rw [if_neg e]; exact .inr ⟨rfl, e⟩
          have HZC := Lib.hid hzc
          have hbits : ∃ e1 e2 : Bool, ((i : Int) == (a.size : Int)) = e1 ∧ ((j : Int) == (b.size : Int)) = e2 ∧ zb = (if e1 && e2 then (0 : Int) else -1) := by
            refine ⟨_, _, rfl, rfl, ?_⟩
            by_cases f1 : i = a.size
            · by_cases f2 : j = b.size
              · rw [← hzb, if_pos ⟨f1, f2⟩, f1, f2]; simp
              · rw [← hzb, if_neg (by omega), show ((j : Int) == (b.size : Int)) = false by rw [beq_eq_false_iff_ne]; omega]; simp
            · rw [← hzb, if_neg (by omega), show ((i : Int) == (a.size : Int)) = false by rw [beq_eq_false_iff_ne]; omega]; simp
          obtain ⟨e1, e2, b1, b2, hzv⟩ := hbits
          clear hzb hzc
          cases e1 <;> cases e2
          all_goals
            simp only [Bool.and_true, Bool.and_false, Bool.false_and, Bool.true_and, if_true, Bool.false_eq_true, if_false, Bool.and_self] at hzv
            have HZV := Lib.hid hzv
            clear hzv
            go_wp2
            clear b1 b2
            go_loopw [11, 10] (fun j11 j10 wy => ∃ (k : Nat) (best : Int), 1 ≤ k ∧ k ≤ 6 ∧ j11 = .int .u8 (k : Int) ∧ j10 = .int .i64 best ∧ Hid (Bst c a b i j (k - 1) zb best) ∧ Hid (TI c a b W1 Bd R p i q wy)) (fun j11 _ _ => 6 - (intOf j11).toNat)
            case atStart => exact ⟨1, _, by omega, by omega, rfl, rfl, Lib.hid ⟨none, rfl, HZV.out.symm, fun v h => by cases h⟩, HTQ⟩
            case round =>
              obtain ⟨k, best, hk1, hk6, rfl, rfl, HBS, HTY⟩ := hrel
              clear HTQ
              by_cases hk5 : k ≤ 5
              · have k1 : decide ((k : Int) ≤ 5) = true := decide_eq_true (by omega)
                have k2 : (k : Int) ≤ 5 := by omega
                have FK := FA.out k hk1 hk5 (a.extract i a.size) (b.extract j b.size)
                rw [tx_ext, tx_ext] at FK
                obtain ⟨F, hF⟩ : ∃ F, Ed.fit k ((tx a).drop i) ((tx b).drop j) = F := ⟨_, rfl⟩
                obtain ⟨X, hX⟩ : ∃ X, Ed.tk k = X := ⟨_, rfl⟩
                obtain ⟨Y, hY⟩ : ∃ Y, Ed.wr k = Y := ⟨_, rfl⟩
                obtain ⟨C, hC⟩ : ∃ C, Ed.cst c k = C := ⟨_, rfl⟩
                have hC0 : 0 ≤ C := by rw [← hC]; exact Ed.cst_nonneg HC.out k
                have hC1 : C ≤ 1000 := by rw [← hC]; exact Ed.cst_max HC.out k
                have hroom := fun (h : F = true) => fit_room (k := k) hil hjl (hF.trans h)
                rw [hF, hX, hY, hC] at FK
                rw [hX, hY] at hroom
                have FK := Lib.hid FK
                have HF := Lib.hid hF; have HX := Lib.hid hX; have HY := Lib.hid hY; have HCC := Lib.hid hC
                clear hF hX hY hC
                have hbd : Below wr.heap.size wr wr.drew := below_drewN (Below.refl _ _) 1
                obtain ⟨q0, q1, q2, q3⟩ := HCK.out _ HTY.out.bel
                have HTD := Lib.hid (HTY.out.below hbd)
                obtain ⟨y0, y1, y2, y3⟩ := HCK.out _ HTD.out.bel
                clear hbd HTY
                go_wp2
                go_region_held3 (fun W => W.cell? ⟨w.heap.size, 0, none⟩ = some (.int .i64 c.ins) ∧ W.cell? ⟨w.heap.size, 1, none⟩ = some (.int .i64 c.del) ∧ W.cell? ⟨w.heap.size, 2, none⟩ = some (.int .i64 c.chg) ∧ W.cell? ⟨w.heap.size, 3, none⟩ = some (.int .i64 c.swp))
                  (first | exact ⟨q0, q1, q2, q3⟩ | exact ⟨y0, y1, y2, y3⟩)
                  (first | (go_at_call 26; (with_reducible refine (FK.out _).mono ?_); rintro e V9 ⟨rfl, hb⟩; have HTD := Lib.hid (HTD.out.below hb); clear q0 q1 q2 q3; obtain ⟨q0, q1, q2, q3⟩ := HCK.out _ HTD.out.bel; clear hb))
                clear q0 q1 q2 q3 y0 y1 y2 y3
                cases F with
                | false =>
                  have HN : Hid (Bst c a b i j (k + 1 - 1) zb best) := Lib.hid (by
                    obtain ⟨m, rfl⟩ : ∃ m, k = m + 1 := ⟨k - 1, by omega⟩
                    exact HBS.out.no HF.out)
                  clear hroom HBS
                  go_wp2
                  go_roundw
                  case rel => exact ⟨k + 1, best, by omega, by omega, by go_num, rfl, HN, HTD⟩
                  case measure => simp [intOf] <;> omega
                | true =>
                  obtain ⟨r1, r2, r3⟩ := hroom rfl
                  obtain ⟨blk, z0, z1⟩ := HTD.out.get hi hj r1 r2 r3
                  obtain ⟨d0, d1⟩ := dv_bound HC.out a b ha hb (i + X) (j + Y)
                  obtain ⟨dv, hdv⟩ : ∃ dv, Dv c a b (i + X) (j + Y) = dv := ⟨_, rfl⟩
                  rw [hdv] at z1 d0 d1
                  have hz1 : zb = -1 := by
                    rcases HZC.out with ⟨_, e1, e2⟩ | ⟨h, _⟩
                    · omega
                    · exact h
                  have HBY : Hid (Bst c a b i j (k + 1 - 1) zb (if best < 0 ∨ C + dv < best then C + dv else best)) := Lib.hid (by
                    obtain ⟨m, rfl⟩ : ∃ m, k = m + 1 := ⟨k - 1, by omega⟩
                    have h := HBS.out
                    rw [hz1] at h ⊢
                    exact Bst.yes h HF.out (by rw [HX.out, HY.out, HCC.out, hdv]) (by omega))
                  have x1 : (i : Int) + (X : Int) < (a.size : Int) + 1 := by omega
                  have x2 : (j : Int) + (Y : Int) < (b.size : Int) + 1 := by omega
                  have x3 : (X : Int) ≤ 60 := by omega
                  have x4 : (Y : Int) ≤ 60 := by omega
                  have x5 : ((i : Int) + (X : Int)).toNat = i + X := by omega
                  have x6 : ((j : Int) + (Y : Int)).toNat = j + Y := by omega
                  clear hroom HBS hdv hz1 r1 r2 r3
                  by_cases hb0 : best < 0
                  · have v1 : decide (best < 0) = true := decide_eq_true hb0
                    have HN : Hid (Bst c a b i j (k + 1 - 1) zb (C + dv)) := Lib.hid (by have h := HBY.out; rw [if_pos (.inl hb0)] at h; exact h)
                    clear HBY hb0
                    go_wp2
                    go_roundw
                    case rel => exact ⟨k + 1, C + dv, by omega, by omega, by go_num, rfl, HN, HTD⟩
                    case measure => simp [intOf] <;> omega
                  · have v1 : decide (best < 0) = false := decide_eq_false hb0
                    by_cases hv : C + dv < best
                    · have v2 : decide (C + dv < best) = true := decide_eq_true hv
                      have HN : Hid (Bst c a b i j (k + 1 - 1) zb (C + dv)) := Lib.hid (by have h := HBY.out; rw [if_pos (.inr hv)] at h; exact h)
                      clear HBY hb0 hv
                      go_wp2
                      go_roundw
                      case rel => exact ⟨k + 1, C + dv, by omega, by omega, by go_num, rfl, HN, HTD⟩
                      case measure => simp [intOf] <;> omega
                    · have v2 : decide (C + dv < best) = false := decide_eq_false hv
                      have HN : Hid (Bst c a b i j (k + 1 - 1) zb best) := Lib.hid (by have h := HBY.out; rw [if_neg (by omega)] at h; exact h)
                      clear HBY hb0 hv
                      go_wp2
                      go_roundw
                      case rel => exact ⟨k + 1, best, by omega, by omega, by go_num, rfl, HN, HTD⟩
                      case measure => simp [intOf] <;> omega
              · obtain rfl : k = 6 := by omega
                have he := Bst.end HBS.out hil hjl (HZC.out.elim (fun h => .inl h.1) (fun h => .inr h.2))
                subst he
                have z0 : _ = some (Value.slice (some ⟨R, 0, none⟩) (b.size + 1) (b.size + 1)) := HTY.out.cel
                have HTN := Lib.hid (HTY.out.next hj HSR.out (by rw [HWs.out]; exact Nat.le_refl _))
                obtain ⟨g, hg1, -⟩ := HTY.out.row
                have z1 := hg1.cell j (by omega)
                have z2 := hg1.frozen j
                clear hg1 HBS
                go_wp2
                go_roundw
                case rel => exact ⟨q + 1, (j : Int) - 1, by omega, by omega, by go_num, HTN⟩
                case measure => simp [intOf] <;> omega
        · obtain rfl : q = b.size + 1 := by omega
          obtain rfl : z = -1 := by omega
          have HTN : Hid (_ ∧ _ ∧ _) := Lib.hid (And.intro (show Bd < wr.heap.size by
              obtain ⟨g, hg1, -⟩ := HTQ.out.row
              have := hg1.lt
              have := HSR.out
              omega) (And.intro (show TD c a b (Bd + 1) wr.heap.size Bd (p + 1) wr by
              obtain ⟨g, hg1, hg2⟩ := HTQ.out.row
              exact (HTQ.out.td.done hi HTQ.out.cel hg1 HSR.out (Nat.le_refl _) (fun j hj => hg2 j hj (by omega))).mono hg1.lt) HTQ.out.bel))
          clear hz
          go_wp2
          go_roundw
          case rel => exact ⟨p + 1, (i : Int) - 1, by omega, by omega, by go_num, Lib.hid ⟨HTN.out.1, HTN.out.2.1⟩, Lib.hid HTN.out.2.2⟩
          case measure => simp [intOf] <;> omega
    · obtain rfl : p = a.size + 1 := by omega
      obtain rfl : z = -1 := by omega
      clear hz
      go_wp2
      go_ret
      exact ⟨Bd, _, rfl, HT.out.2, HB1.out.trans (HB.out.mono HB1.out.size)⟩
end Go.Proofs.Ythojojjdamchpaa
