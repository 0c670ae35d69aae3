/-
  The walk of Tokens where the lines are right.
-/
import Derived.Test.YtcponhdeffnndaaGreatDoorTokTks
namespace Go.Proofs.YtcponhdeffnndaaGreatDoor
open Go.RowKit Go.Shelf
set_option linter.unusedVariables false
set_option linter.unusedSimpArgs false
attribute [local go_sem] Oper.semAt_some

theorem row_slice4 {w : World} {base e n : Nat} {v : Value} {xs : List Value} (h : w.ownsRow base e 4 v n xs) : ∃ A c, v = .slice A n c := by
  rcases h.2 with ⟨hv, h2⟩ | ⟨g, cap, cur, hv, _⟩
  · exact ⟨none, 0, by rw [hv, h2]⟩
  · exact ⟨_, _, hv⟩
theorem cells_four_new (W : World) (TB : ByteArray) (a b c N : Nat) (hN : N = W.heap.size) : ∀ j u, [Value.string TB, .int .i64 a, .int .i64 b, .int .u16 c][j]? = some u → (W.alloc (.cells #[.string TB, .int .i64 a, .int .i64 b, .int .u16 c] 44)).cell? ((⟨N, 0, none⟩ : Addr).add j) = some u := by
  subst hN
  have h := heap_alloc_new W (.cells #[.string TB, .int .i64 a, .int .i64 b, .int .u16 c] 44)
  intro j u hj
  match j, hj with
  | 0, hj => simp at hj; subst hj; exact cell_of_row _ _ 0 _ _ _ h
  | 1, hj => simp at hj; subst hj; exact cell_of_row _ _ 1 _ _ _ h
  | 2, hj => simp at hj; subst hj; exact cell_of_row _ _ 2 _ _ _ h
  | 3, hj => simp at hj; subst hj; exact cell_of_row _ _ 3 _ _ _ h
def obT (x : Tk.T) : Obj := .cells #[.string ⟨x.text.toArray⟩, .int .i64 x.line, .int .i64 x.at', .int .u16 0] 44
set_option maxRecDepth 100000 in
set_option maxHeartbeats 2000000 in
theorem tokens_ok (A : Option Addr) (n c : Nat) (ls : List (List UInt8)) (w : World) (hw : Rdy w) (hn : ls.length = n) (hrd : RdS w A ls) (h6 : n ≤ 6) (hlo : ls.any Tk.long = false) (hwr : ls.any Tk.wrong = false) :
    Calls Tryz.prog 26 #[.slice A n c] w (PostToks ls w) := by
  have hok := ok_of (by omega) hlo hwr
  have hm : ∀ x ∈ ls, x.length ≤ 100000000 := fun x hx => Nat.le_trans (hok.len x hx) (by decide)
  obtain ⟨w1, hw1, hb1, hs1, hr1⟩ := tk_start w
  have q1 := fun V (hV : Rdy V) (h : RdS V A ls) => containsS_any A n c 41 100000000 Tk.long ls V hV isLong_tells hn (by omega) h hm
  have q2 := fun V (hV : Rdy V) (h : RdS V A ls) => containsS_any A n c 66 100000000 Tk.wrong ls V hV isWrong_tells hn (by omega) h hm
  rw [hlo] at q1
  rw [hwr] at q2
  have q3 := fun V => words_box A n c V
  have hE : Tk.tokE ls = if 40 < (Tk.tokensOf ls).length then 5 else 0 := by
    rcases tokE_cases ls with ⟨h, _⟩ | ⟨_, h, _⟩ | ⟨_, _, h, _⟩ | ⟨_, _, _, h⟩
    · omega
    · rw [hlo] at h; cases h
    · rw [hwr] at h; cases h
    · exact h
  have Q1 := Lib.hid q1; have Q2 := Lib.hid q2; have Q3 := Lib.hid q3
  have R0 := Lib.hid hw; have R1 := Lib.hid (hw.below hb1); have HRD0 := Lib.hid hrd; have HRD := Lib.hid (hrd.below hb1); have HB1 := Lib.hid hb1; have HR1 := Lib.hid hr1; have HS1 := Lib.hid hs1; have HE := Lib.hid hE; have HOK := Lib.hid hok; have HNN := Lib.hid hn
  have hd : ¬ (6 : Int) < n := by omega
  clear q1 q2 q3 hw hrd hm hb1 hs1 hr1 hE hok hlo hwr hn h6
  refine (callsIn_wide (n := 6)).1 ?_
  refine callsIn_of_wp_marks Tryz.func26 rfl trivial ?_ rfl
  simp only [Tryz.ntmps26, List.size_toArray, List.length_cons, List.length_nil, Nat.reduceAdd, Nat.reduceSub, Array.replicate_succ, Array.replicate_zero, List.push_toArray, List.append_toArray, List.nil_append, List.cons_append]
  gi_wp2_with fail
  rw [← hw1]
  gi_wp2_with (first
    | (refine ⟨trivial, ?_⟩; gi_at_call 40; (with_reducible refine (callsIn_wide.2 (Q1.out _ R1.out HRD.out)).mono ?_); rintro e w2 ⟨rfl, hb⟩; have H2 := Lib.hid hb; have R2 := Lib.hid (R1.out.below hb); have HRD2 := Lib.hid (HRD.out.below hb); clear hb)
    | (refine ⟨trivial, ?_⟩; gi_at_call 40; (with_reducible refine (callsIn_wide.2 (Q2.out _ R2.out HRD2.out)).mono ?_); rintro e w3 ⟨rfl, hb⟩; have H3 := Lib.hid (below_next H2.out hb); clear hb)
    | (refine ⟨trivial, ?_⟩; gi_at_call 67; (with_reducible refine (callsIn_wide.2 (Q3.out _)).mono ?_); rintro e w5 ⟨rfl, hw5⟩; have HW5 := Lib.hid hw5; clear hw5))
  obtain ⟨X, hX⟩ : ∃ X, w3.heap.size = X := ⟨_, rfl⟩
  have hwX : w.heap.size + 2 ≤ X := by have := H3.out.size; have := HS1.out; omega
  have eV : (w3.alloc (.cells #[.slice none 0 0] 38)).heap.size = X + 1 := by rw [← hX]; simp
  have hw5 := HW5.out
  have hb3 : Below w.heap.size w w3 := below_next HB1.out H3.out
  have hb5 : Below w.heap.size w w5 := by rw [hw5]; exact below_next (below_next hb3 (below_new _ _)) (below_new _ _)
  have h35 : Below w3.heap.size w3 w5 := by rw [hw5]; exact below_next (below_new _ _) (below_new _ _)
  have hn5 : w5.heap.size = X + 2 := by rw [hw5]; simp [hX]
  have hbx : Boxed w5 X 38 (.slice none 0 0) := by rw [hw5]; exact heap_keep (new_at _ _ _ hX.symm) (below_new _ _)
  have hr5 : RB2 38 w.heap.size (.slice none 0 0) 0 w5 := HR1.out.keep fun k o _ _ ho => heap_keep (heap_keep ho H3.out) h35
  have hcap : CapW w.heap.size (X + 1) w5.heap.size (X + 1) A c ls w5 := by
    refine ⟨?_, by omega, fun h0 => ?_⟩
    · rw [hw5, HNN.out]; exact cell_of_row _ _ 0 _ _ _ (new_at _ _ _ eV.symm)
    · obtain ⟨b, off, e, h1, h2⟩ := HRD0.out h0
      exact ⟨b, off, e, by omega, fun i hi => cell_keep (h2 i hi) ⟨hb5.os, hb5.tape, hb5.output, hb5.size, hb5.block⟩⟩
  rw [hX]
  have HB5 := Lib.hid hb5; have HN := Lib.hid hn5; have HBX := Lib.hid hbx; have HR5 := Lib.hid hr5; have HCP := Lib.hid hcap; have HWX := Lib.hid hwX
  clear hw5 hb3 hb5 h35 hn5 hbx hr5 hcap hwX eV hX HW5 H2 H3 R2 HRD2 hw1 Q1 Q2 Q3 HR1 HB1 HS1 HRD R1
  refine wp_tolcb (gf := 135) (lb := #[.pointer (some ⟨X + 1, 0, none⟩)]) rfl (enters_of Tryz.func135 (by kernel_rfl) rfl)
    (words_told ls HOK.out w.heap.size (X + 1) w5.heap.size (X + 1) A c w5 HCP.out) (Below.refl _ _) KT.trans (fun W k o o' hk h hcc => KT.putObj W k o o' h hcc)
    (fun _ _ _ _ _ _ h _ _ => h) (fun _ => rfl)
    (TI w.heap.size X w5.heap.size w) (TX w.heap.size w)
    (TI.own (by have := HN.out; have := HWX.out; omega) (Nat.le_refl _)) (TX.own (by have := HN.out; have := HWX.out; omega) (Nat.le_refl _))
    (TI.chg (Nat.le_refl _)) (TX.chg (Nat.le_refl _)) (fun _ _ k o hk hc ho => heap_keep ho hc)
    ⟨⟨_, HBX.out, World.ownsRow_nil _ _ _ _, Nat.zero_le _⟩, HR5.out, Nat.le_refl _, HB5.out⟩
    obT (fun x g => { tmps := #[.slice A n c, undef, .pointer (some ⟨w.heap.size, 0, none⟩), .pointer (some ⟨w.heap.size + 1, 0, none⟩), .pointer (some ⟨X, 0, none⟩), .pointer (some ⟨g, 0, none⟩), .bool false, .slice A n c, .int .i64 n, .bool false, .bool false, .slice A n c, .bool false, .bool false, .slice A n c, .bool false, .slice A n c, .func (.func 135) #[] #[.pointer (some ⟨X + 1, 0, none⟩)], .agg #[.string ⟨x.text.toArray⟩, .int .i64 x.line, .int .i64 x.at', .int .u16 0], undef, undef, undef, undef, undef, undef, undef, undef, undef, undef, undef, undef], defers := [] })
    (fun pre x W h => h) (fun x W => KT.below (below_new W _)) ?assign ?body ?done ?stop
  case assign =>
    intro l x W K hK
    unfold encT
    unfold obT at hK
    gi_wp2
    exact hK
  case body =>
    rintro l pre x g W hg hgc ⟨⟨v, hv, hrow, h40⟩, hr, hNW, hB⟩ ⟨hx60, qq, hqq⟩ ⟨Z, hZg, ⟨⟨v', hv', hrow', _⟩, _⟩, hZ⟩
    have hvv : v' = v := by
      have h1 := hZ _ _ hv' rfl
      have h2 := (show W.heap[X]? = some (.cells #[v] 38 (0, 0)) from hv)
      rw [h2] at h1
      injection h1 with h1
      injection h1 with h1
      injection h1 with h1
      injection h1 with h1
      first | exact h1.symm | exact h1 | exact (List.cons.inj h1).1.symm
    subst hvv
    have hlt : ∀ k, v'.ownBlock = some k → w5.heap.size ≤ k ∧ k < g := fun k hk => by have := hrow'.lt k hk; omega
    obtain ⟨A1, c1, rfl⟩ := row_slice4 hrow
    unfold obT at hgc
    obtain ⟨TB, hTB⟩ : ∃ TB : ByteArray, TB = ⟨x.text.toArray⟩ := ⟨_, rfl⟩
    have hcl := fun V (h : Rdy V) => cls_any TB V h (by rw [hTB, size_of]; omega)
    rw [show TB.data.toList = x.text by rw [hTB]] at hcl
    unfold PostU16 at hcl
    rw [← hTB] at hgc ⊢
    have hRW : Rdy W := R0.out.below hB
    have HCL := Lib.hid (hcl W hRW)
    have hc := hv.cell
    have g0 : W.cell? ⟨g, 0, none⟩ = some (.string TB) := cell_of_row _ _ 0 _ _ _ hgc
    obtain ⟨m, hm⟩ : ∃ m, pre.length = m := ⟨_, rfl⟩
    rw [hm] at hc hv hrow h40 hlt
    have HV := Lib.hid hv; have HROW := Lib.hid hrow; have HR := Lib.hid hr; have HB := Lib.hid hB; have HGC := Lib.hid hgc; have HM := Lib.hid hm; have HLT := Lib.hid hlt; have HTB := Lib.hid hTB; have HG := Lib.hid hg
    clear hcl hRW hv hrow hr hB hgc hm hlt hTB hv' hrow' hZ hZg hg
    by_cases h44 : m = 40
    · have h7 : ((m : Int) == 40) = true := by rw [beq_iff_eq]; omega
      have H44 := Lib.hid h44
      obtain ⟨z3, z4⟩ := box1 HR.out.h1
      obtain ⟨z5, z6⟩ := box1 HR.out.h2
      clear h44
      gi_wp2
      refine ⟨set2_keeps (by have := HN.out; have := HWX.out; omega) _ _, rfl, HR.out.set, ?_, set2_below HB.out _ _⟩
      rw [List.length_append, HM.out, H44.out]; simp
    · have h7 : ((m : Int) == 40) = false := by rw [beq_eq_false_iff_ne]; omega
      have hm39 : m ≤ 39 := by omega
      clear h44 h40
      obtain ⟨i0, hi, hz0, hz1, hz2⟩ := info_parts infoTok
      obtain ⟨C, hC⟩ : ∃ C, Tk.cls x.text = C := ⟨_, rfl⟩
      rw [hC] at HCL
      have HC := Lib.hid hC
      clear hC
      gi_wp2_with (first
        | (refine ⟨trivial, ?_⟩; gi_at_call 28; (with_reducible refine (CallsIn.inRound l (callsIn_wide.2 HCL.out)).mono ?_); rintro e w6 ⟨rfl, hb⟩; have H6 := Lib.hid hb; go_loud (have hc6 := cell_keep hc hb; have hg6 := heap_keep HGC.out hb; have hf6 := blk_frozen hg6 3; have hg3 : w6.cell? ⟨g, 3, none⟩ = some (.int .u16 0) := cell_of_row _ _ 3 _ _ _ hg6; have HG6 := Lib.hid hg6; have hy := (heap_setCell_same w6 g 3 _ _ _ hg6 : (w6.setCell ⟨g, 3, none⟩ (.int .u16 C)).heap[g]? = _); have y0 : (w6.setCell ⟨g, 3, none⟩ (.int .u16 C)).cell? ⟨g, 0, none⟩ = some (.string TB) := cell_of_row _ _ 0 _ _ _ hy; have y1 : (w6.setCell ⟨g, 3, none⟩ (.int .u16 C)).cell? ⟨g, 1, none⟩ = some (.int .i64 x.line) := cell_of_row _ _ 1 _ _ _ hy; have y2 : (w6.setCell ⟨g, 3, none⟩ (.int .u16 C)).cell? ⟨g, 2, none⟩ = some (.int .i64 x.at') := cell_of_row _ _ 2 _ _ _ hy; have y3 : (w6.setCell ⟨g, 3, none⟩ (.int .u16 C)).cell? ⟨g, 3, none⟩ = some (.int .u16 C) := cell_of_row _ _ 3 _ _ _ hy; have HV3 := Lib.hid (show Boxed (w6.setCell ⟨g, 3, none⟩ (.int .u16 C)) X _ _ from (heap_set_other _ _ _ _ _ (by have := HN.out; have := HG.out; omega)).trans (heap_keep HV.out hb)); have HROW3 := Lib.hid (row_keep (row_keep HROW.out fun k o _ ho => heap_keep ho hb) fun k o hk ho => (heap_set_other w6 g 3 k (.int .u16 C) (by have := (HLT.out k hk).2; omega)).trans ho); have hN6 := Nat.le_trans hNW hb.size; clear hb hg6 hy))
        | (gi_at_builtin; go_loud (refine wpListIn_append_own _ rfl _ _ 38 rfl w5.heap.size 44 i0 (.agg #[.string ⟨#[]⟩, .int .i64 0, .int .i64 0, .int .u16 0]) 4 40 Tryz.underlying38 hi hz0 hz1 hz2 rfl (by decide) _ _ _ rfl (HROW3.out.alloc _) ⟨w6.heap.size, 0, none⟩ 1 1 [.string TB, .int .i64 x.line, .int .i64 x.at', .int .u16 C] rfl rfl (cells_four_new (w6.setCell ⟨g, 3, none⟩ (.int .u16 C)) TB x.line x.at' C w6.heap.size (by simp)) (by simp [Value.oneCell']) (by unfold maxLen; omega) (by omega) (by simp; omega) ?_; intro v2 w8 hown' hgrow _; obtain ⟨g', cap', rfl⟩ := ownsRow_succ hown'; have HOW := Lib.hid hown'; have HGR := Lib.hid hgrow; obtain ⟨hv1, hv2, hr2, hk2, hb2⟩ := HV3.out.appended (by decide) (row_mono HROW3.out (show X ≤ w5.heap.size by have := HN.out; omega)) (by simp; have := HN.out; omega) (Nat.le_refl _) (row_mono hown' (show X ≤ w5.heap.size by have := HN.out; omega)) hgrow; have hc1 := hv1.cell; have hf1 := hv1.frozen; have HV2 := Lib.hid hv2; have HK2 := Lib.hid hk2; have HBB2 := Lib.hid hb2; clear hown' hgrow hv1 hv2 hr2 hk2 hb2)))
      have hb := H6.out
      have hgN := HG.out
      have hnn := HN.out
      have hwx := HWX.out
      have hown : ∀ k, (Value.slice A1 m c1).ownBlock = some k → w5.heap.size ≤ k := fun k hk => (HLT.out k hk).1
      have hat : ∀ (u : Value) k o, k ≠ X → k ≠ g → some k ≠ (Value.slice A1 m c1).ownBlock → W.heap[k]? = some o → (w8.setCell ⟨X, 0, none⟩ u).heap[k]? = some o := by
        intro u k o hx hgk hnk ho
        have h6 := heap_keep ho hb
        have h7 : (w6.setCell ⟨g, 3, none⟩ (.int .u16 C)).heap[k]? = some o := (heap_set_other _ _ _ _ _ hgk).trans h6
        have h8 := heap_keep h7 (below_new _ (.cells #[.string TB, .int .i64 x.line, .int .i64 x.at', .int .u16 C] 44))
        rw [heap_set_other _ _ _ _ _ hx, HGR.out.block k (Array.getElem?_eq_some_iff.1 h8).1 hnk]
        exact h8
      refine ⟨KeepsFrom.trans (KeepsFrom.trans ⟨hb.size, fun k o _ ho _ => heap_keep ho hb⟩ ⟨by simp, fun k o _ ho hnc => ?_⟩) (HK2.out.from _), ⟨?_, fun k o h1 h2 ho _ => hat _ k o (by omega) (by omega) (fun e => by have := hown k e.symm; omega) ho, fun k cs fr ho => hat _ k _ ?_ ?_ ?_ ho⟩, ⟨_, HV2.out, ?_, ?_⟩, HR.out.keep fun k o _ h2 ho => hat _ k o (by omega) (by omega) (fun e => by have := hown k e.symm; omega) ho, ?_, ?_⟩
      · by_cases e : k = g
        · subst e
          rw [HG6.out] at ho
          cases ho
          cases hnc
        · exact (heap_set_other _ _ _ _ _ e).trans ho
      · have := HBB2.out.size; have := hb.size; simp at *; omega
      · rintro rfl
        rw [show W.heap[k]? = _ from HV.out] at ho
        injection ho with ho
        injection ho with _ ho
        exact absurd ho (by decide)
      · rintro rfl
        rw [HGC.out] at ho
        injection ho with ho
        injection ho with _ ho
        exact absurd ho (by decide)
      · exact own_ne HROW.out ho (by decide)
      · rw [List.length_append, List.length_singleton, HM.out, tkC_snoc]
        rw [show tk4 x = [.string TB, .int .i64 x.line, .int .i64 x.at', .int .u16 C] by unfold tk4; rw [HC.out, ← HTB.out]]
        refine row_keep HOW.out fun k o hk ho => ?_
        have := row_at HOW.out k hk
        rw [heap_set_other _ _ _ _ _ (by omega)]
        exact ho
      · rw [List.length_append, HM.out]; simp; omega
      · refine Nat.le_trans ?_ HBB2.out.size
        simp
        exact hN6
      · exact ((below_next HB.out hb).setCell (by show w.heap.size ≤ g; omega) _).trans (HBB2.out.mono (by omega))
  case done =>
    rintro D xs W hD rfl ⟨⟨v, hv, hrow, h40⟩, hr, hNW, hB⟩ hK
    obtain ⟨A1, c1, rfl⟩ := row_slice4 hrow
    have hE : Tk.tokE ls = 0 := by rw [HE.out, if_neg (by omega)]
    have hV : Tk.tokV ls = Tk.tokensOf ls := if_pos hE
    have hc := hv.cell
    obtain ⟨z3, z4⟩ := box1 hr.h1
    obtain ⟨z5, z6⟩ := box1 hr.h2
    obtain ⟨m, hm⟩ : ∃ m, (Tk.tokensOf ls).length = m := ⟨_, rfl⟩
    rw [hm] at hc hv hrow
    have HV := Lib.hid hv; have HROW := Lib.hid hrow; have HR := Lib.hid hr; have HB := Lib.hid hB; have HK := Lib.hid hK; have HE2 := Lib.hid hE; have HTV := Lib.hid hV; have HM := Lib.hid hm
    clear hE hV hv hrow hr hB hK hm h40
    gi_wp2
    have hnn := HN.out
    have hwx := HWX.out
    have hk2 : ∀ x y : Value, ((W.setCell ⟨w.heap.size, 0, none⟩ x).setCell ⟨w.heap.size + 1, 0, none⟩ y).heap[D]? = some (.deferred (some [])) := fun x y => by
      rw [heap_set_other _ _ _ _ _ (by omega), heap_set_other _ _ _ _ _ (by omega)]
      exact HK.out
    refine ⟨by simp, .inl ⟨_, _, rfl, run_takeDeferred (hk2 _ _), ?_⟩⟩
    refine ⟨_, res_tokens _ _ w.heap.size _ _ rfl rfl ((RB2.set HR.out).keep fun k o _ _ ho => (World.putObj_heap_other (by omega)).trans ho), A1, m, c1, by rw [HE2.out]; rfl, ?_, putObj_below (by omega) _ (set2_below HB.out _ _)⟩
    rw [HTV.out]
    refine ⟨HM.out, row_mono (row_keep HROW.out fun k o hk ho => ?_) (show w.heap.size ≤ w5.heap.size by omega)⟩
    have hk1 := row_at HROW.out k hk
    have hne : k ≠ D := by
      rintro rfl
      obtain ⟨_, h2⟩ := HROW.out
      rcases h2 with ⟨hv, -⟩ | ⟨g, cap, cur, hv, -, hh, -⟩
      · rw [hv] at hk; cases hk
      · rw [hv] at hk
        cases hk
        have := HK.out
        rw [hh] at this; cases this
    rw [World.putObj_heap_other hne, heap_set_other _ _ _ _ _ (by omega), heap_set_other _ _ _ _ _ (by omega)]
    exact ho
  case stop =>
    rintro D cc pre W hD ⟨r, hp⟩ ⟨rfl, hr, h7, hB⟩ hK
    have hE : Tk.tokE ls = 5 := by
      rw [HE.out, hp, List.length_append, if_pos (by omega)]
    have HE2 := Lib.hid hE; have HRR := Lib.hid hr; have HBB := Lib.hid hB
    clear hE hr hB hp h7
    gi_wp2
    refine ⟨by simp, .inl ⟨_, _, rfl, run_takeDeferred hK, ?_⟩⟩
    refine ⟨_, res_tokens _ _ w.heap.size (.slice none 0 0) 5 rfl rfl (HRR.out.keep fun k o _ _ ho => (World.putObj_heap_other (by have := HN.out; have := HWX.out; omega)).trans ho), none, 0, 0, by rw [HE2.out]; rfl, ?_, putObj_below (by have := HN.out; have := HWX.out; omega) _ HBB.out⟩
    rw [tokV_err (by rw [HE2.out]; decide)]
    exact Toks.nil _ _
theorem tokens_any (A : Option Addr) (n c : Nat) (ls : List (List UInt8)) (w : World) (hw : Rdy w) (hn : ls.length = n) (hn2 : n ≤ 1000000000) (hrd : RdS w A ls) (hm : ∀ x ∈ ls, x.length ≤ 100000000) :
    Calls Tryz.prog 26 #[.slice A n c] w (PostToks ls w) := by
  by_cases h6 : 6 < n
  · exact tokens_err A n c ls w hw hn hn2 hrd hm (.inl h6)
  · cases h1 : ls.any Tk.long
    · cases h2 : ls.any Tk.wrong
      · exact tokens_ok A n c ls w hw hn hrd (by omega) h1 h2
      · exact tokens_err A n c ls w hw hn hn2 hrd hm (.inr (.inr h2))
    · exact tokens_err A n c ls w hw hn hn2 hrd hm (.inr (.inl h1))
end Go.Proofs.YtcponhdeffnndaaGreatDoor
