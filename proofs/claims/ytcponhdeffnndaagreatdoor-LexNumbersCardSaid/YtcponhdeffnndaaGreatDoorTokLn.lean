/-
  The walk of Lines.
-/
import Derived.Test.YtcponhdeffnndaaGreatDoorTokSplit
import Derived.Test.YtcponhdeffnndaaGreatDoorTokWrong
import Derived.Test.YtcponhdeffnndaaGreatDoorTokCl2
namespace Go.Proofs.YtcponhdeffnndaaGreatDoor
open Go.RowKit Go.Shelf
set_option linter.unusedVariables false
set_option linter.unusedSimpArgs false
attribute [local go_sem] Oper.semAt_some

theorem row_mono {w : World} {base b2 e size n : Nat} {v : Value} {xs : List Value} (h : w.ownsRow base e size v n xs) (hb : b2 ≤ base) : w.ownsRow b2 e size v n xs := by
  refine ⟨h.1, ?_⟩
  rcases h.2 with h2 | ⟨g, cap, cur, h3, h4, h5⟩
  · exact .inl h2
  · exact .inr ⟨g, cap, cur, h3, by omega, h5⟩
theorem row_keep {w w1 : World} {base e size n : Nat} {v : Value} {xs : List Value} (h : w.ownsRow base e size v n xs) (hk : ∀ k o, v.ownBlock = some k → w.heap[k]? = some o → w1.heap[k]? = some o) : w1.ownsRow base e size v n xs := by
  refine ⟨h.1, ?_⟩
  rcases h.2 with h2 | ⟨g, cap, cur, h3, h4, h5, h6⟩
  · exact .inl h2
  · exact .inr ⟨g, cap, cur, h3, h4, hk _ _ (by rw [h3]; rfl) h5, h6⟩
theorem row_at {w : World} {base e size n : Nat} {v : Value} {xs : List Value} (h : w.ownsRow base e size v n xs) (k : Nat) (hk : v.ownBlock = some k) : base ≤ k := by
  rcases h.2 with ⟨rfl, -⟩ | ⟨g, cap, cur, rfl, h4, -⟩
  · cases hk
  · cases hk; exact h4
theorem row_slice {w : World} {base e n : Nat} {v : Value} {xs : List Value} (h : w.ownsRow base e 1 v n xs) : ∃ A c, v = .slice A n c := by
  rcases h.2 with ⟨hv, h2⟩ | ⟨g, cap, cur, hv, _⟩
  · exact ⟨none, 0, by rw [hv, h2]⟩
  · exact ⟨_, _, hv⟩
theorem cells_one_new (W : World) (FB : ByteArray) : ∀ j u, [Value.string FB][j]? = some u → (W.alloc (.cells #[.string FB] 9)).cell? ((⟨W.heap.size, 0, none⟩ : Addr).add j) = some u := by
  intro j u hj
  match j, hj with
  | 0, hj =>
    simp at hj; subst hj
    exact cell_of_row _ _ 0 _ _ _ (heap_alloc_new W _)
def flt (pre : List (List UInt8)) : List (List UInt8) := (pre.map Fo.fold).filter fun x => !x.isEmpty
theorem flt_snoc (pre : List (List UInt8)) (x : List UInt8) : flt (pre ++ [x]) = if (Fo.fold x).isEmpty then flt pre else flt pre ++ [Fo.fold x] := by
  unfold flt
  rw [List.map_append, List.filter_append]
  cases h : (Fo.fold x).isEmpty <;> simp [h]
theorem flt_prefix {s : List UInt8} {pre r : List (List UInt8)} (h : Tk.parts s = pre ++ r) : (flt pre).length ≤ (Tk.linesOf s).length := by
  unfold Tk.linesOf flt
  rw [h, List.map_append, List.filter_append, List.length_append]
  omega
/-- the two results, boxed -/
structure RB2 (t q : Nat) (v : Value) (e : Int) (W : World) : Prop where
  h1 : W.heap[q]? = some (.cells #[v] t (0, 0))
  h2 : W.heap[q + 1]? = some (.cells #[.int .i64 e] 24 (0, 0))
theorem RB2.keep {t q : Nat} {v : Value} {e : Int} {W W' : World} (h : RB2 t q v e W) (hk : ∀ k o, q ≤ k → k ≤ q + 1 → W.heap[k]? = some o → W'.heap[k]? = some o) : RB2 t q v e W' :=
  ⟨hk _ _ (by omega) (by omega) h.h1, hk _ _ (by omega) (by omega) h.h2⟩
theorem RB2.set {t q : Nat} {v0 v : Value} {e0 e : Int} {W : World} (h : RB2 t q v0 e0 W) : RB2 t q v e ((W.setCell ⟨q, 0, none⟩ v).setCell ⟨q + 1, 0, none⟩ (.int .i64 e)) := by
  have a1 := h.h1; have a2 := h.h2
  refine ⟨?_, ?_⟩
  · rw [heap_set_other _ _ _ _ _ (by omega)]
    exact heap_setCell_same W q 0 _ _ _ a1
  · exact heap_setCell_same _ (q + 1) 0 _ _ _ ((heap_set_other _ _ _ _ _ (by omega)).trans a2)
theorem res_lines (tmps : Array Value) (W : World) (q : Nat) (v : Value) (e : Int) (p2 : tmps.getD 2 undef = .pointer (some ⟨q, 0, none⟩)) (p3 : tmps.getD 3 undef = .pointer (some ⟨q + 1, 0, none⟩)) (h : RB2 23 q v e W) :
    (results Tryz.f13 tmps).run Tryz.prog W = .ok (.tuple #[v, .int .i64 e]) W := by
  have q2 : tmps[2]?.getD undef = .pointer (some ⟨q, 0, none⟩) := by simpa using p2
  have q3 : tmps[3]?.getD undef = .pointer (some ⟨q + 1, 0, none⟩) := by simpa using p3
  simp [results, Tryz.f13, go_sem, q2, q3, (box1 h.h1).1, (box1 h.h2).1]
theorem set2_below {q : Nat} {w W : World} (h : Below q w W) (x y : Value) : Below q w ((W.setCell ⟨q, 0, none⟩ x).setCell ⟨q + 1, 0, none⟩ y) :=
  (h.setCell (by show q ≤ q; omega) _).setCell (by show q ≤ q + 1; omega) _
theorem set2_keeps {q N : Nat} {W : World} (hq : q + 1 < N) (x y : Value) : KeepsFrom N W ((W.setCell ⟨q, 0, none⟩ x).setCell ⟨q + 1, 0, none⟩ y) :=
  (keeps_set (by omega)).trans (keeps_set (by omega))
def PostLines (s : List UInt8) (w : World) (e : Ending) (w' : World) : Prop := ∃ A n c, e = .returned (.tuple #[.slice A n c, .int .i64 (Tk.linesE s)]) ∧ Strs w.heap.size w' A n c (Tk.linesV s) ∧ Below w.heap.size w w'
/-- what the loop keeps -/
def LI (q N : Nat) (w : World) (pre : List (List UInt8)) (W : World) : Prop :=
  (∃ v, Boxed W (q + 2) 23 v ∧ W.ownsRow N 9 1 v (flt pre).length ((flt pre).map strV) ∧ (flt pre).length ≤ 6) ∧ RB2 23 q (.slice none 0 0) 0 W ∧ N ≤ W.heap.size ∧ Below q w W
def LX (q : Nat) (w : World) (cc : Code) (pre : List (List UInt8)) (W : World) : Prop :=
  cc = .ret ∧ RB2 23 q (.slice none 0 0) 5 W ∧ 7 ≤ (flt pre).length ∧ Below q w W
theorem LI.own {q N : Nat} {w : World} (hq : q + 2 < N) (hw : q ≤ w.heap.size) : OwnFrom N (LI q N w) := by
  unfold LI
  refine OwnFrom.and (Own.from (holdsRow_own N (q + 2) 23 9 1 (fun pre : List (List UInt8) => (flt pre).length) (fun pre => (flt pre).map strV) (fun pre v => (flt pre).length ≤ 6)) _) (OwnFrom.and ?_ (OwnFrom.and ?_ (own_below0 (by omega) hw)))
  · intro s W W' row h hg hr
    exact h.keep fun k o _ hk ho => grown_keep hg hr k o (by omega) ho
  · intro s W W' row h hg hr
    exact Nat.le_trans h hg.size
theorem LX.own {q N : Nat} {w : World} (hq : q + 2 < N) (hw : q ≤ w.heap.size) (cc : Code) : OwnFrom N (LX q w cc) := by
  rintro s W W' row ⟨h0, h1, h2, h5⟩ hg hr
  exact ⟨h0, h1.keep fun k o _ hk ho => grown_keep hg hr k o (by omega) ho, h2, own_below0 (β := Unit) (by omega) hw () W W' row h5 hg hr⟩
theorem LI.chg {q N : Nat} {w : World} (hq : q + 4 ≤ N) (hw : q ≤ w.heap.size) : ∀ s X Y, LI q N w s X → Chg (q + 3) (q + 3 + 1) X Y → LI q N w s Y := by
  rintro s X Y ⟨⟨v, h1, h2, h3⟩, h4, hN, h5⟩ hc
  refine ⟨⟨v, hc.keep (by omega) h1, row_keep h2 (fun k o hk ho => hc.keep (by have := row_at h2 k hk; omega) ho), h3⟩, h4.keep fun k o _ hk ho => hc.keep (by omega) ho, Nat.le_trans hN hc.size, chg_below (by omega) hw h5 hc⟩
theorem LX.chg {q : Nat} {w : World} (hw : q ≤ w.heap.size) : ∀ cc s X Y, LX q w cc s X → Chg (q + 3) (q + 3 + 1) X Y → LX q w cc s Y := by
  rintro cc s X Y ⟨h0, h1, h2, h5⟩ hc
  exact ⟨h0, h1.keep fun k o _ hk ho => hc.keep (by omega) ho, h2, chg_below (by omega) hw h5 hc⟩
set_option maxRecDepth 100000 in
set_option maxHeartbeats 2000000 in
theorem lines_any (s : ByteArray) (w : World) (hw : Rdy w) (hs : s.size ≤ 100000000) : Calls Tryz.prog 13 #[.string s] w (PostLines s.data.toList w) := by
  have hsl : s.data.toList.length ≤ 100000000 := by simpa using hs
  have R0 := Lib.hid hw; have HSL := Lib.hid hsl
  have HSP := Lib.hid (fun V => splitSeq_any s V)
  obtain ⟨q, hq⟩ : ∃ q, q = w.heap.size := ⟨_, rfl⟩
  obtain ⟨w1, hw1⟩ : ∃ w1, w1 = ((w.alloc (.cells #[.slice none 0 0] 23)).alloc (.cells #[.int .i64 0] 24)).alloc (.cells #[.slice none 0 0] 23) := ⟨_, rfl⟩
  have hb1 : Below w.heap.size w w1 := by rw [hw1]; exact (((Below.refl _ w).alloc (Nat.le_refl _) _).alloc (by simp) _).alloc (by simp; omega) _
  have hs1 : w1.heap.size = w.heap.size + 3 := by rw [hw1]; simp
  have hr1 : RB2 23 w.heap.size (.slice none 0 0) 0 w1 := by
    rw [hw1]
    exact ⟨heap_keep (heap_keep (heap_alloc_new w _) (below_new _ _)) (below_new _ _), heap_keep (new_at _ _ _ (by simp)) (below_new _ _)⟩
  have hx1 : Boxed w1 (w.heap.size + 2) 23 (.slice none 0 0) := by rw [hw1]; exact new_at _ _ _ (by simp)
  have HB1 := Lib.hid hb1; have HS1 := Lib.hid hs1; have HR1 := Lib.hid hr1; have HX1 := Lib.hid hx1; have HQE := Lib.hid hq
  clear hw hsl hs hb1 hs1 hr1 hx1 hq
  refine (callsIn_wide (n := 6)).1 ?_
  refine callsIn_of_wp_marks Tryz.func13 rfl trivial ?_ rfl
  simp only [Tryz.ntmps13, List.size_toArray, List.length_cons, List.length_nil, Nat.reduceAdd, Nat.reduceSub, Array.replicate_succ, Array.replicate_zero, List.push_toArray, List.append_toArray, List.nil_append, List.cons_append]
  gi_wp2_with fail
  rw [← hw1]
  gi_wp2_with (refine ⟨trivial, ?_⟩; gi_at_call 39; (with_reducible refine (callsIn_wide.2 (HSP.out _)).mono ?_); rintro e w2 ⟨rfl, hb2, hs2, hcap⟩; have H2 := Lib.hid hb2; have HS2 := Lib.hid hs2; have HCap := Lib.hid hcap; clear hb2 hs2 hcap)
  simp only [Nat.add_assoc, Nat.reduceAdd]
  have hs1 := HS1.out; have h2 := H2.out; have hs2 := HS2.out; have hcap := HCap.out
  rw [hs1] at hcap hs2
  have hb2 : Below w.heap.size w w2 := HB1.out.trans (h2.mono (by omega))
  have hr2 : RB2 23 w.heap.size (.slice none 0 0) 0 w2 := HR1.out.keep fun k o _ _ ho => heap_keep ho h2
  have hx2 : Boxed w2 (w.heap.size + 2) 23 (.slice none 0 0) := heap_keep HX1.out h2
  have HB2 := Lib.hid hb2; have HR2 := Lib.hid hr2; have HX2 := Lib.hid hx2; have HN := Lib.hid hs2; have HCP := Lib.hid hcap
  clear hs1 h2 hs2 hcap hb2 hr2 hx2 hw1 HB1 HS1 HR1 HX1 H2 HS2 HCap HSP
  refine wp_tolc (gf := 158) (lb := #[.pointer (some ⟨w.heap.size + 4, 0, none⟩), .pointer (some ⟨w.heap.size + 3, 0, none⟩), .pointer (some ⟨w.heap.size + 5, 0, none⟩)]) rfl (enters_of Tryz.func158 (by kernel_rfl) rfl)
    (split_told s.data.toList (w.heap.size + 3) w2 HCP.out HSL.out) (Below.refl _ _) KB.trans (fun W k o o' hk h hcc => KB.putObj W k o o' h hcc)
    (fun _ _ _ _ _ _ h _ _ => h) (fun _ => rfl)
    (LI w.heap.size w2.heap.size w) (LX w.heap.size w)
    (LI.own (by have := HN.out; omega) (Nat.le_refl _)) (LX.own (by have := HN.out; omega) (Nat.le_refl _))
    (LI.chg (by have := HN.out; omega) (Nat.le_refl _)) (LX.chg (Nat.le_refl _))
    (fun X Y k o hk hc ho => hc.keep (by have := HN.out; omega) ho)
    ⟨⟨_, HX2.out, World.ownsRow_nil _ _ _ _, by simp [flt]⟩, HR2.out, Nat.le_refl _, HB2.out⟩
    (fun x => { tmps := #[.string s, undef, .pointer (some ⟨w.heap.size, 0, none⟩), .pointer (some ⟨w.heap.size + 1, 0, none⟩), .pointer (some ⟨w.heap.size + 2, 0, none⟩), .string ⟨x.toArray⟩, undef, .string s, .func (.func 158) #[] #[.pointer (some ⟨w.heap.size + 4, 0, none⟩), .pointer (some ⟨w.heap.size + 3, 0, none⟩), .pointer (some ⟨w.heap.size + 5, 0, none⟩)], .string ⟨x.toArray⟩, undef, undef, undef, undef, undef, undef, undef, undef, undef, undef, undef, undef, undef, undef], defers := [] }) ?assign ?body ?done ?stop
  case assign =>
    intro l x W K hK
    unfold encS
    gi_wp2
    exact hK
  case body =>
    rintro l pre x W ⟨⟨v, hv, hrow, h6⟩, hr, hNW, hB⟩ hxl
    obtain ⟨A, c, rfl⟩ := row_slice hrow
    have hfo := fun V (h : Rdy V) => fold_any ⟨x.toArray⟩ V h (by rw [size_of]; exact hxl)
    rw [data_of] at hfo
    unfold PostStr at hfo
    have hsn := flt_snoc pre x
    have hfl : (Fo.fold x).length ≤ 100000000 := Nat.le_trans (Fo.fold_len x) hxl
    have he := empty_of (Fo.fold x)
    obtain ⟨F, hF⟩ : ∃ F, Fo.fold x = F := ⟨_, rfl⟩
    rw [hF] at hfo hsn he hfl
    obtain ⟨FB, hFB⟩ : ∃ FB : ByteArray, FB = ⟨F.toArray⟩ := ⟨_, rfl⟩
    rw [← hFB] at hfo he
    have hc := hv.cell
    have hRW : Rdy W := R0.out.below hB
    have HF := Lib.hid (hfo W hRW)
    obtain ⟨n, hn⟩ : ∃ n, (flt pre).length = n := ⟨_, rfl⟩
    rw [hn] at hc hv hrow h6
    have HV := Lib.hid hv; have HROW := Lib.hid hrow; have HR := Lib.hid hr; have HB := Lib.hid hB; have HSN := Lib.hid hsn; have HNN := Lib.hid hn; have HFB := Lib.hid hFB
    clear hfo hF hRW hv hrow hr hB hsn hn hFB hxl
    cases hemp : F.isEmpty with
    | true =>
      rw [hemp] at he
      gi_wp2_with (refine ⟨trivial, ?_⟩; gi_at_call 31; (with_reducible refine (CallsIn.inRound l (callsIn_wide.2 HF.out)).mono ?_); rintro e w3 ⟨rfl, hb⟩; have H3 := Lib.hid hb; clear hb)
      have hb := H3.out
      have hsn := HSN.out
      rw [hemp, if_pos rfl] at hsn
      refine ⟨⟨hb.size, fun k o _ ho _ => heap_keep ho hb⟩, KB.below hb, ⟨_, heap_keep HV.out hb, ?_, ?_⟩, HR.out.keep fun k o _ _ ho => heap_keep ho hb, Nat.le_trans hNW hb.size, below_next HB.out hb⟩
      · rw [hsn, HNN.out]; exact row_keep HROW.out fun k o _ ho => heap_keep ho hb
      · rw [hsn, HNN.out]; exact h6
    | false =>
      rw [hemp] at he
      have hsn := HSN.out
      rw [hemp, if_neg (by decide)] at hsn
      have HSN2 := Lib.hid hsn
      clear hsn hemp
      by_cases h66 : n = 6
      · have h7 : ((n : Int) == 6) = true := by rw [beq_iff_eq]; omega
        have H66 := Lib.hid h66
        clear h66
        gi_wp2_with (refine ⟨trivial, ?_⟩; gi_at_call 31; (with_reducible refine (CallsIn.inRound l (callsIn_wide.2 HF.out)).mono ?_); rintro e w3 ⟨rfl, hb⟩; have H3 := Lib.hid hb; have hc3 := cell_keep hc hb; have z1 := (box1 (heap_keep HR.out.h1 hb)); have z2 := (box1 (heap_keep HR.out.h2 hb)); obtain ⟨z3, z4⟩ := z1; obtain ⟨z5, z6⟩ := z2; clear hb)
        have hb := H3.out
        refine ⟨KeepsFrom.trans ⟨hb.size, fun k o _ ho _ => heap_keep ho hb⟩ (set2_keeps (by have := HN.out; omega) _ _), rfl, (HR.out.keep fun k o _ _ ho => heap_keep ho hb).set, ?_, set2_below (below_next HB.out hb) _ _⟩
        rw [HSN2.out, List.length_append, HNN.out, H66.out]; simp
      · have h7 : ((n : Int) == 6) = false := by rw [beq_eq_false_iff_ne]; omega
        have hn5 : n ≤ 5 := by omega
        clear h66 h6
        obtain ⟨i0, hi, hz0, hz1, hz2⟩ := info_parts infoStr
        gi_wp2_with (first
          | (refine ⟨trivial, ?_⟩; gi_at_call 31; (with_reducible refine (CallsIn.inRound l (callsIn_wide.2 HF.out)).mono ?_); rintro e w3 ⟨rfl, hb⟩; have H3 := Lib.hid hb; have hc3 := cell_keep hc hb; have HV3 := Lib.hid (show Boxed w3 _ _ _ from heap_keep HV.out hb); have HROW3 := Lib.hid (row_keep HROW.out fun k o _ ho => heap_keep ho hb); have hN3 := Nat.le_trans hNW hb.size; clear hb)
          | (gi_at_builtin; refine wpListIn_append_own _ rfl _ _ 23 rfl w2.heap.size 9 i0 (.string ⟨#[]⟩) 1 16 Tryz.underlying23 hi hz0 hz1 hz2 rfl (by decide) _ _ _ rfl (HROW3.out.alloc _) ⟨w3.heap.size, 0, none⟩ 1 1 [.string FB] rfl rfl (cells_one_new w3 FB) (by simp [Value.oneCell']) (by unfold maxLen; omega) (by omega) (by simp; omega) ?_; intro v' w4 hown' hgrow _; obtain ⟨g', cap', rfl⟩ := ownsRow_succ hown'; have HOW := Lib.hid hown'; have HGR := Lib.hid hgrow; obtain ⟨hv1, hv2, hr2, hk2, hb2⟩ := HV3.out.appended (by decide) (row_mono HROW3.out (show w.heap.size + 2 ≤ w2.heap.size by have := HN.out; omega)) (by have := HN.out; omega) (Nat.le_refl _) (row_mono hown' (show w.heap.size + 2 ≤ w2.heap.size by have := HN.out; omega)) hgrow; have hc1 := hv1.cell; have hf1 := hv1.frozen; have HV2 := Lib.hid hv2; have HK2 := Lib.hid hk2; have HBB2 := Lib.hid hb2; clear hown' hgrow hv1 hv2 hr2 hk2 hb2))
        have hb := H3.out
        have hat : ∀ (u : Value) k o, k < w2.heap.size → k ≠ w.heap.size + 2 → W.heap[k]? = some o → (w4.setCell ⟨w.heap.size + 2, 0, none⟩ u).heap[k]? = some o := by
          intro u k o hk hne ho
          rw [heap_set_other _ _ _ _ _ hne, HGR.out.block k (by simp; omega) (fun e => by have := row_at HROW3.out k e.symm; omega)]
          exact heap_keep (heap_keep ho hb) (below_new w3 _)
        refine ⟨KeepsFrom.trans ⟨hb.size, fun k o _ ho _ => heap_keep ho hb⟩ (HK2.out.from _), ⟨Nat.le_trans hb.size HBB2.out.size, fun k o h1 h2 ho _ => hat _ k o (by have := HN.out; omega) (by omega) ho⟩, ⟨_, HV2.out, ?_, ?_⟩, HR.out.keep fun k o _ _ ho => hat _ k o (by have := HN.out; omega) (by omega) ho, Nat.le_trans hN3 HBB2.out.size, (below_next HB.out hb).trans (HBB2.out.mono (by have := hb.size; have := HB.out.size; omega))⟩
        · rw [HSN2.out, List.length_append, List.length_singleton, HNN.out, List.map_append, List.map_singleton]
          rw [show strV F = .string FB by rw [HFB.out]; rfl]
          refine row_keep HOW.out fun k o hk ho => ?_
          have := row_at HOW.out k hk
          rw [heap_set_other _ _ _ _ _ (by have := HN.out; omega)]
          exact ho
        · rw [HSN2.out, List.length_append, HNN.out]; simp; omega
  case done =>
    rintro D xs W hD rfl ⟨⟨v, hv, hrow, h6⟩, hr, hNW, hB⟩ hK
    obtain ⟨A, c, rfl⟩ := row_slice hrow
    have hLO : flt (Tk.parts s.data.toList) = Tk.linesOf s.data.toList := rfl
    rw [hLO] at hrow h6
    have hlen : ∀ x ∈ Tk.linesOf s.data.toList, x.length ≤ 100000000 := fun x hx => Nat.le_trans (Tk.line_len hx) HSL.out
    have hE : Tk.linesE s.data.toList = if (Tk.linesOf s.data.toList).any Tk.long then 3 else 0 := by
      unfold Tk.linesE; rw [if_neg (by omega)]
    have hV : Tk.linesV s.data.toList = if (Tk.linesOf s.data.toList).any Tk.long then [] else Tk.linesOf s.data.toList := by
      unfold Tk.linesV; rw [hE]; cases (Tk.linesOf s.data.toList).any Tk.long <;> simp
    obtain ⟨L, hL⟩ : ∃ L, Tk.linesOf s.data.toList = L := ⟨_, rfl⟩
    rw [hL] at hrow h6 hE hV hlen
    rw [hLO, hL] at hv
    obtain ⟨n, hn⟩ : ∃ n, L.length = n := ⟨_, rfl⟩
    rw [hn] at hrow h6 hv
    have hS : Strs w2.heap.size W A n c L := ⟨hn, hrow⟩
    have hCo := containsS_any A n c 41 100000000 Tk.long L W (R0.out.below hB) isLong_tells hn (by omega) hS.rd hlen
    have hc := hv.cell
    obtain ⟨M, hM⟩ : ∃ M, L.any Tk.long = M := ⟨_, rfl⟩
    rw [hM] at hCo hE hV
    have HC := Lib.hid hCo; have HV := Lib.hid hv; have HS := Lib.hid hS; have HR := Lib.hid hr; have HB := Lib.hid hB; have HK := Lib.hid hK; have HE := Lib.hid hE; have HLV := Lib.hid hV
    clear hCo hv hS hrow hr hB hK hE hV hlen hL hn hM hLO
    cases M
    all_goals
      gi_wp2_with (refine ⟨trivial, ?_⟩; gi_at_call 40; (with_reducible refine (callsIn_wide.2 HC.out).mono ?_); rintro e w3 ⟨rfl, hb⟩; have H3 := Lib.hid hb; have hc3 := cell_keep hc hb; obtain ⟨z3, z4⟩ := box1 (heap_keep HR.out.h1 hb); obtain ⟨z5, z6⟩ := box1 (heap_keep HR.out.h2 hb); clear hb)
      have hb := H3.out
      have hDw := (Array.getElem?_eq_some_iff.1 HK.out).1
      have hk2 : ∀ x y : Value, ((w3.setCell ⟨w.heap.size, 0, none⟩ x).setCell ⟨w.heap.size + 1, 0, none⟩ y).heap[D]? = some (.deferred (some [])) := fun x y => by
        rw [heap_set_other _ _ _ _ _ (by have := HN.out; omega), heap_set_other _ _ _ _ _ (by have := HN.out; omega)]
        exact heap_keep HK.out hb
      refine ⟨by simp, .inl ⟨_, _, rfl, run_takeDeferred (hk2 _ _), ?_⟩⟩
      refine ⟨_, res_lines _ _ w.heap.size _ _ rfl rfl ((RB2.set (HR.out.keep fun k o _ _ ho => heap_keep ho hb)).keep fun k o _ _ ho => (World.putObj_heap_other (by have := HN.out; omega)).trans ho), ?_⟩
    · refine ⟨A, n, c, by rw [HE.out]; rfl, ?_, putObj_below (by have := HN.out; omega) _ (set2_below (below_next HB.out hb) _ _)⟩
      rw [HLV.out, if_neg (by decide)]
      refine Strs.mono ⟨HS.out.1, row_keep HS.out.2 fun k o hk ho => ?_⟩ (show w.heap.size ≤ w2.heap.size by have := HN.out; omega)
      have hk1 := row_at HS.out.2 k hk
      have hne : k ≠ D := by
        rintro rfl
        obtain ⟨_, h2⟩ := HS.out.2
        rcases h2 with ⟨hv, -⟩ | ⟨g, cap, cur, hv, -, hh, -⟩
        · rw [hv] at hk; cases hk
        · rw [hv] at hk
          cases hk
          have := HK.out
          rw [hh] at this; cases this
      rw [World.putObj_heap_other hne, heap_set_other _ _ _ _ _ (by have := HN.out; omega), heap_set_other _ _ _ _ _ (by have := HN.out; omega)]
      exact heap_keep ho hb
    · refine ⟨none, 0, 0, by rw [HE.out]; rfl, ?_, putObj_below (by have := HN.out; omega) _ (set2_below (below_next HB.out hb) _ _)⟩
      rw [HLV.out]
      exact Strs.nil _ _
  case stop =>
    rintro D cc pre W hD ⟨r, hp⟩ ⟨rfl, hr, h7, hB⟩ hK
    have hE : Tk.linesE s.data.toList = 5 := by
      unfold Tk.linesE; rw [if_pos (by have := flt_prefix hp; omega)]
    have HE := Lib.hid hE; have HRR := Lib.hid hr; have HBB := Lib.hid hB
    clear hE hr hB hp h7
    gi_wp2
    refine ⟨by simp, .inl ⟨_, _, rfl, run_takeDeferred hK, ?_⟩⟩
    refine ⟨_, res_lines _ _ w.heap.size (.slice none 0 0) 5 rfl rfl (HRR.out.keep fun k o _ _ ho => (World.putObj_heap_other (by have := HN.out; omega)).trans ho), none, 0, 0, by rw [HE.out]; rfl, ?_, putObj_below (by have := HN.out; omega) _ HBB.out⟩
    unfold Tk.linesV
    rw [HE.out, if_neg (by decide)]
    exact Strs.nil _ _
end Go.Proofs.YtcponhdeffnndaaGreatDoor
