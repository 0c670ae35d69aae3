/-
  The walk of Path.
-/
import Derived.Test.YthojojjdamchpaaEdiFirst
namespace Go.Proofs.Ythojojjdamchpaa
open Go.RowKit Go.Shelf
set_option linter.unusedVariables false
set_option linter.unusedSimpArgs false
attribute [local go_sem] Oper.semAt_some

/-- the path, or nothing with an error -/
def pathOf (c : Ed.Cst) (a b : ByteArray) : List (Nat × Nat) := if errOf c a b = 0 then Ed.path c (tx a) (tx b) else []
def PostP (c : Ed.Cst) (a b : ByteArray) (w : World) (e : Ending) (w' : World) : Prop :=
  ∃ A n cap, e = .returned (.tuple #[.slice A n cap, .int .i64 (distOf c a b), .int .i64 (errOf c a b)]) ∧ OwnO w.heap.size 51 w' A n cap (pathOf c a b) ∧ Below w.heap.size w w'
set_option maxRecDepth 100000 in
set_option maxHeartbeats 2000000 in
theorem path_err (c : Ed.Cst) (a b : ByteArray) (w : World) (he : errOf c a b ≠ 0) : Calls Try.prog 9 #[.string a, .string b, cstV c] w (PostP c a b w) := by
  have k1 := check_any c a b (w.alloc (.cells #[.int .i64 c.ins, .int .i64 c.del, .int .i64 c.chg, .int .i64 c.swp] 23))
  unfold PostP distOf pathOf
  rw [if_neg he, if_neg he]
  obtain ⟨E, hE⟩ : ∃ E, errOf c a b = E := ⟨_, rfl⟩
  rw [hE] at k1 he ⊢
  unfold cstV at k1 ⊢
  have K1 := Lib.hid k1
  have HB := Lib.hid (below_new w (.cells #[.int .i64 c.ins, .int .i64 c.del, .int .i64 c.chg, .int .i64 c.swp] 23))
  clear k1 hE
  go_enter Try.func9, Try.ntmps9
  go_wp2_with (go_at_call 18; (with_reducible refine K1.out.mono ?_); rintro e w2 ⟨rfl, h2⟩; have H2 := Lib.hid h2; clear h2)
  refine bodyPost_ret (results_tmp3 rfl _ _ _) rfl ⟨none, 0, 0, rfl, OwnO.nil _ _ _, HB.out.trans (H2.out.mono HB.out.size)⟩
theorem ent_of {c : Ed.Cst} {a b : ByteArray} {lo i : Nat} {v : Value} {W : World} (h : W.ownsRow lo 3 1 v (b.size + 1) (((List.range (b.size + 1)).map (Dv c a b i)).map (Value.int .i64))) : Ent c a b lo i v W := by
  rcases h.2 with ⟨_, h2⟩ | ⟨g, cap, cur, rfl, hb, hh, h3⟩
  · omega
  · refine ⟨g, cap, rfl, hb, fun j hj => ?_⟩
    have hc := h.cells (g := g) rfl j (.int .i64 (Dv c a b i j)) (by rw [List.getElem?_map, List.getElem?_map, List.getElem?_range (by omega)]; rfl)
    have e : (⟨g, 0, none⟩ : Addr).add j = ⟨g, j, none⟩ := by unfold Addr.add; split <;> simp [*]
    rw [e] at hc; exact hc
theorem clone_row (c : Ed.Cst) (a b : ByteArray) (i blk : Nat) (hb : b.size ≤ 60) (w : World) (h : ∀ j, j ≤ b.size → w.cell? ⟨blk, j, none⟩ = some (.int .i64 (Dv c a b i j))) :
    Calls Try.prog 20 #[.slice (some ⟨blk, 0, none⟩) (b.size + 1) (b.size + 1)] w fun e w' => ∃ v, e = .returned v ∧ Ent c a b w.heap.size i v w' ∧ Below w.heap.size w w' := by
  have hl : ((List.range (b.size + 1)).map (Dv c a b i)).length = b.size + 1 := by rw [List.length_map, List.length_range]
  refine (Try.slices_Clone_int blk 0 (b.size + 1) (b.size + 1) ((List.range (b.size + 1)).map (Dv c a b i)) w (by omega) (by omega) (fun j hj => ?_)).mono ?_
  · rw [Nat.zero_add, h j (by omega)]
    rw [List.getD_eq_getElem?_getD, List.getElem?_map, List.getElem?_range (by omega)]; rfl
  · rintro e w' ⟨v, rfl, h1, _, h2⟩
    rw [List.take_of_length_le (by omega)] at h1
    exact ⟨v, rfl, ent_of h1, h2⟩
theorem Ent.mono {c : Ed.Cst} {a b : ByteArray} {lo lo' i : Nat} {v : Value} {W : World} (h : Ent c a b lo i v W) (hl : lo' ≤ lo) : Ent c a b lo' i v W := by
  obtain ⟨blk, cap, h1, h2, h3⟩ := h
  exact ⟨blk, cap, h1, by omega, h3⟩

/-- what the loop of Path keeps -/
def PI (c : Ed.Cst) (a b : ByteArray) (lo B X q : Nat) (w : World) (pre : List Val) (W : World) : Prop :=
  (∃ o, W.heap[X]? = some o ∧ o = .cells #[.slice (some ⟨B, 0, none⟩) (a.size + 1) (a.size + 1)] 59 (0, 0)) ∧
  (∃ o, W.heap[q]? = some o ∧ o = .cells #[.int .i64 c.ins, .int .i64 c.del, .int .i64 c.chg, .int .i64 c.swp] 23 (0, 0)) ∧ DT c a b lo B pre.length W ∧ Below q w W
theorem PI.own {c : Ed.Cst} {a b : ByteArray} {lo B X q N : Nat} {w : World} (hX : X < N) (hq : q < N) (hw : q ≤ w.heap.size) : OwnFrom N (PI c a b lo B X q w) :=
  OwnFrom.and (own_heap hX (fun _ o => o = _)) (OwnFrom.and (own_heap hq (fun _ o => o = _)) (OwnFrom.and (fun s W W' row h hg hr => h.kc (p := 0) (q := 0) (KC.of_grown hg hr) (by omega) (by omega)) (own_below0 (by omega) hw)))
theorem PI.chg {c : Ed.Cst} {a b : ByteArray} {lo B X q n m : Nat} {w : World} (hX : X < n) (hq : q < n) (hB : B < n) (hw : q ≤ w.heap.size) (hm : m ≤ lo) : ∀ s Y Z, PI c a b lo B X q w s Y → Chg n m Y Z → PI c a b lo B X q w s Z := by
  rintro s Y Z ⟨⟨o, h1, h2⟩, ⟨o', h3, h4⟩, h5, h6⟩ h
  exact ⟨⟨o, h.keep (by omega) h1, h2⟩, ⟨o', h.keep (by omega) h3, h4⟩, h5.kc (KC.of_chg h) hm (by omega), chg_below (by omega) hw h6 h⟩

theorem box4 {W : World} {g : Nat} {x y z u : Value} {t : TypeId} (h : W.heap[g]? = some (.cells #[x, y, z, u] t (0, 0))) : W.cell? ⟨g, 0, none⟩ = some x ∧ W.cell? ⟨g, 1, none⟩ = some y ∧ W.cell? ⟨g, 2, none⟩ = some z ∧ W.cell? ⟨g, 3, none⟩ = some u :=
  ⟨cell_of_row _ _ 0 _ _ _ h, cell_of_row _ _ 1 _ _ _ h, cell_of_row _ _ 2 _ _ _ h, cell_of_row _ _ 3 _ _ _ h⟩
theorem path_round {c : Ed.Cst} {a b : ByteArray} {lo B q N : Nat} {w W V : World} {pre : List Val} {x : Val} {blk cap : Nat} (hpi : PI c a b lo B (B + 1) q w pre W) (hx : x.i + pre.length = a.size) (hB : B + 1 < N) (hq : q < B) (hl : B < lo) (hw : q ≤ w.heap.size)
    (hb : Below W.heap.size W V) (hlo : lo ≤ blk) (hv : ∀ j, j ≤ b.size → V.cell? ⟨blk, j, none⟩ = some (.int .i64 (Dv c a b x.i j))) (hBW : q ≤ W.heap.size) :
    KeepsFrom N W (V.setCell ⟨B, x.i, none⟩ (.slice (some ⟨blk, 0, none⟩) (b.size + 1) cap)) ∧ KQ (B + 1 + 1) W (V.setCell ⟨B, x.i, none⟩ (.slice (some ⟨blk, 0, none⟩) (b.size + 1) cap)) ∧
      PI c a b lo B (B + 1) q w (pre ++ [x]) (V.setCell ⟨B, x.i, none⟩ (.slice (some ⟨blk, 0, none⟩) (b.size + 1) cap)) := by
  obtain ⟨⟨o, h1, h2⟩, ⟨o', h3, h4⟩, h5, h6⟩ := hpi
  refine ⟨⟨by have := hb.size; simpa using this, fun k o hk ho hc => ?_⟩, (KQ.below hb).trans (kq_set (by omega)), ⟨o, ?_, h2⟩, ⟨o', ?_, h4⟩, ?_, ?_⟩
  · rw [heap_set_other _ _ _ _ _ (by omega), hb.block k (Array.getElem?_eq_some_iff.1 ho).1]; exact ho
  · rw [heap_set_other _ _ _ _ _ (by omega), hb.block _ (Array.getElem?_eq_some_iff.1 h1).1]; exact h1
  · rw [heap_set_other _ _ _ _ _ (by omega), hb.block _ (Array.getElem?_eq_some_iff.1 h3).1]; exact h3
  · rw [List.length_append, List.length_singleton]
    exact (h5.kc (p := 0) (q := 0) (KC.of_below hb) (by omega) (by omega)).store hx hl ⟨blk, cap, rfl, hlo, hv⟩
  · exact (h6.trans (hb.mono hBW)).setCell (by show q ≤ B; omega) _

set_option maxRecDepth 100000 in
set_option maxHeartbeats 4000000 in
theorem path_okw (c : Ed.Cst) (a b : ByteArray) (w : World) (he : errOf c a b = 0) : Calls Try.prog 9 #[.string a, .string b, cstV c] w (PostP c a b w) := by
  obtain ⟨hc, ha, hb⟩ := errOf_zero he
  obtain ⟨w1, hw1⟩ : ∃ w1, w1 = w.alloc (.cells #[.int .i64 c.ins, .int .i64 c.del, .int .i64 c.chg, .int .i64 c.swp] 23) := ⟨_, rfl⟩
  have k1 := check_any c a b w1
  unfold PostP distOf pathOf
  rw [if_pos he, if_pos he]
  rw [he] at k1 ⊢
  have hb1 : Below w.heap.size w w1 := by rw [hw1]; exact below_new w _
  have hq1 : w1.cell? ⟨w.heap.size, 0, none⟩ = some (.int .i64 c.ins) ∧ w1.cell? ⟨w.heap.size, 1, none⟩ = some (.int .i64 c.del) ∧ w1.cell? ⟨w.heap.size, 2, none⟩ = some (.int .i64 c.chg) ∧ w1.cell? ⟨w.heap.size, 3, none⟩ = some (.int .i64 c.swp) := by
    rw [hw1]; refine ⟨?_, ?_, ?_, ?_⟩ <;> go_simp
  have hrow := fun w => rows_any a b c w
  unfold cstV at k1 hrow ⊢
  have K1 := Lib.hid k1; have HB1 := Lib.hid hb1; have HR := Lib.hid hrow; have HQ1 := Lib.hid hq1; have HW1 := Lib.hid hw1
  clear k1 he hb1 hrow hq1
  refine (callsIn_wide (n := 6)).1 ?_
  refine callsIn_of_wp_marks Try.func9 rfl trivial ?_ rfl
  simp only [Try.ntmps9, List.size_toArray, List.length_cons, List.length_nil, Nat.reduceAdd, Nat.reduceSub, Array.replicate_succ, Array.replicate_zero, List.push_toArray, List.append_toArray, List.nil_append, List.cons_append]
  gi_wp2
  rw [← hw1]
  have hai : (a.size : Int) ≤ 60 := by omega
  gi_wp2_with (first
    | (refine ⟨trivial, ?_⟩; gi_at_call 18; (with_reducible refine (callsIn_wide.2 K1.out).mono ?_); rintro e w2 ⟨rfl, h2⟩; have HQ2 := Lib.hid (And.intro (cell_keep HQ1.out.1 h2) (And.intro (cell_keep HQ1.out.2.1 h2) (And.intro (cell_keep HQ1.out.2.2.1 h2) (cell_keep HQ1.out.2.2.2 h2)))); have H2 := Lib.hid h2; clear h2)
    | (refine wpListIn_make_tab _ rfl (.tmp 22) (.tmp 22) rfl (a.size + 1) rfl rfl (by omega) ?_; intro w3 hcs h3 hs3; have HCS := Lib.hid hcs; have H3 := Lib.hid h3; have HS3 := Lib.hid hs3; have q0 := fun o => cell_keep (cell_keep HQ2.out.1 h3) (below_new w3 o); have q1 := fun o => cell_keep (cell_keep HQ2.out.2.1 h3) (below_new w3 o); have q2 := fun o => cell_keep (cell_keep HQ2.out.2.2.1 h3) (below_new w3 o); have q3 := fun o => cell_keep (cell_keep HQ2.out.2.2.2 h3) (below_new w3 o); clear hcs h3 hs3; unfold sl)
    | (refine ⟨trivial, ?_⟩; gi_at_call 19; (with_reducible refine (callsIn_wide.2 (HR.out _)).mono ?_); rintro e w5 ⟨rfl, hcap, h5, hs5⟩; have HCap := Lib.hid hcap; have H5 := Lib.hid h5; have HS5 := Lib.hid hs5; clear hcap h5 hs5))
  obtain ⟨B, hB⟩ : ∃ B, B = w2.heap.size := ⟨_, rfl⟩
  have hcap := HCap.out; have h5 := H5.out; have hs5 := HS5.out; have h3 := H3.out; have h2 := H2.out; have hb1 := HB1.out; have hs3 := HS3.out
  rw [← hB] at hs3
  have e2 : (w3.alloc (.cells #[.slice (some ⟨w2.heap.size, 0, none⟩) (a.size + 1) (a.size + 1)] 59)).heap.size = B + 1 + 1 := by simp [hs3]
  rw [e2] at hcap hs5
  have hq : B + 1 + 1 + 3 = w5.heap.size := by omega
  have hwB : w.heap.size < B := by have := h2.size; have := hb1.size; have : w1.heap.size = w.heap.size + 1 := by (rw [HW1.out]; simp)
                                   omega
  have hb35 : Below w3.heap.size w3 w5 := (below_new w3 _).trans (h5.mono (by omega))
  have ho : w5.heap[B + 1]? = some (.cells #[.slice (some ⟨B, 0, none⟩) (a.size + 1) (a.size + 1)] 59 (0, 0)) := by
    rw [h5.block (B + 1) (by omega), hB, ← HS3.out]; exact heap_alloc_new w3 _
  have hbw : Below w.heap.size w w5 := ((hb1.trans (h2.mono hb1.size)).trans (h3.mono (Nat.le_trans hb1.size h2.size))).trans (hb35.mono (by omega))
  have hqc : w5.heap[w.heap.size]? = some (.cells #[.int .i64 c.ins, .int .i64 c.del, .int .i64 c.chg, .int .i64 c.swp] 23 (0, 0)) := by
    have s1 : w1.heap.size = w.heap.size + 1 := by rw [HW1.out]; simp
    have := h2.size
    rw [hb35.block _ (by omega), h3.block _ (by omega), h2.block _ (by omega), HW1.out]; exact heap_alloc_new w _
  have hdt : DT c a b (w5.heap.size + 6) B 0 w5 := by
    obtain ⟨cs, g1, g2, g3⟩ := HCS.out
    refine ⟨cs, by rw [hb35.block _ (by omega), hB]; exact g1, g2, fun i hi => ⟨_, g3 i (by omega), fun h => by omega, fun _ => rfl⟩⟩
  rw [hs3, ← hB]
  have HQ := Lib.hid hq; have HWB := Lib.hid hwB; have HO := Lib.hid ho; have HBW := Lib.hid hbw; have HCC := Lib.hid hcap; have HQC := Lib.hid hqc; have HDT := Lib.hid hdt
  clear q0 q1 q2 q3 hcap h3 hs3 h2 hb1 e2 hq hwB ho hbw HCap H3 HS3 H2 hB HQ1 HQ2 HW1 hw1 HR K1 hb35 hqc hdt HCS H5 HS5 h5 hs5
  refine wp_told (gf := 27) (lb := #[.pointer (some ⟨B + 1 + 1 + 1, 0, none⟩), .pointer (some ⟨B + 1 + 1, 0, none⟩), .pointer (some ⟨B + 1 + 1 + 2, 0, none⟩)]) rfl (enters_of Try.func27 (by kernel_rfl) rfl)
    (rows_told c a b hc ha hb (B + 1 + 1) w5 HQ.out HCC.out) rfl KQ.trans (fun W k o o' hk h hcc => KQ.putObj W k o o' h hcc)
    (fun pre x W k o o' h hk hcc => ⟨h.idx, fun j hj => (KQ.putObj (q := 0) W k o o' hk hcc).cell (Nat.zero_le _) (h.row j hj), h.lo, by simpa using h.hi, by simpa using h.size⟩) (fun _ => rfl)
    (PI c a b (w5.heap.size + 6) B (B + 1) w.heap.size w)
    (fun _ _ _ => False)
    (PI.own (by have := HQ.out; omega) (by have := HQ.out; have := HWB.out; omega) (Nat.le_refl _)) (fun _ _ _ _ _ hs _ _ => hs)
    (PI.chg (by have := HQ.out; omega) (by have := HQ.out; have := HWB.out; omega) (by have := HQ.out; omega) (Nat.le_refl _) (Nat.le_refl _)) (fun _ _ _ _ h _ => h)
    ⟨⟨_, HO.out, rfl⟩, ⟨_, HQC.out, rfl⟩, HDT.out, HBW.out⟩
    (fun x => { tmps := #[.string a, .string b, .agg #[.int .i64 c.ins, .int .i64 c.del, .int .i64 c.chg, .int .i64 c.swp], undef, undef, .pointer (some ⟨w.heap.size, 0, none⟩), .slice none 0 0, .int .i64 0, .int .i64 0, .int .i64 0, .pointer (some ⟨B + 1, 0, none⟩), .int .i64 x.i, sl x.blk (b.size + 1), .string a, .string b,
      .agg #[.int .i64 c.ins, .int .i64 c.del, .int .i64 c.chg, .int .i64 c.swp], .int .i64 0, .int .i64 0, .bool false, undef, .string a, .int .i64 a.size, .int .i64 (a.size + 1), .slice (some ⟨B, 0, none⟩) (a.size + 1) (a.size + 1), .string a, .string b, .agg #[.int .i64 c.ins, .int .i64 c.del, .int .i64 c.chg, .int .i64 c.swp],
      .func (.func 27) #[] #[.pointer (some ⟨B + 1 + 1 + 1, 0, none⟩), .pointer (some ⟨B + 1 + 1, 0, none⟩), .pointer (some ⟨B + 1 + 1 + 2, 0, none⟩)], .int .i64 x.i, sl x.blk (b.size + 1), undef, undef, undef, undef, undef, undef, undef, undef, undef, undef, undef, undef, undef, undef, undef], defers := [] }) ?assign ?body ?done ?stop
  case assign =>
    intro l x W K hK
    unfold Val.encs
    gi_wp2
    exact hK
  case body =>
    rintro l pre x W ⟨⟨o, ho, rfl⟩, hqb, hdt, hbel⟩ hT
    obtain ⟨b1, b2⟩ := box1 ho
    have hx := hT.idx
    have hxa : (x.i : Int) ≤ (a.size : Int) := by omega
    have hcl := clone_row c a b x.i x.blk hb W.drew hT.row
    have HCl := Lib.hid hcl; have HQB := Lib.hid hqb; have HDT2 := Lib.hid hdt; have HBel := Lib.hid hbel; have HT := Lib.hid hT; have HO2 := Lib.hid ho; have HX := Lib.hid hx
    unfold sl
    clear hqb hdt hbel hT hcl ho hx
    gi_wp2
    gi_region_with (first
      | (refine ⟨trivial, ?_⟩; gi_at_call 20; go_loud ((with_reducible refine (CallsIn.inRound l (callsIn_wide.2 HCl.out)).mono ?_); rintro e V ⟨v, rfl, hv, hbv⟩; obtain ⟨blk, cap, rfl, hv2⟩ := hv; have HV := Lib.hid hv2; have hbv := undrew (n := 1) hbv; have HBV := Lib.hid hbv; have hd2 := HDT2.out.kc (p := 0) (q := 0) (KC.of_below hbv) (by omega) (by omega); have HD2 := Lib.hid hd2; obtain ⟨g1, g2⟩ := hd2.at HX.out; have b3 := cell_keep b1 hbv; clear hbv hd2 hv2)))
    all_goals
      gi_wp2
      exact path_round ⟨⟨_, HO2.out, rfl⟩, HQB.out, HDT2.out, HBel.out⟩ HX.out (by have := HQ.out; omega) HWB.out (by have := HQ.out; omega) (Nat.le_refl _) HBV.out (by have := HT.out.size; have h := HV.out.1; exact Nat.le_trans this h) HV.out.2 HBel.out.size
  case done =>
    rintro D xs W hD hS ⟨⟨o, ho, rfl⟩, ⟨o', hqb, rfl⟩, hdt, hbel⟩ hK
    rw [hS] at hdt
    obtain ⟨b1, b2⟩ := box1 ho
    obtain ⟨p0, p1, p2, p3⟩ := box4 hqb
    obtain ⟨blk, cap, r0, r1⟩ := hdt.cells (Nat.zero_le _)
    have r1 := r1 0 (Nat.zero_le _)
    rw [dv_zero] at r1
    have hdd : DT c a b (w5.heap.size + 6) B (a.size + 1) W.drew := hdt
    have hfp := firstPath_any c a b hc ha hb _ B W.drew hdd
    unfold cstV at hfp
    obtain ⟨L, hL⟩ : ∃ L, L = Ed.path c (tx a) (tx b) := ⟨_, rfl⟩
    obtain ⟨d, hdv⟩ : ∃ d, d = Ed.D c (tx a) (tx b) := ⟨_, rfl⟩
    rw [← hL] at hfp
    rw [← hdv] at r1
    have HL := Lib.hid hL; have HDV := Lib.hid hdv
    have HFP := Lib.hid hfp; have HBel := Lib.hid hbel; have HK := Lib.hid hK; have HD := Lib.hid hD
    clear hfp hbel hK hdd hdt ho hqb hL hdv hS
    gi_wp2
    refine wpIn_wide.2 ?_
    go_region_held3 (fun V => V.cell? ⟨B + 1, 0, none⟩ = some (.slice (some ⟨B, 0, none⟩) (a.size + 1) (a.size + 1)) ∧ V.cell? ⟨B, 0, none⟩ = some (.slice (some ⟨blk, 0, none⟩) (b.size + 1) cap) ∧ V.cell? ⟨blk, 0, none⟩ = some (.int .i64 d) ∧
        V.cell? ⟨w.heap.size, 0, none⟩ = some (.int .i64 c.ins) ∧ V.cell? ⟨w.heap.size, 1, none⟩ = some (.int .i64 c.del) ∧ V.cell? ⟨w.heap.size, 2, none⟩ = some (.int .i64 c.chg) ∧ V.cell? ⟨w.heap.size, 3, none⟩ = some (.int .i64 c.swp))
      (first | exact ⟨b1, r0, r1, p0, p1, p2, p3⟩ | exact ⟨u1, u2, u3, u4, u5, u6, u7⟩)
      (first
        | (go_at_call 21; (with_reducible refine HFP.out.mono ?_); rintro e V ⟨A, n, cap2, rfl, ho, hbv⟩; have hbv := undrew (n := 1) hbv; have u1 := cell_keep b1 hbv; have u2 := cell_keep r0 hbv; have u3 := cell_keep r1 hbv; have u4 := cell_keep p0 hbv; have u5 := cell_keep p1 hbv; have u6 := cell_keep p2 hbv; have u7 := cell_keep p3 hbv; have HBV := Lib.hid hbv; have HOV := Lib.hid ho; clear hbv ho))
    gi_wp2
    have hb2 := HBV.out
    have hk2 : V.heap[D]? = some (.deferred (some [])) := (hb2.block _ (Array.getElem?_eq_some_iff.1 HK.out).1).trans HK.out
    refine ⟨by simp, .inl ⟨_, _, rfl, run_takeDeferred hk2, ?_⟩⟩
    have ho2 := HOV.out
    rw [HL.out] at ho2
    refine ⟨_, results_tmp3 rfl _ _ _, A, n, cap2, (by show Ending.returned (.tuple #[.slice A n cap2, .int .i64 d, .int .i64 0]) = _; rw [HDV.out]), ?_, ?_⟩
    · exact ⟨ho2.1, ownsRow_putObj (ho2.mono (by have := HBel.out.size; exact this)).2 _ hk2 rfl⟩
    · exact putObj_below (by have := HQ.out; have := HWB.out; have := HD.out; omega) _ (HBel.out.trans (hb2.mono HBel.out.size))
  case stop =>
    rintro D cc pre W _ _ h _
    exact h.elim
theorem path_any (c : Ed.Cst) (a b : ByteArray) (w : World) : Calls Try.prog 9 #[.string a, .string b, cstV c] w (PostP c a b w) :=
  if h : errOf c a b = 0 then path_okw c a b w h else path_err c a b w h
end Go.Proofs.Ythojojjdamchpaa
