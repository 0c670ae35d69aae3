/-
  The walk of Within, where nothing is wrong.
-/
import Derived.Test.YthojojjdamchpaaEdiWithin
namespace Go.Proofs.Ythojojjdamchpaa
open Go.RowKit Go.Shelf
set_option linter.unusedVariables false
set_option linter.unusedSimpArgs false
attribute [local go_sem] Oper.semAt_some

/-- what the loop of Within keeps -/
def WI (c : Ed.Cst) (a b : ByteArray) (most : Int) (q X : Nat) (w : World) (pre : List Val) (W : World) : Prop :=
  WM c most q W ∧ (∃ d h : Int, W.heap[X]? = some (.cells #[.int .i64 d] 3 (0, 0)) ∧ W.heap[X + 1]? = some (.cells #[.int .i64 h] 3 (0, 0)) ∧ WP c a b pre d h ∧ 0 ≤ d ∧ d ≤ 120000 ∧ 0 ≤ h ∧ h ≤ 120000) ∧ Below q w W
/-- .. and where it is left -/
def WX (c : Ed.Cst) (a b : ByteArray) (most : Int) (q : Nat) (w : World) (cc : Code) (_ : List Val) (W : World) : Prop :=
  cc = .ret ∧ WR q 0 false 0 W ∧ ¬ Ed.D c (tx a) (tx b) ≤ most ∧ Below q w W
theorem grown_keep {N : Nat} {W W' : World} {row : Option Nat} (hg : W.grownBy W' row) (hr : ∀ r, row = some r → N ≤ r ∧ ∃ o : Obj, W.heap[r]? = some o ∧ o.isCells = false) (k : Nat) (o : Obj) (hk : k < N) (ho : W.heap[k]? = some o) : W'.heap[k]? = some o :=
  (hg.block k (Array.getElem?_eq_some_iff.1 ho).1 (fun e => by have := (hr k e.symm).1; omega)).trans ho
theorem WI.own {c : Ed.Cst} {a b : ByteArray} {most : Int} {q X N : Nat} {w : World} (hq : q + 4 < N) (hX : X + 1 < N) (hw : q ≤ w.heap.size) : OwnFrom N (WI c a b most q X w) := by
  rintro s W W' row ⟨h1, ⟨d, h, h2, h3, h4⟩, h5⟩ hg hr
  exact ⟨h1.keep fun k o _ hk ho => grown_keep hg hr k o (by omega) ho, ⟨d, h, grown_keep hg hr _ _ (by omega) h2, grown_keep hg hr _ _ hX h3, h4⟩, own_below0 (β := Unit) (by omega) hw () W W' row h5 hg hr⟩
theorem WI.chg {c : Ed.Cst} {a b : ByteArray} {most : Int} {q X n m : Nat} {w : World} (hq : q + 4 < n) (hX : X + 1 < n) (hw : q ≤ w.heap.size) : ∀ s Y Z, WI c a b most q X w s Y → Chg n m Y Z → WI c a b most q X w s Z := by
  rintro s Y Z ⟨h1, ⟨d, h, h2, h3, h4⟩, h5⟩ hc
  exact ⟨h1.keep fun k o _ hk ho => hc.keep (by omega) ho, ⟨d, h, hc.keep (by omega) h2, hc.keep (by omega) h3, h4⟩, chg_below (by omega) hw h5 hc⟩
theorem WX.own {c : Ed.Cst} {a b : ByteArray} {most : Int} {q N : Nat} {w : World} (hq : q + 4 < N) (hw : q ≤ w.heap.size) (cc : Code) : OwnFrom N (WX c a b most q w cc) := by
  rintro s W W' row ⟨h0, h1, h2, h5⟩ hg hr
  exact ⟨h0, h1.keep fun k o _ hk ho => grown_keep hg hr k o (by omega) ho, h2, own_below0 (β := Unit) (by omega) hw () W W' row h5 hg hr⟩
theorem WX.chg {c : Ed.Cst} {a b : ByteArray} {most : Int} {q n m : Nat} {w : World} (hq : q + 4 < n) (hw : q ≤ w.heap.size) : ∀ cc s Y Z, WX c a b most q w cc s Y → Chg n m Y Z → WX c a b most q w cc s Z := by
  rintro cc s Y Z ⟨h0, h1, h2, h5⟩ hc
  exact ⟨h0, h1.keep fun k o _ hk ho => hc.keep (by omega) ho, h2, chg_below (by omega) hw h5 hc⟩
theorem set3_below {q : Nat} {w W : World} (h : Below q w W) (x y z : Value) : Below q w (((W.setCell ⟨q + 2, 0, none⟩ x).setCell ⟨q + 3, 0, none⟩ y).setCell ⟨q + 4, 0, none⟩ z) :=
  ((h.setCell (by show q ≤ q + 2; omega) _).setCell (by show q ≤ q + 3; omega) _).setCell (by show q ≤ q + 4; omega) _
theorem set3_keeps {q N : Nat} {W : World} (hq : q + 4 < N) (x y z : Value) : KeepsFrom N W (((W.setCell ⟨q + 2, 0, none⟩ x).setCell ⟨q + 3, 0, none⟩ y).setCell ⟨q + 4, 0, none⟩ z) :=
  ((keeps_set (by omega)).trans (keeps_set (by omega))).trans (keeps_set (by omega))
theorem w_round {c : Ed.Cst} {a b : ByteArray} {most : Int} {q X N : Nat} {w W : World} {pre : List Val} {x : Val} {d h d2 h2 : Int} (hm : WM c most q W) (h1 : W.heap[X]? = some (.cells #[.int .i64 d] 3 (0, 0))) (h3 : W.heap[X + 1]? = some (.cells #[.int .i64 h] 3 (0, 0))) (hb : Below q w W) (hX : X + 1 < N) (hq : q + 4 < X)
    (hx : x.i + pre.length = a.size) (e1 : d2 = Dv c a b x.i 0) (e2 : h2 = mnv c a b x.i) (r1 : 0 ≤ d2 ∧ d2 ≤ 120000) (r2 : 0 ≤ h2 ∧ h2 ≤ 120000) :
    KeepsFrom N W ((W.setCell ⟨X, 0, none⟩ (.int .i64 d2)).setCell ⟨X + 1, 0, none⟩ (.int .i64 h2)) ∧ KQ (X + 1 + 1) W ((W.setCell ⟨X, 0, none⟩ (.int .i64 d2)).setCell ⟨X + 1, 0, none⟩ (.int .i64 h2)) ∧
      WI c a b most q X w (pre ++ [x]) ((W.setCell ⟨X, 0, none⟩ (.int .i64 d2)).setCell ⟨X + 1, 0, none⟩ (.int .i64 h2)) := by
  refine ⟨(keeps_set (by omega)).trans (keeps_set (by omega)), (kq_set (by omega)).trans (kq_set (by omega)), hm.keep fun k o k1 k2 ho => ?_, ⟨d2, h2, ?_, ?_, ⟨fun h => by simp at h, fun p i hp hi => ?_⟩, r1.1, r1.2, r2.1, r2.2⟩, (hb.setCell (by show q ≤ X; omega) _).setCell (by show q ≤ X + 1; omega) _⟩
  · rw [heap_set_other _ _ _ _ _ (by omega), heap_set_other _ _ _ _ _ (by omega)]; exact ho
  · rw [heap_set_other _ _ _ _ _ (by omega)]; exact heap_setCell_same W X 0 _ _ _ h1
  · exact heap_setCell_same _ (X + 1) 0 _ _ _ ((heap_set_other _ _ _ _ _ (by omega)).trans h3)
  · rw [List.length_append, List.length_singleton] at hp
    obtain rfl : i = x.i := by omega
    exact ⟨e1, e2⟩
theorem withinD_yes {c : Ed.Cst} {a b : ByteArray} {most : Int} (he : errOf c a b = 0) (h : Ed.D c (tx a) (tx b) ≤ most) : withinD c a b most = Ed.D c (tx a) (tx b) ∧ withinB c a b most = true :=
  ⟨if_pos ⟨he, h⟩, decide_eq_true ⟨he, h⟩⟩
theorem withinD_no {c : Ed.Cst} {a b : ByteArray} {most : Int} (h : ¬ Ed.D c (tx a) (tx b) ≤ most) : withinD c a b most = 0 ∧ withinB c a b most = false :=
  ⟨if_neg fun x => h x.2, decide_eq_false fun x => h x.2⟩

set_option maxRecDepth 100000 in
set_option maxHeartbeats 4000000 in
theorem within_ok (c : Ed.Cst) (a b : ByteArray) (most : Int) (w : World) (he : errOf c a b = 0) : Calls Try.prog 11 #[.string a, .string b, cstV c, .int .i64 most] w (PostW c a b most w) := by
  obtain ⟨hc, ha, hb⟩ := errOf_zero he
  have k1 := fun W => check_any c a b W
  have hrow := fun w => rows_any a b c w
  obtain ⟨hm, hbw, hsz⟩ := wW_mem c most w
  obtain ⟨w1, hw1⟩ : ∃ w1, w1 = wW c most w := ⟨_, rfl⟩
  rw [← hw1] at hm hbw hsz
  unfold wW at hw1
  unfold PostW
  rw [he] at k1 ⊢
  unfold cstV at k1 hrow ⊢
  have K1 := Lib.hid k1; have HM := Lib.hid hm; have HB1 := Lib.hid hbw; have HR := Lib.hid hrow; have HE := Lib.hid he; have HSZ := Lib.hid hsz
  obtain ⟨_, _, _, v0, v1, v2, v3⟩ := hm.facts
  clear k1 hm hbw hrow he hsz
  refine (callsIn_wide (n := 6)).1 ?_
  refine callsIn_of_wp_marks Try.func11 rfl trivial ?_ rfl
  simp only [Try.ntmps11, List.size_toArray, List.length_cons, List.length_nil, Nat.reduceAdd, Nat.reduceSub, Array.replicate_succ, Array.replicate_zero, List.push_toArray, List.append_toArray, List.nil_append, List.cons_append]
  gi_wp2_with fail
  rw [← hw1]
  clear hw1
  gi_wp2_with (first
    | (refine ⟨trivial, ?_⟩; gi_at_call 18; (with_reducible refine (callsIn_wide.2 (K1.out _)).mono ?_); rintro e w2 ⟨rfl, h2⟩; have q0 := fun o p => cell_keep (cell_keep (cell_keep v0 h2) (below_new w2 o)) (below_new _ p); have q1 := fun o p => cell_keep (cell_keep (cell_keep v1 h2) (below_new w2 o)) (below_new _ p); have q2 := fun o p => cell_keep (cell_keep (cell_keep v2 h2) (below_new w2 o)) (below_new _ p); have q3 := fun o p => cell_keep (cell_keep (cell_keep v3 h2) (below_new w2 o)) (below_new _ p); have H2 := Lib.hid h2; have HM2 := Lib.hid (HM.out.below h2); clear h2 v0 v1 v2 v3)
    | (refine ⟨trivial, ?_⟩; gi_at_call 19; (with_reducible refine (callsIn_wide.2 (HR.out _)).mono ?_); rintro e w5 ⟨rfl, hcap, h5, hs5⟩; have HCap := Lib.hid hcap; have H5 := Lib.hid h5; have HS5 := Lib.hid hs5; clear hcap h5 hs5))
  obtain ⟨X, hX⟩ : ∃ X, X = w2.heap.size := ⟨_, rfl⟩
  have hcap := HCap.out; have h5 := H5.out; have hs5 := HS5.out; have h2 := H2.out; have hb1 := HB1.out; have hs1 := HSZ.out
  have e2 : ((w2.alloc (.cells #[.int .i64 0] 3)).alloc (.cells #[.int .i64 0] 3)).heap.size = X + 1 + 1 := by simp [hX]
  rw [e2] at hcap hs5
  have hq : X + 1 + 1 + 3 = w5.heap.size := by omega
  have hwX : w.heap.size + 4 < X := by have := h2.size; omega
  have hb25 : Below w2.heap.size w2 w5 := ((below_new w2 (.cells #[.int .i64 0] 3)).trans ((below_new _ (.cells #[.int .i64 0] 3)).mono (by simp))).trans (h5.mono (by rw [e2]; omega))
  have ho1 : w5.heap[X]? = some (.cells #[.int .i64 0] 3 (0, 0)) := by
    rw [h5.block X (by rw [e2]; omega), hX, (below_new _ (.cells #[.int .i64 0] 3)).block _ (by simp)]; exact heap_alloc_new w2 _
  have ho2 : w5.heap[X + 1]? = some (.cells #[.int .i64 0] 3 (0, 0)) := by
    rw [h5.block (X + 1) (by rw [e2]; omega), hX]; exact map_new _ _ _ (by simp)
  have hbw : Below w.heap.size w w5 := (hb1.trans (h2.mono hb1.size)).trans (hb25.mono (by omega))
  have hm5 : WM c most w.heap.size w5 := HM2.out.below hb25
  rw [← hX]
  have HQ := Lib.hid hq; have HWX := Lib.hid hwX; have HO1 := Lib.hid ho1; have HO2 := Lib.hid ho2; have HBW := Lib.hid hbw; have HCC := Lib.hid hcap; have HM5 := Lib.hid hm5
  clear q0 q1 q2 q3 hcap h2 hb1 e2 hq hwX ho1 ho2 hbw HCap H2 hX HR K1 hb25 H5 HS5 h5 hs5 hs1 HSZ hm5 HM2 HM
  refine wp_told (gf := 27) (lb := #[.pointer (some ⟨X + 1 + 1 + 1, 0, none⟩), .pointer (some ⟨X + 1 + 1, 0, none⟩), .pointer (some ⟨X + 1 + 1 + 2, 0, none⟩)]) rfl (enters_of Try.func27 (by kernel_rfl) rfl)
    (rows_told c a b hc ha hb (X + 1 + 1) w5 HQ.out HCC.out) rfl KQ.trans (fun W k o o' hk h hcc => KQ.putObj W k o o' h hcc)
    (fun pre x W k o o' h hk hcc => ⟨h.idx, fun j hj => (KQ.putObj (q := 0) W k o o' hk hcc).cell (Nat.zero_le _) (h.row j hj), h.lo, by simpa using h.hi, by simpa using h.size⟩) (fun _ => rfl)
    (WI c a b most w.heap.size X w)
    (WX c a b most w.heap.size w)
    (WI.own (by have := HQ.out; have := HWX.out; omega) (by have := HQ.out; omega) (Nat.le_refl _)) (WX.own (by have := HQ.out; have := HWX.out; omega) (Nat.le_refl _))
    (WI.chg (by have := HQ.out; have := HWX.out; omega) (by have := HQ.out; omega) (Nat.le_refl _)) (WX.chg (by have := HQ.out; have := HWX.out; omega) (Nat.le_refl _))
    ⟨HM5.out, ⟨0, 0, HO1.out, HO2.out, ⟨fun _ => ⟨rfl, rfl⟩, fun p i h => by simp at h⟩, by omega, by omega, by omega, by omega⟩, HBW.out⟩
    (fun x => { tmps := #[.string a, .string b, .agg #[.int .i64 c.ins, .int .i64 c.del, .int .i64 c.chg, .int .i64 c.swp], .int .i64 most, undef, undef, .pointer (some ⟨w.heap.size, 0, none⟩), .pointer (some ⟨w.heap.size + 1, 0, none⟩), .pointer (some ⟨w.heap.size + 2, 0, none⟩), .pointer (some ⟨w.heap.size + 3, 0, none⟩), .pointer (some ⟨w.heap.size + 4, 0, none⟩), .int .i64 0, .pointer (some ⟨X, 0, none⟩), .pointer (some ⟨X + 1, 0, none⟩), undef, sl x.blk (b.size + 1), undef, .string a, .string b,
      .agg #[.int .i64 c.ins, .int .i64 c.del, .int .i64 c.chg, .int .i64 c.swp], .int .i64 0, .int .i64 0, .bool false, undef, .string a, .string b, .agg #[.int .i64 c.ins, .int .i64 c.del, .int .i64 c.chg, .int .i64 c.swp],
      .func (.func 27) #[] #[.pointer (some ⟨X + 1 + 1 + 1, 0, none⟩), .pointer (some ⟨X + 1 + 1, 0, none⟩), .pointer (some ⟨X + 1 + 1 + 2, 0, none⟩)], .int .i64 x.i, sl x.blk (b.size + 1), undef, undef, undef, undef, undef, undef, undef, undef, undef, undef, undef, undef, undef, undef, undef], defers := [] }) ?assign ?body ?done ?stop
  case assign =>
    intro l x W K hK
    unfold Val.encs
    gi_wp2
    exact hK
  case body =>
    rintro l pre x W ⟨hm, ⟨d, h, o1, o2, hwp, d0, d1, h0, h1⟩, hbel⟩ hT
    obtain ⟨b1, b2⟩ := box1 o1
    obtain ⟨b3, b4⟩ := box1 o2
    obtain ⟨⟨f1, f2, f3⟩, ⟨g1, g2, g3⟩, f4, _⟩ := hm.facts
    have hx := hT.idx
    have hmin := row_min c a b x.i x.blk hb W hT.row
    have hr := mnv_range hc a b ha hb x.i
    have hr2 := dv_bound hc a b ha hb x.i 0
    have c0 := hT.row 0 (Nat.zero_le _)
    obtain ⟨m, hmm⟩ : ∃ m, m = mnv c a b x.i := ⟨_, rfl⟩
    obtain ⟨d2, hd2⟩ : ∃ d2, d2 = Dv c a b x.i 0 := ⟨_, rfl⟩
    rw [← hmm] at hmin hr
    rw [← hd2] at c0 hr2
    have HMin := Lib.hid hmin; have HM := Lib.hid hm; have HWP := Lib.hid hwp; have HBel := Lib.hid hbel; have HT := Lib.hid hT; have HX := Lib.hid hx; have HMM := Lib.hid hmm; have HD2 := Lib.hid hd2; have HRR := Lib.hid hr; have HRR2 := Lib.hid hr2; have HO3 := Lib.hid o1; have HO4 := Lib.hid o2
    obtain ⟨m0, m1⟩ := hr
    unfold sl
    clear hmin hm hwp hbel hT hx hmm hd2 hr2 o1 o2
    by_cases hgo : most < m ∧ most < h
    · have hno := stop_no hc a b pre x.i d h most HWP.out HX.out (by rw [← HMM.out]; exact hgo.1) hgo.2
      have HNO := Lib.hid hno
      have hd : decide (most < min m h) = true := decide_eq_true (by omega)
      clear hno hgo
      gi_wp2_with (refine ⟨trivial, ?_⟩; gi_at_call 22; (with_reducible refine (CallsIn.inRound l (callsIn_wide.2 HMin.out)).mono ?_); rintro e V ⟨rfl, rfl⟩)
      exact ⟨set3_keeps (by have := HQ.out; have := HWX.out; omega) _ _ _, rfl, HM.out.set 0 false 0, (by have := HNO.out; omega), set3_below HBel.out _ _ _⟩
    · have hd : decide (most < min m h) = false := decide_eq_false (by omega)
      clear hgo
      gi_wp2_with (refine ⟨trivial, ?_⟩; gi_at_call 22; (with_reducible refine (CallsIn.inRound l (callsIn_wide.2 HMin.out)).mono ?_); rintro e V ⟨rfl, rfl⟩)
      exact w_round HM.out HO3.out HO4.out HBel.out (by have := HQ.out; omega) HWX.out HX.out HD2.out HMM.out HRR2.out HRR.out
  case done =>
    rintro D xs W hD hS ⟨hm, ⟨d, h, o1, o2, hwp, d0, d1, h0, h1⟩, hbel⟩ hK
    obtain ⟨b1, b2⟩ := box1 o1
    obtain ⟨⟨f1, f2, f3⟩, ⟨g1, g2, g3⟩, f4, _⟩ := hm.facts
    have hv : d = Ed.D c (tx a) (tx b) := (hwp.2 a.size 0 hS (by omega)).1
    have HV := Lib.hid hv; have HM := Lib.hid hm; have HBel := Lib.hid hbel; have HK := Lib.hid hK; have HDD := Lib.hid hD
    clear hv hwp hm hbel o1 o2 hK hD h0 h1
    have hkk : ∀ (Y : World), W.heap.size ≤ Y.heap.size → (∀ k, w.heap.size + 4 < k → Y.heap[k]? = W.heap[k]?) → Y.heap[D]? = some (.deferred (some [])) := fun Y _ h => (h D (by have := HQ.out; have := HWX.out; have := HDD.out; omega)).trans HK.out
    have HKK := Lib.hid hkk
    clear hkk
    by_cases hle : d ≤ most
    · have hd : decide (most < d) = false := decide_eq_false (by omega)
      obtain ⟨e1, e2⟩ := withinD_yes (a := a) (b := b) HE.out (by rw [← HV.out]; exact hle)
      have HE1 := Lib.hid e1; have HE2 := Lib.hid e2
      clear hle e1 e2
      gi_wp2
      have hk2 := HKK.out (((W.setCell ⟨w.heap.size + 2, 0, none⟩ (.int .i64 d)).setCell ⟨w.heap.size + 3, 0, none⟩ (.bool true)).setCell ⟨w.heap.size + 4, 0, none⟩ (.int .i64 0)) (by simp) (fun k hk => by rw [heap_set_other _ _ _ _ _ (by omega), heap_set_other _ _ _ _ _ (by omega), heap_set_other _ _ _ _ _ (by omega)])
      refine ⟨by simp, .inl ⟨_, _, rfl, run_takeDeferred hk2, ?_⟩⟩
      exact ⟨_, res_within _ _ w.heap.size d true 0 rfl rfl rfl ((HM.out.set d true 0).keep fun k o _ _ ho => (World.putObj_heap_other (by have := HQ.out; have := HWX.out; have := HDD.out; omega)).trans ho), by rw [HE1.out, HE2.out, HV.out], putObj_below (by have := HQ.out; have := HWX.out; have := HDD.out; omega) _ (set3_below HBel.out _ _ _)⟩
    · have hd : decide (most < d) = true := decide_eq_true (by omega)
      obtain ⟨e1, e2⟩ := withinD_no (c := c) (a := a) (b := b) (most := most) (by rw [← HV.out]; exact hle)
      have HE1 := Lib.hid e1; have HE2 := Lib.hid e2
      clear hle e1 e2
      gi_wp2
      have hk2 := HKK.out (((W.setCell ⟨w.heap.size + 2, 0, none⟩ (.int .i64 0)).setCell ⟨w.heap.size + 3, 0, none⟩ (.bool false)).setCell ⟨w.heap.size + 4, 0, none⟩ (.int .i64 0)) (by simp) (fun k hk => by rw [heap_set_other _ _ _ _ _ (by omega), heap_set_other _ _ _ _ _ (by omega), heap_set_other _ _ _ _ _ (by omega)])
      refine ⟨by simp, .inl ⟨_, _, rfl, run_takeDeferred hk2, ?_⟩⟩
      exact ⟨_, res_within _ _ w.heap.size 0 false 0 rfl rfl rfl ((HM.out.set 0 false 0).keep fun k o _ _ ho => (World.putObj_heap_other (by have := HQ.out; have := HWX.out; have := HDD.out; omega)).trans ho), by rw [HE1.out, HE2.out], putObj_below (by have := HQ.out; have := HWX.out; have := HDD.out; omega) _ (set3_below HBel.out _ _ _)⟩
  case stop =>
    rintro D cc pre W hD _ ⟨rfl, hr, hno, hbel⟩ hK
    obtain ⟨e1, e2⟩ := withinD_no (c := c) (a := a) (b := b) (most := most) hno
    have HE1 := Lib.hid e1; have HE2 := Lib.hid e2; have HRR := Lib.hid hr; have HBel := Lib.hid hbel
    clear e1 e2 hr hno hbel
    gi_wp2
    refine ⟨by simp, .inl ⟨_, _, rfl, run_takeDeferred hK, ?_⟩⟩
    exact ⟨_, res_within _ _ w.heap.size 0 false 0 rfl rfl rfl (HRR.out.keep fun k o _ _ ho => (World.putObj_heap_other (by have := HQ.out; have := HWX.out; omega)).trans ho), by rw [HE1.out, HE2.out], putObj_below (by have := HQ.out; have := HWX.out; omega) _ HBel.out⟩

theorem within_any (c : Ed.Cst) (a b : ByteArray) (most : Int) (w : World) : Calls Try.prog 11 #[.string a, .string b, cstV c, .int .i64 most] w (PostW c a b most w) :=
  if h : errOf c a b = 0 then within_ok c a b most w h else within_err c a b most w h
end Go.Proofs.Ythojojjdamchpaa
