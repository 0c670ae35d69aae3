/-
  Right, check and Distance.
-/
import Derived.Test.YthojojjdamchpaaEdiTell2
namespace Go.Proofs.Ythojojjdamchpaa
open Go.RowKit Go.Shelf
set_option linter.unusedVariables false
set_option linter.unusedSimpArgs false
attribute [local go_sem] Oper.semAt_some

def mn2 (x y : Int) : Int := if y < x then y else x
def mx2 (x y : Int) : Int := if x < y then y else x
theorem run_min4 (a b c d : Int) : ∃ m, (∀ W, (Builtin.min_ #[3, 3, 3, 3] 3 #[.int .i64 a, .int .i64 b, .int .i64 c, .int .i64 d]).run Try.prog W = .ok (.int .i64 m) W) ∧ (1 ≤ m ↔ 1 ≤ a ∧ 1 ≤ b ∧ 1 ≤ c ∧ 1 ≤ d) := by
  refine ⟨mn2 (mn2 (mn2 a b) c) d, fun W => rfl, ?_⟩
  unfold mn2; repeat' split
  all_goals omega
theorem run_max4 (a b c d : Int) : ∃ m, (∀ W, (Builtin.max_ #[3, 3, 3, 3] 3 #[.int .i64 a, .int .i64 b, .int .i64 c, .int .i64 d]).run Try.prog W = .ok (.int .i64 m) W) ∧ (m ≤ 1000 ↔ a ≤ 1000 ∧ b ≤ 1000 ∧ c ≤ 1000 ∧ d ≤ 1000) := by
  refine ⟨mx2 (mx2 (mx2 a b) c) d, fun W => rfl, ?_⟩
  unfold mx2; repeat' split
  all_goals omega
set_option maxHeartbeats 2000000 in
theorem right_any (c : Ed.Cst) (w : World) : Calls Try.prog 15 #[cstV c] w fun e w' => e = .returned (.bool (decide c.ok)) ∧ Below w.heap.size w w' := by
  obtain ⟨m, h1, h2⟩ := run_min4 c.ins c.del c.chg c.swp
  obtain ⟨M, h3, h4⟩ := run_max4 c.ins c.del c.chg c.swp
  have hk : c.ok ↔ 1 ≤ m ∧ M ≤ 1000 := by
    rw [h2, h4]; unfold Ed.Cst.ok
    constructor
    · rintro ⟨⟨_, _⟩, ⟨_, _⟩, ⟨_, _⟩, ⟨_, _⟩⟩; omega
    · rintro ⟨⟨_, _, _, _⟩, _, _, _, _⟩; omega
  have HK := Lib.hid hk
  clear h2 h4 hk
  unfold cstV
  by_cases g1 : 1 ≤ m
  · have d1 : decide (1 ≤ m) = true := decide_eq_true g1
    go_enter Try.func15, Try.ntmps15
    go_wp2
    go_ret
    exact ⟨ret_bool (decide_eq_decide.2 ⟨fun h => HK.out.2 ⟨g1, h⟩, fun h => (HK.out.1 h).2⟩), below_new w _⟩
  · have d1 : decide (1 ≤ m) = false := decide_eq_false g1
    go_enter Try.func15, Try.ntmps15
    go_wp2
    go_ret
    exact ⟨ret_bool (decide_eq_false fun h => by have := (HK.out.1 h).1; omega).symm, below_new w _⟩
/-- the error of texts and costs -/
def errOf (c : Ed.Cst) (a b : ByteArray) : Int := if c.ok then (if 60 < a.size ∨ 60 < b.size then 3 else 0) else 2
def PostN (z : Int) (w : World) (e : Ending) (w' : World) : Prop := e = .returned (.int .i64 z) ∧ Below w.heap.size w w'
set_option maxHeartbeats 2000000 in
theorem check_any (c : Ed.Cst) (a b : ByteArray) (w : World) : Calls Try.prog 18 #[.string a, .string b, cstV c] w (PostN (errOf c a b) w) := by
  have r1 := right_any c (w.alloc (.cells #[.int .i64 c.ins, .int .i64 c.del, .int .i64 c.chg, .int .i64 c.swp] 23))
  unfold cstV at r1 ⊢
  unfold errOf
  have hb := below_new w (.cells #[.int .i64 c.ins, .int .i64 c.del, .int .i64 c.chg, .int .i64 c.swp] 23)
  have HB := Lib.hid hb
  clear hb
  by_cases hc : c.ok
  · rw [if_pos hc]
    rw [decide_eq_true hc] at r1
    have R := Lib.hid r1
    clear r1 hc
    by_cases ha : 60 < a.size
    · have i1 : (60 : Int) < (a.size : Int) := by omega
      have d1 : decide ((60 : Int) < (a.size : Int)) = true := decide_eq_true i1
      rw [if_pos (.inl ha)]
      go_enter Try.func18, Try.ntmps18
      go_wp2_with (go_at_call 15; (with_reducible refine R.out.mono ?_); rintro e w2 ⟨rfl, h2⟩; have H2 := Lib.hid h2; clear h2)
      go_ret
      exact ⟨rfl, HB.out.trans (H2.out.mono HB.out.size)⟩
    · have i1 : (a.size : Int) ≤ 60 := by omega
      have d1 : decide ((60 : Int) < (a.size : Int)) = false := decide_eq_false (by omega)
      by_cases hb : 60 < b.size
      · have i2 : (60 : Int) < (b.size : Int) := by omega
        have d2 : decide ((60 : Int) < (b.size : Int)) = true := decide_eq_true i2
        rw [if_pos (.inr hb)]
        go_enter Try.func18, Try.ntmps18
        go_wp2_with (go_at_call 15; (with_reducible refine R.out.mono ?_); rintro e w2 ⟨rfl, h2⟩; have H2 := Lib.hid h2; clear h2)
        go_ret
        exact ⟨rfl, HB.out.trans (H2.out.mono HB.out.size)⟩
      · have i2 : (b.size : Int) ≤ 60 := by omega
        have d2 : decide ((60 : Int) < (b.size : Int)) = false := decide_eq_false (by omega)
        rw [if_neg (by omega)]
        go_enter Try.func18, Try.ntmps18
        go_wp2_with (go_at_call 15; (with_reducible refine R.out.mono ?_); rintro e w2 ⟨rfl, h2⟩; have H2 := Lib.hid h2; clear h2)
        go_ret
        exact ⟨rfl, HB.out.trans (H2.out.mono HB.out.size)⟩
  · rw [if_neg hc]
    rw [decide_eq_false hc] at r1
    have R := Lib.hid r1
    clear r1 hc
    go_enter Try.func18, Try.ntmps18
    go_wp2_with (go_at_call 15; (with_reducible refine R.out.mono ?_); rintro e w2 ⟨rfl, h2⟩; have H2 := Lib.hid h2; clear h2)
    go_ret
    exact ⟨rfl, HB.out.trans (H2.out.mono HB.out.size)⟩
/-- the distance, or 0 with an error -/
def distOf (c : Ed.Cst) (a b : ByteArray) : Int := if errOf c a b = 0 then Ed.D c (tx a) (tx b) else 0
def PostD (c : Ed.Cst) (a b : ByteArray) (w : World) (e : Ending) (w' : World) : Prop := e = .returned (.tuple #[.int .i64 (distOf c a b), .int .i64 (errOf c a b)]) ∧ Below w.heap.size w w'
theorem errOf_zero {c : Ed.Cst} {a b : ByteArray} (h : errOf c a b = 0) : c.ok ∧ a.size ≤ 60 ∧ b.size ≤ 60 := by
  unfold errOf at h
  split at h
  · rename_i hc
    split at h
    · omega
    · exact ⟨hc, by omega, by omega⟩
  · omega
theorem errOf_range (c : Ed.Cst) (a b : ByteArray) : errOf c a b = 0 ∨ errOf c a b = 2 ∨ errOf c a b = 3 := by
  unfold errOf; repeat' split
  all_goals simp

set_option maxRecDepth 100000 in
set_option maxHeartbeats 2000000 in
theorem distance_err (c : Ed.Cst) (a b : ByteArray) (w : World) (he : errOf c a b ≠ 0) : Calls Try.prog 8 #[.string a, .string b, cstV c] w (PostD c a b w) := by
  have k1 := check_any c a b (w.alloc (.cells #[.int .i64 c.ins, .int .i64 c.del, .int .i64 c.chg, .int .i64 c.swp] 23))
  unfold PostD distOf
  rw [if_neg he]
  obtain ⟨E, hE⟩ : ∃ E, errOf c a b = E := ⟨_, rfl⟩
  rw [hE] at k1 he ⊢
  unfold cstV at k1 ⊢
  have K1 := Lib.hid k1
  have HB := Lib.hid (below_new w (.cells #[.int .i64 c.ins, .int .i64 c.del, .int .i64 c.chg, .int .i64 c.swp] 23))
  clear k1 hE
  go_enter Try.func8, Try.ntmps8
  go_wp2_with (go_at_call 18; (with_reducible refine K1.out.mono ?_); rintro e w2 ⟨rfl, h2⟩; have H2 := Lib.hid h2; clear h2)
  go_ret2
  exact ⟨rfl, HB.out.trans (H2.out.mono HB.out.size)⟩

theorem own_heap {β : Type} {N B : Nat} (hB : B < N) (P : β → Obj → Prop) : OwnFrom N (fun s W => ∃ o, W.heap[B]? = some o ∧ P s o) := by
  rintro s W W' row ⟨o, ho, hp⟩ hg hr
  refine ⟨o, ?_, hp⟩
  rw [hg.block B (Array.getElem?_eq_some_iff.1 ho).1 (fun e => by have := (hr B e.symm).1; omega)]
  exact ho
theorem own_below0 {β : Type} {N n : Nat} {w : World} (hn : n ≤ N) (hnw : n ≤ w.heap.size) : OwnFrom N (fun (_ : β) W => Below n w W) := by
  intro s W W' row hb hg hr
  exact ⟨hg.os.trans hb.os, hg.tape.trans hb.tape, hg.output.trans hb.output, Nat.le_trans hb.size hg.size, fun k hk => (hg.block k (by have := hb.size; omega) (fun e => by have := (hr k e.symm).1; omega)).trans (hb.block k hk)⟩
theorem chg_below {p q n : Nat} {w X Y : World} (hp : n ≤ p) (hnw : n ≤ w.heap.size) (hb : Below n w X) (h : Chg p q X Y) : Below n w Y :=
  ⟨h.os.trans hb.os, h.tape.trans hb.tape, h.output.trans hb.output, Nat.le_trans hb.size h.size, fun k hk => (h.block k (by have := hb.size; omega) (by omega)).trans (hb.block k hk)⟩
theorem putObj_below {n D : Nat} {w X : World} (hD : n ≤ D) (o : Obj) (hb : Below n w X) : Below n w (X.putObj D o) :=
  ⟨hb.os, hb.tape, hb.output, by have := hb.size; simpa using this, fun k hk => (World.putObj_heap_other (by omega)).trans (hb.block k hk)⟩
theorem keeps_set {N B j : Nat} {v : Value} {X : World} (hB : B < N) : KeepsFrom N X (X.setCell ⟨B, j, none⟩ v) :=
  ⟨by simp, fun k o hk ho _ => (heap_set_other _ _ _ _ _ (by omega)).trans ho⟩
theorem kq_set {q B j : Nat} {v : Value} {X : World} (hB : B < q) : KQ q X (X.setCell ⟨B, j, none⟩ v) :=
  ⟨by simp, fun k o hk ho _ => (heap_set_other _ _ _ _ _ (by omega)).trans ho⟩
/-- what the box of the distance holds when some rows have been yielded -/
def DP (c : Ed.Cst) (a b : ByteArray) (pre : List Val) (o : Obj) : Prop := ∃ d : Int, o = .cells #[.int .i64 d] 3 (0, 0) ∧ ∀ p i, pre.length = p + 1 → i + p = a.size → d = Dv c a b i 0
theorem box1 {W : World} {B : Nat} {v : Value} {t : TypeId} (h : W.heap[B]? = some (.cells #[v] t (0, 0))) : W.cell? ⟨B, 0, none⟩ = some v ∧ W.frozen? ⟨B, 0, none⟩ = false :=
  ⟨cell_of_row _ _ 0 _ _ _ h, blk_frozen h 0⟩
theorem dv_zero (c : Ed.Cst) (a b : ByteArray) : Dv c a b 0 0 = Ed.D c (tx a) (tx b) := rfl

set_option maxRecDepth 100000 in
set_option maxHeartbeats 4000000 in
theorem distance_ok (c : Ed.Cst) (a b : ByteArray) (w : World) (he : errOf c a b = 0) : Calls Try.prog 8 #[.string a, .string b, cstV c] w (PostD c a b w) := by
  obtain ⟨hc, ha, hb⟩ := errOf_zero he
  obtain ⟨w1, hw1⟩ : ∃ w1, w1 = w.alloc (.cells #[.int .i64 c.ins, .int .i64 c.del, .int .i64 c.chg, .int .i64 c.swp] 23) := ⟨_, rfl⟩
  have k1 := check_any c a b w1
  unfold PostD distOf
  rw [if_pos he]
  rw [he] at k1 ⊢
  have hb1 : Below w.heap.size w w1 := by rw [hw1]; exact below_new w _
  have hq1 : w1.cell? ⟨w.heap.size, 0, none⟩ = some (.int .i64 c.ins) ∧ w1.cell? ⟨w.heap.size, 1, none⟩ = some (.int .i64 c.del) ∧ w1.cell? ⟨w.heap.size, 2, none⟩ = some (.int .i64 c.chg) ∧ w1.cell? ⟨w.heap.size, 3, none⟩ = some (.int .i64 c.swp) := by
    rw [hw1]; refine ⟨?_, ?_, ?_, ?_⟩ <;> go_simp
  have hrow := fun w => rows_any a b c w
  unfold cstV at k1 hrow ⊢
  have K1 := Lib.hid k1; have HB1 := Lib.hid hb1; have HR := Lib.hid hrow; have HQ1 := Lib.hid hq1; have HW1 := Lib.hid hw1
  clear k1 he hb1 hrow hq1
  refine (callsIn_wide (n := 6)).1 ?_
  refine callsIn_of_wp_marks Try.func8 rfl trivial ?_ rfl
  simp only [Try.ntmps8, List.size_toArray, List.length_cons, List.length_nil, Nat.reduceAdd, Nat.reduceSub, Array.replicate_succ, Array.replicate_zero, List.push_toArray, List.append_toArray, List.nil_append, List.cons_append]
  gi_wp2
  rw [← hw1]
  gi_wp2_with (first
    | (refine ⟨trivial, ?_⟩; gi_at_call 18; (with_reducible refine (callsIn_wide.2 K1.out).mono ?_); rintro e w2 ⟨rfl, h2⟩; have H2 := Lib.hid h2; have q0 := fun o => cell_keep (cell_keep HQ1.out.1 h2) (below_new w2 o); have q1 := fun o => cell_keep (cell_keep HQ1.out.2.1 h2) (below_new w2 o); have q2 := fun o => cell_keep (cell_keep HQ1.out.2.2.1 h2) (below_new w2 o); have q3 := fun o => cell_keep (cell_keep HQ1.out.2.2.2 h2) (below_new w2 o); clear h2)
    | (refine ⟨trivial, ?_⟩; gi_at_call 19; (with_reducible refine (callsIn_wide.2 (HR.out _)).mono ?_); rintro e w3 ⟨rfl, hcap, h3, hs3⟩; have HCap := Lib.hid hcap; have H3 := Lib.hid h3; have HS3 := Lib.hid hs3; clear hcap h3 hs3))
  obtain ⟨B, hB⟩ : ∃ B, B = w2.heap.size := ⟨_, rfl⟩
  have hcap := HCap.out; have h3 := H3.out; have hs3 := HS3.out; have h2 := H2.out; have hb1 := HB1.out
  have e2 : (w2.alloc (.cells #[.int .i64 0] 3)).heap.size = B + 1 := by rw [hB]; simp
  rw [e2] at hcap hs3
  have hq : B + 1 + 3 = w3.heap.size := by omega
  have hwB : w.heap.size ≤ B := by have := h2.size; have := hb1.size; omega
  have ho : w3.heap[B]? = some (.cells #[.int .i64 0] 3 (0, 0)) := by
    rw [h3.block B (by omega), hB]; exact heap_alloc_new w2 _
  have hbw : Below w.heap.size w w3 := ((hb1.trans (h2.mono hb1.size)).trans ((below_new w2 _).mono (Nat.le_trans hb1.size h2.size))).trans (h3.mono (by omega))
  rw [← hB]
  have HQ := Lib.hid hq; have HWB := Lib.hid hwB; have HO := Lib.hid ho; have HBW := Lib.hid hbw; have HCC := Lib.hid hcap
  clear q0 q1 q2 q3 hcap h3 hs3 h2 hb1 e2 hq hwB ho hbw HCap H3 HS3 H2 hB HQ1 HW1 hw1 HR K1
  refine wp_told (gf := 27) (lb := #[.pointer (some ⟨B + 1 + 1, 0, none⟩), .pointer (some ⟨B + 1, 0, none⟩), .pointer (some ⟨B + 1 + 2, 0, none⟩)]) rfl (enters_of Try.func27 (by kernel_rfl) rfl)
    (rows_told c a b hc ha hb (B + 1) w3 HQ.out HCC.out) rfl KQ.trans (fun W k o o' hk h hcc => KQ.putObj W k o o' h hcc)
    (fun pre x W k o o' h hk hcc => ⟨h.idx, fun j hj => (KQ.putObj (q := 0) W k o o' hk hcc).cell (Nat.zero_le _) (h.row j hj), h.lo, by simpa using h.hi, by simpa using h.size⟩) (fun _ => rfl)
    (fun pre W => (∃ o, W.heap[B]? = some o ∧ DP c a b pre o) ∧ Below w.heap.size w W)
    (fun _ _ _ => False)
    (OwnFrom.and (own_heap (by have := HQ.out; omega) _) (own_below0 (by have := HQ.out; have := HWB.out; omega) (Nat.le_refl _))) (fun _ _ _ _ _ hs _ _ => hs)
    (fun s X Y h hch => ⟨by obtain ⟨⟨o, h1, h2⟩, h3⟩ := h; exact ⟨o, hch.keep (by have := HQ.out; omega) h1, h2⟩, chg_below (by have := HQ.out; have := HWB.out; omega) (Nat.le_refl _) h.2 hch⟩) (fun _ _ _ _ h _ => h)
    ⟨⟨_, HO.out, 0, rfl, fun p i h => by simp at h⟩, HBW.out⟩
    (fun x => { tmps := #[.string a, .string b, .agg #[.int .i64 c.ins, .int .i64 c.del, .int .i64 c.chg, .int .i64 c.swp], undef, undef, .pointer (some ⟨w.heap.size, 0, none⟩), .int .i64 0, .int .i64 0, .int .i64 0, .pointer (some ⟨B, 0, none⟩), undef, sl x.blk (b.size + 1), .string a, .string b,
      .agg #[.int .i64 c.ins, .int .i64 c.del, .int .i64 c.chg, .int .i64 c.swp], .int .i64 0, .int .i64 0, .bool false, undef, .string a, .string b, .agg #[.int .i64 c.ins, .int .i64 c.del, .int .i64 c.chg, .int .i64 c.swp],
      .func (.func 27) #[] #[.pointer (some ⟨B + 1 + 1, 0, none⟩), .pointer (some ⟨B + 1, 0, none⟩), .pointer (some ⟨B + 1 + 2, 0, none⟩)], .int .i64 x.i, sl x.blk (b.size + 1), undef, undef, undef, undef], defers := [] }) ?assign ?body ?done ?stop
  case assign =>
    intro l x W K hK
    unfold Val.encs
    gi_wp2
    exact hK
  case body =>
    rintro l pre x W ⟨⟨o, ho, d, rfl, hd⟩, hbel⟩ hT
    have c1 := hT.row 0 (Nat.zero_le _)
    obtain ⟨b1, b2⟩ := box1 ho
    unfold sl
    have HO := Lib.hid ho; have HT := Lib.hid hT; have HBel := Lib.hid hbel
    obtain ⟨d2, hd2⟩ : ∃ d2, d2 = Dv c a b x.i 0 := ⟨_, rfl⟩
    rw [← hd2] at c1
    have HD2 := Lib.hid hd2
    clear hd ho hT hbel hd2
    gi_wp2
    refine ⟨keeps_set (by have := HQ.out; omega), kq_set (by omega), ⟨_, heap_setCell_same W B 0 _ _ _ HO.out, d2, rfl, fun p i hp hi => ?_⟩, HBel.out.setCell HWB.out _⟩
    have h1 := HT.out.idx
    rw [List.length_append, List.length_singleton] at hp
    obtain rfl : i = x.i := by omega
    exact HD2.out
  case done =>
    rintro D xs W hD hS ⟨⟨o, ho, d, rfl, hd⟩, hbel⟩ hK
    obtain ⟨b1, b2⟩ := box1 ho
    have hv : d = Ed.D c (tx a) (tx b) := hd a.size 0 hS (by omega)
    have HV := Lib.hid hv; have HBel := Lib.hid hbel
    clear hv hd ho hbel
    gi_wp2
    refine ⟨by simp, .inl ⟨_, _, rfl, run_takeDeferred hK, ?_⟩⟩
    exact ⟨_, results_tmp2 rfl _ _ _, (by show Ending.returned (.tuple #[.int .i64 d, .int .i64 0]) = _; rw [HV.out]), putObj_below (by have := HQ.out; have := HWB.out; omega) _ HBel.out⟩
  case stop =>
    rintro D cc pre W _ _ h _
    exact h.elim
theorem distance_any (c : Ed.Cst) (a b : ByteArray) (w : World) : Calls Try.prog 8 #[.string a, .string b, cstV c] w (PostD c a b w) :=
  if h : errOf c a b = 0 then distance_ok c a b w h else distance_err c a b w h
end Go.Proofs.Ythojojjdamchpaa
