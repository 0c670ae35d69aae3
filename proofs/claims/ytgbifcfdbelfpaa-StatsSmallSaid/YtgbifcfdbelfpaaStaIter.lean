/-
  The walks of slices.Values, AppendSeq, Collect and Sorted at ints, and of stats.Quantile.
-/
import Derived.Test.YtgbifcfdbelfpaaStaBounds
import Derived.Sort.OwnSortedInts
import Derived.Maps.AppendAt
namespace Go.Proofs.Ytgbifcfdbelfpaa
open Go.RowKit Go.Shelf Go.Sort
set_option linter.unusedVariables false
attribute [local go_sem] Oper.semAt_some

/-- what slices.Values tells -/
def Tz (zs : List Int) (pre : List Int) (x : Int) (_ : World) : Prop := pre.length < zs.length ∧ pre = zs.take pre.length ∧ x = zs.getD pre.length 0

theorem values_any (A : Option Addr) (len cap : Nat) (w : World) :
    Calls Try.prog 69 #[.slice A len cap] w fun e w' => e = .returned (.func (.func 89) #[] #[.pointer (some ⟨w.heap.size, 0, none⟩)]) ∧ w' = w.alloc (.cells #[.slice A len cap] 24) := by
  go_enter Try.func69, Try.ntmps69
  go_wp2
  go_ret
  exact ⟨rfl, rfl⟩

set_option maxRecDepth 100000 in
set_option maxHeartbeats 2000000 in
theorem values_told (B n₀ b off cap : Nat) (zs : List Int) (hz : zs.length ≤ 1000000) (w0 : World) (hB : B < n₀) (hb : b < n₀) (hn : n₀ ≤ w0.heap.size)
    (h1 : w0.cell? ⟨B, 0, none⟩ = some (.slice (some ⟨b, off, none⟩) zs.length cap)) (h2 : ∀ j, j < zs.length → w0.cell? ⟨b, off + j, none⟩ = some (.int .i64 (zs.getD j 0))) :
    Told Try.prog 89 #[.pointer (some ⟨B, 0, none⟩)] (fun x : Int => #[.int .i64 x]) (Tz zs) (Below n₀) (fun xs => xs = zs) (fun _ => True) w0 := by
  intro l J Jx W hW hJ hJx hY h0
  have c1 := (hW.cell (p := ⟨B, 0, none⟩) (by show B < _; omega)).trans h1
  have C2 := Lib.hid (fun j (hj : j < zs.length) => (hW.cell (p := ⟨b, off + j, none⟩) (by show b < _; omega)).trans (h2 j hj))
  have HY := Lib.hid hY; have H0 := Lib.hid h0
  have hsz : n₀ ≤ W.heap.size := by have := hW.size; omega
  clear hY hJ hJx h0 hW h1 h2
  refine (callsIn_wide (n := 5)).1 ?_
  refine callsIn_of_wp Try.func89 rfl trivial ?_ rfl
  simp only [Try.ntmps89, List.size_toArray, List.length_cons, List.length_nil, Nat.reduceAdd, Nat.reduceSub, Array.replicate_succ, Array.replicate_zero, List.push_toArray, List.append_toArray, List.nil_append, List.cons_append]
  gi_wp2
  gi_loopw [7] (fun i wr => ∃ k : Nat, k ≤ zs.length ∧ i = .int .i64 k ∧ Hid (J (zs.take k) wr) ∧ Hid (Below n₀ W wr)) (fun i _ => zs.length - (intOf i).toNat)
  case atStart => exact ⟨0, Nat.zero_le _, rfl, H0, Lib.hid (Below.refl _ _)⟩
  case round =>
    obtain ⟨k, hk, rfl, hJs, hnx⟩ := hrel
    by_cases hlt : k < zs.length
    · have hcx := (hnx.out.cell (p := ⟨b, off + k, none⟩) (by show b < n₀; omega)).trans (C2.out k hlt)
      have hlen : (zs.take k).length = k := by rw [List.length_take]; omega
      obtain ⟨fn, tmps, assign, body, hy, hR⟩ := HY.out (zs.take k) (zs.getD k 0) wr hJs.out ⟨by omega, by rw [hlen], by rw [hlen]⟩
      have hsn : zs.take k ++ [zs.getD k 0] = zs.take (k + 1) := by
        rw [List.getD_eq_getElem?_getD, List.getElem?_eq_getElem hlt, Option.getD_some, List.take_succ_eq_append_getElem hlt]
      rw [hsn] at hR
      generalize zs.getD k 0 = z at *
      have HR := Lib.hid hR
      clear hlen hsn hR
      gi_wp2
      refine (roundIn_any HR.out).mono ?_
      rintro e W3 (⟨rfl, hJ3, hk3⟩ | ⟨rfl, hJx3⟩)
      · have HJ3 := Lib.hid hJ3; have HK3 := Lib.hid hk3
        clear hJ3 hk3
        gi_wp2
        go_roundw
        case rel => exact ⟨k + 1, by omega, by go_num, HJ3, Lib.hid (hnx.out.trans HK3.out)⟩
        case measure => simp [intOf]; omega
      · gi_wp2
        refine bodyPost_ret (results_none rfl _ _ _) rfl ?_
        exact ⟨⟨_, rfl⟩, .inr ⟨_, trivial, hJx3⟩⟩
    · obtain rfl : k = zs.length := by omega
      gi_wp2
      go_end0
      exact ⟨⟨_, rfl⟩, .inl ⟨_, List.take_length, hJs.out⟩⟩

theorem infoInt1 : (Try.prog.info? 3).map (fun i => (i.zero, i.size, i.bytes)) = some (some (.int .i64 0), 1, 8) := by kernel_rfl

/-- a slice of the call's own that holds zs -/
def PostRow (zs : List Int) (n₀ : Nat) (w : World) (e : Ending) (w' : World) : Prop :=
  ∃ v, e = .returned v ∧ w'.ownsRow n₀ 3 1 v zs.length (zs.map (Value.int .i64)) ∧ Below n₀ w w'

set_option maxRecDepth 100000 in
set_option maxHeartbeats 2000000 in
theorem appendSeq_any (B b off cap : Nat) (zs : List Int) (hz : zs.length ≤ 1000000) (w : World) (hB : B < w.heap.size) (hb : b < w.heap.size)
    (h1 : w.cell? ⟨B, 0, none⟩ = some (.slice (some ⟨b, off, none⟩) zs.length cap)) (h2 : ∀ j, j < zs.length → w.cell? ⟨b, off + j, none⟩ = some (.int .i64 (zs.getD j 0))) :
    Calls Try.prog 94 #[.slice none 0 0, .func (.func 89) #[] #[.pointer (some ⟨B, 0, none⟩)]] w (PostRow zs w.heap.size w) := by
  obtain ⟨i0, hi, hz0, hz1, hz2⟩ := info_parts infoInt1
  refine (callsIn_wide (n := 6)).1 ?_
  refine callsIn_of_wp_marks Try.func94 rfl trivial ?_ rfl
  simp only [Try.ntmps94, List.size_toArray, List.length_cons, List.length_nil, Nat.reduceAdd, Nat.reduceSub, Array.replicate_succ, Array.replicate_zero, List.push_toArray, List.append_toArray, List.nil_append, List.cons_append]
  gi_wp2
  have bO := Boxed.new w 24 (.slice none 0 0)
  have hB0 : Below w.heap.size w (w.alloc (.cells #[.slice none 0 0] 24)) := (Below.refl _ w).alloc (Nat.le_refl _) _
  have k1 := (bcell hB0 B 0 hB).trans h1
  have k2 := fun j hj => (bcell hB0 b (off + j) hb).trans (h2 j hj)
  have Hi := Lib.hid hi; have H0 := Lib.hid hz0; have HZ1 := Lib.hid hz1; have HZ2 := Lib.hid hz2
  clear h1 h2 hi hz0 hz1 hz2
  refine wp_told (gf := 89) (lb := #[.pointer (some ⟨B, 0, none⟩)]) rfl (enters_of Try.func89 (by kernel_rfl) rfl)
    (values_told B w.heap.size b off cap zs hz _ hB hb (by simp) k1 k2) (Below.refl _ _) belowK_t (fun W k o o' hk h hc => (Below.refl w.heap.size W).grown (grownBy_putObj' W k o') (by have := (Array.getElem?_eq_some_iff.1 h).1; simp at hk; omega) (fun r e => by cases e; simp at hk; omega))
    (fun pre x W k o o' h _ _ => h) (fun _ => rfl)
    (fun pre W => (∃ v, Boxed W w.heap.size 24 v ∧ W.ownsRow w.heap.size 3 1 v pre.length (pre.map (Value.int .i64)) ∧ True) ∧ Below w.heap.size w W)
    (fun _ _ _ => False)
    (OwnFrom.and (Own.from (holdsRow_own w.heap.size w.heap.size 24 3 1 (fun pre : List Int => pre.length) (fun pre : List Int => pre.map (Value.int .i64)) (fun pre v => True)) _) (ownFrom_below (Nat.le_refl _) (by simp)))
    (fun _ _ _ _ _ hs _ _ => hs)
    ⟨⟨_, bO, World.ownsRow_nil _ _ _ _, trivial⟩, hB0⟩
    (fun x => { tmps := #[.slice none 0 0, .func (.func 89) #[] #[.pointer (some ⟨B, 0, none⟩)], .pointer (some ⟨w.heap.size, 0, none⟩), undef, .slice none 0 0, .int .i64 x, .func (.func 89) #[] #[.pointer (some ⟨B, 0, none⟩)], .int .i64 x, undef, undef, undef, undef, undef], defers := [] }) ?assign ?body ?done ?stop
  case assign =>
    intro l x W K hK
    gi_wp2
    exact hK
  case body =>
    rintro l pre x W ⟨⟨v, hv, hrow, -⟩, hB⟩ ⟨hlt, -, -⟩
    have hc := hv.cell
    have hi := Hi.out; have hz0 := H0.out; have hz1 := HZ1.out; have hz2 := HZ2.out
    gi_wp2_with (gi_at_builtin; refine wpListIn_append_own _ rfl _ _ 24 rfl w.heap.size 3 i0 (.int .i64 0) 1 8 Try.underlying24 hi hz0 hz1 hz2 rfl (by decide) _ _ _ rfl (hrow.alloc _) ⟨W.heap.size, 0, none⟩ 1 1 [.int .i64 x] rfl rfl (cell_one_new _ _ _) (by simp [Value.oneCell']) (by unfold maxLen; omega) (by omega) (by have := hB.size; simp; omega) ?_; intro v' w1 hown' hgrow _; obtain ⟨g', cap', rfl⟩ := ownsRow_succ hown'; obtain ⟨hv1, hv2, hr2, hk2, hb2⟩ := hv.appended (by decide) hrow hB.size (Nat.le_refl _) hown' hgrow; have hc1 := hv1.cell; have hf1 := hv1.frozen)
    exact ⟨hk2.from _, hb2, ⟨_, hv2, by simpa using hr2, trivial⟩, hB.trans hb2⟩
  case done =>
    rintro D ys W hD rfl ⟨⟨v, hv, hrow, -⟩, hB⟩ hK
    have hc := hv.cell
    gi_wp2
    refine ⟨by simp, .inl ⟨_, _, rfl, run_takeDeferred hK, ?_⟩⟩
    exact ⟨_, results_tmp rfl _ _ _, v, rfl, ownsRow_putObj hrow _ hK rfl, hB.trans (belowK_b (w := w) (Nat.le_refl _) W D _ _ (by simp at hD; omega) hK rfl rfl)⟩
  case stop =>
    rintro D c pre W _ _ h _
    exact h.elim
theorem collect_any (B b off cap : Nat) (zs : List Int) (hz : zs.length ≤ 1000000) (w : World) (hB : B < w.heap.size) (hb : b < w.heap.size)
    (h1 : w.cell? ⟨B, 0, none⟩ = some (.slice (some ⟨b, off, none⟩) zs.length cap)) (h2 : ∀ j, j < zs.length → w.cell? ⟨b, off + j, none⟩ = some (.int .i64 (zs.getD j 0))) :
    Calls Try.prog 87 #[.func (.func 89) #[] #[.pointer (some ⟨B, 0, none⟩)]] w (PostRow zs w.heap.size w) := by
  have C := Lib.hid (appendSeq_any B b off cap zs hz w hB hb h1 h2)
  clear h1 h2
  go_enter Try.func87, Try.ntmps87
  go_wp2_with (go_at_call 94; (with_reducible refine C.out.mono ?_); rintro e w1 ⟨v, rfl, h, hb⟩; have H := Lib.hid h; have HB := Lib.hid hb; clear h hb)
  go_ret
  exact ⟨v, rfl, H.out, HB.out⟩

/-- the numbers in order -/
def srt (zs : List Int) : List Int := zs.mergeSort fun x y => decide (x ≤ y)
theorem srt_length (zs : List Int) : (srt zs).length = zs.length := List.length_mergeSort zs

set_option maxHeartbeats 1000000 in
theorem sorted_any (B b off cap : Nat) (zs : List Int) (hz : zs.length ≤ 1000000) (h0 : zs ≠ []) (w : World) (hB : B < w.heap.size) (hb : b < w.heap.size)
    (h1 : w.cell? ⟨B, 0, none⟩ = some (.slice (some ⟨b, off, none⟩) zs.length cap)) (h2 : ∀ j, j < zs.length → w.cell? ⟨b, off + j, none⟩ = some (.int .i64 (zs.getD j 0))) :
    Calls Try.prog 68 #[.func (.func 89) #[] #[.pointer (some ⟨B, 0, none⟩)]] w fun e w' =>
      ∃ g c, e = .returned (.slice (some ⟨g, 0, none⟩) zs.length c) ∧ (∀ j, j < zs.length → w'.cell? ⟨g, 0 + j, none⟩ = some (.int .i64 ((srt zs).getD j 0))) ∧ Below w.heap.size w w' := by
  have C := Lib.hid (collect_any B b off cap zs hz w hB hb h1 h2)
  clear h1 h2
  have hl : 0 < zs.length := List.length_pos_iff.2 h0
  go_enter Try.func68, Try.ntmps68
  go_wp2_with (go_at_call 87; (with_reducible refine C.out.mono ?_); rintro e w1 ⟨v, rfl, h, hb⟩; have H := Lib.hid h; have HB := Lib.hid hb; clear h hb)
  rcases H.out.2 with ⟨-, hn⟩ | ⟨g, c, cur, rfl, hg, hc, r1, r2, r3, r4⟩
  · omega
  have hH := holds_of_blockI hc (by simpa using r4)
  have hgl := (Array.getElem?_eq_some_iff.1 hc).1
  have S := Lib.hid (Try.slices_Sort_int g 0 c zs w1 hH hgl (by omega))
  have hown := fun nn os => ownsRow_sortedI (n := nn) (os := os) (ss := zs) (ts := srt zs) (srt_length zs) hg hc r1 r2 r3
  have hgr := fun nn os => grownBy_sortedI (w := w1) (g := g) (n := nn) (os := os) (srt zs).toArray
  have HO := Lib.hid hown; have HG := Lib.hid hgr; have R1 := Lib.hid r1; have R2 := Lib.hid r2; have Hg := Lib.hid hg
  clear hH hgl hown hgr H hc r1 r2 r3 r4 hg
  go_wp2_with (go_at_call 88; (with_reducible refine S.out.mono ?_); rintro e w' ⟨rfl, nn, os, hw⟩; have HW := Lib.hid hw; clear hw)
  go_ret
  have hw : w' = grow (putRow (Value.int .i64) (Sort.ahead w1 nn) g 0 (srt zs).toArray) os := HW.out
  refine ⟨g, c, rfl, fun j hj => ?_, ?_⟩
  · rw [hw, Nat.zero_add, (HO.out nn os).cellAt j (by omega)]
    have : j < (srt zs).length := by rw [srt_length]; exact hj
    simp [List.getD, List.getElem?_eq_getElem this]
  · rw [hw]
    exact HB.out.grown (HG.out nn os) HB.out.size (fun k e => by cases e; exact Hg.out)

/-- the place of a quantile -/
def qpl (len : Nat) (q : Int) : Nat := (max (q * len - 1) 0 / 10000).toNat
/-- the quantile -/
def qnt (zs : List Int) (q : Int) : Int := (srt zs).getD (qpl zs.length q) 0
theorem qpl_lt {len : Nat} {q : Int} (h : 0 < len) (h0 : 0 ≤ q) (h1 : q ≤ 10000) : qpl len q < len := by
  unfold qpl
  have : q * (len : Int) ≤ 10000 * len := Int.mul_le_mul_of_nonneg_right h1 (by omega)
  have : 0 ≤ q * (len : Int) := Int.mul_nonneg h0 (by omega)
  omega

theorem quantile_many (A : Option Addr) (cap len : Nat) (q : Int) (w : World) (h : 10000 < len) (hl : len ≤ 9223372036854775807) : Calls Try.prog 37 #[.slice A len cap, .int .i64 q] w (PostIntErr 5 w) := by
  have i0 : (10000 : Int) < (len : Int) := by omega
  have f1 : decide ((10000 : Int) < (len : Int)) = true := by simpa using i0
  go_enter Try.func37, Try.ntmps37
  go_wp2
  go_ret2
  exact ⟨rfl, Below.refl _ _⟩
theorem quantile_arg (A : Option Addr) (cap len : Nat) (q : Int) (w : World) (h : len ≤ 10000) (hq : shareB q = false) : Calls Try.prog 37 #[.slice A len cap, .int .i64 q] w (PostIntErr 2 w) := by
  have i0 : (len : Int) ≤ (10000 : Int) := by omega
  have s0 := isShare_any q w
  rw [hq] at s0
  have S0 := Lib.hid s0
  clear s0 hq
  go_enter Try.func37, Try.ntmps37
  go_wp2_with (go_at_call 51; (with_reducible refine S0.out.mono ?_); rintro e w1 ⟨rfl, rfl⟩)
  go_ret2
  exact ⟨rfl, Below.refl _ _⟩
theorem quantile_none (A : Option Addr) (cap : Nat) (q : Int) (w : World) (hq : shareB q = true) : Calls Try.prog 37 #[.slice A 0 cap, .int .i64 q] w (PostIntErr 6 w) := by
  have s0 := isShare_any q w
  rw [hq] at s0
  have S0 := Lib.hid s0
  clear s0 hq
  go_enter Try.func37, Try.ntmps37
  go_wp2_with (go_at_call 51; (with_reducible refine S0.out.mono ?_); rintro e w1 ⟨rfl, rfl⟩)
  go_ret2
  exact ⟨rfl, Below.refl _ _⟩

set_option maxHeartbeats 1000000 in
theorem quantile_ok (b off cap : Nat) (zs : List Int) (q : Int) (w : World) (hz : zs.length ≤ 10000) (h0 : zs ≠ []) (hq0 : 0 ≤ q) (hq1 : q ≤ 10000) (hb : b < w.heap.size)
    (h2 : ∀ j, j < zs.length → w.cell? ⟨b, off + j, none⟩ = some (.int .i64 (zs.getD j 0))) :
    Calls Try.prog 37 #[.slice (some ⟨b, off, none⟩) zs.length cap, .int .i64 q] w (PostIntE (qnt zs q) w) := by
  have hl : 0 < zs.length := List.length_pos_iff.2 h0
  have i0 : (zs.length : Int) ≤ (10000 : Int) := by omega
  have i1 : (0 : Int) < (zs.length : Int) := by omega
  have f1 : ((zs.length : Int) == 0) = false := by rw [beq_eq_false_iff_ne]; omega
  have s0 := isShare_any q w
  rw [shareB_yes hq0 hq1] at s0
  have S0 := Lib.hid s0
  have V0 := Lib.hid (values_any (some ⟨b, off, none⟩) zs.length cap w)
  have hB0 : Below w.heap.size w (w.alloc (.cells #[.slice (some ⟨b, off, none⟩) zs.length cap] 24)) := (Below.refl _ w).alloc (Nat.le_refl _) _
  have T0 := Lib.hid (sorted_any w.heap.size b off cap zs (by omega) h0 (w.alloc (.cells #[.slice (some ⟨b, off, none⟩) zs.length cap] 24)) (by simp) (by simp; omega) (by go_simp) (fun j hj => (bcell hB0 b (off + j) hb).trans (h2 j hj)))
  have hp := qpl_lt hl hq0 hq1
  have hP : (qpl zs.length q : Int) = max (q * zs.length - 1) 0 / 10000 := by unfold qpl; omega
  have m0 : q * (zs.length : Int) ≤ 10000 * 10000 := Int.mul_le_mul hq1 i0 (by omega) (by omega)
  have m1 : 0 ≤ q * (zs.length : Int) := Int.mul_nonneg hq0 (by omega)
  obtain ⟨P, hPP⟩ : ∃ P, P = qpl zs.length q := ⟨_, rfl⟩
  have hr : qnt zs q = (srt zs).getD P 0 := by rw [hPP]; rfl
  rw [← hPP] at hp hP
  obtain ⟨t, ht⟩ : ∃ t, q * (zs.length : Int) = t := ⟨_, rfl⟩
  rw [ht] at hP m0 m1
  have hP2 := hP.symm; have p0 : (0 : Int) ≤ (P : Int) := by omega
  have p1 : (P : Int) < (zs.length : Int) := by omega
  have HR := Lib.hid hr
  have HB0 := Lib.hid hB0
  clear s0 h2 hP hr hPP hB0
  go_enter Try.func37, Try.ntmps37
  go_wp2_with (first
    | (go_at_call 51; (with_reducible refine S0.out.mono ?_); rintro e w1 ⟨rfl, rfl⟩)
    | (go_at_call 69; (with_reducible refine V0.out.mono ?_); rintro e w1 ⟨rfl, rfl⟩)
    | (go_at_call 68; (with_reducible refine T0.out.mono ?_); rintro e w2 ⟨g, c, rfl, h1, hb2⟩; have h3 := h1 P hp; rw [Nat.zero_add] at h3; have B2 := Lib.hid (HB0.out.trans (hb2.mono HB0.out.size)); clear h1 hb2))
  go_ret2
  exact ⟨ret_two HR.out.symm rfl, B2.out⟩
end Go.Proofs.Ytgbifcfdbelfpaa
