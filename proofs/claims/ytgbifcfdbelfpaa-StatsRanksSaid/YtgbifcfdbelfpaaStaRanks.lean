/-
  The walk of the law StatsRanks.
-/
import Derived.Test.YtgbifcfdbelfpaaStaRank
import Derived.Test.YtgbifcfdbelfpaaStaLaw
import Derived.Laws.OwnMore
namespace Go.Proofs.Ytgbifcfdbelfpaa
open Go.RowKit Go.Sort
set_option linter.unusedVariables false

/-- a slice of the call's own, as a place and its numbers -/
theorem own_place {W : World} {base n : Nat} {v : Value} {xs : List Int} (h : W.ownsRow base 3 1 v n (xs.map (Value.int .i64))) (hn : 0 < n) :
    ∃ g c cur, v = .slice (some ⟨g, 0, none⟩) xs.length c ∧ xs.length = n ∧ base ≤ g ∧ g < W.heap.size ∧ W.heap[g]? = some (.cells cur 3 (0, 0)) ∧ n ≤ c ∧ c ≤ maxLen ∧ cur.size = c * 1 ∧ cur.toList.take (n * 1) = xs.map (Value.int .i64) ∧ ∀ j, j < xs.length → W.cell? ⟨g, 0 + j, none⟩ = some (.int .i64 (xs.getD j 0)) := by
  have hl := h.1
  simp at hl
  rcases h.2 with ⟨-, h0⟩ | ⟨g, c, cur, rfl, hg, hc, r1, r2, r3, r4⟩
  · omega
  · refine ⟨g, c, cur, by rw [hl], hl, hg, (Array.getElem?_eq_some_iff.1 hc).1, hc, r1, r2, r3, r4, fun j hj => ?_⟩
    rw [Nat.zero_add, h.cellAt j (by omega)]
    simp [List.getD, List.getElem?_eq_getElem hj]
/-- the row reversed -/
theorem reverse_own (g c : Nat) (cur : Array Value) (xs : List Int) (n base : Nat) (W : World) (h0 : xs.length = n) (hb : W.heap[g]? = some (.cells cur 3 (0, 0))) (hg : base ≤ g) (r1 : n ≤ c) (r2 : c ≤ maxLen) (r3 : cur.size = c * 1) (r4 : cur.toList.take (n * 1) = xs.map (Value.int .i64)) (hx : xs.length ≤ 9223372036854775807) :
    Calls Try.prog 40 #[.slice (some ⟨g, 0, none⟩) xs.length c] W fun e W' => e = .returned (.tuple #[]) ∧ (∀ j, j < xs.length → W'.cell? ⟨g, 0 + j, none⟩ = some (.int .i64 (xs.reverse.getD j 0))) ∧ g < W'.heap.size ∧ W.grownBy W' (some g) := by
  subst h0
  refine (Try.slices_Reverse_int g 0 c xs W (holds_of_blockI hb (by simpa using r4)) hx).mono ?_
  rintro e W' ⟨rfl, k, rfl⟩
  have hown := ownsRow_sortedI (n := k) (os := #[]) (ss := xs) (ts := xs.reverse) (by simp) hg hb r1 r2 r3
  have hgr := grownBy_sortedI (w := W) (g := g) (n := k) (os := #[]) xs.reverse.toArray
  rw [grow_empty] at hown hgr
  refine ⟨rfl, fun j hj => ?_, ?_, hgr⟩
  · rw [Nat.zero_add, hown.cellAt j (by omega)]
    have : j < xs.reverse.length := by simpa using hj
    generalize xs.reverse = zs at this ⊢
    simp [List.getD, List.getElem?_eq_getElem this]
  · have := hgr.size
    have := (Array.getElem?_eq_some_iff.1 hb).1
    omega
theorem ints_at {W : World} {b off : Nat} {xs : List Int} (hc : ∀ j, j < xs.length → W.cell? ⟨b, off + j, none⟩ = some (.int .i64 (xs.getD j 0))) : ∀ j u, (xs.map (Value.int .i64))[j]? = some u → W.cell? ((⟨b, off, none⟩ : Addr).add j) = some u := by
  intro j u hu
  have hj : j < xs.length := by
    have := (List.getElem?_eq_some_iff.1 hu).1
    simpa using this
  have ea : (⟨b, off, none⟩ : Addr).add j = ⟨b, off + j, none⟩ := by unfold Addr.add; split <;> simp [*]
  rw [ea, hc j hj]
  simpa [List.getD_eq_getElem?_getD, List.getElem?_eq_getElem hj] using hu

theorem quantile_back (g c : Nat) (ys : List Int) (p x : Int) (W : World) (hl : ys.length ≤ 10000) (h0 : 0 < ys.length) (p0 : 0 ≤ p) (p1 : p ≤ 10000) (hg : g < W.heap.size) (hc : ∀ j, j < ys.length → W.cell? ⟨g, 0 + j, none⟩ = some (.int .i64 (ys.reverse.getD j 0))) (hx : qnt ys.reverse p = x) :
    Calls Try.prog 37 #[.slice (some ⟨g, 0, none⟩) ys.length c, .int .i64 p] W (PostIntE x W) := by
  have h := quantile_ok g 0 c ys.reverse p W (by simpa using hl) (List.length_pos_iff.1 (by rw [List.length_reverse]; exact h0)) p0 p1 hg (fun j hj => hc j (by simpa using hj))
  rw [List.length_reverse, hx] at h
  exact h
theorem quantile_two (g c : Nat) (ys : List Int) (p x : Int) (W : World) (hl : ys.length ≤ 5000) (h0 : 0 < ys.length) (p0 : 0 ≤ p) (p1 : p ≤ 10000) (hg : g < W.heap.size) (hc : ∀ j, j < (ys ++ ys).length → W.cell? ⟨g, 0 + j, none⟩ = some (.int .i64 ((ys ++ ys).getD j 0))) (hx : qnt (ys ++ ys) p = x) :
    Calls Try.prog 37 #[.slice (some ⟨g, 0, none⟩) (ys.length + ys.length) c, .int .i64 p] W (PostIntE x W) := by
  have h := quantile_ok g 0 c (ys ++ ys) p W (by rw [List.length_append]; omega) (List.length_pos_iff.1 (by rw [List.length_append]; omega)) p0 p1 hg hc
  rw [List.length_append, hx] at h
  exact h

set_option maxRecDepth 100000 in
set_option maxHeartbeats 8000000 in
theorem ranks_some (b off len cap : Nat) (ys : List Int) (a1 a2 s1 s2 p q : Int) (w : World) (h0 : 0 < ys.length) (h5 : ys.length ≤ 5000) (hlc : ys.length ≤ cap) (hcap : cap ≤ 9223372036854775807) (hlen : len ≤ 9223372036854775807) (hb : b < w.heap.size)
    (hm : min (len : Int) 5000 = (ys.length : Int)) (hc : ∀ j, j < ys.length → w.cell? ⟨b, off + j, none⟩ = some (.int .i64 (ys.getD j 0)))
    (p0 : 0 ≤ p) (pq : p ≤ q) (q1 : q ≤ 10000) (e1 : min s1 s2 = p) (e2 : max s1 s2 = q)
    (SH : Hid (∀ W, Calls Try.prog 20 #[.int .i64 a1] W fun e W' => e = .returned (.int .i64 s1) ∧ W = W'))
    (SH2 : Hid (∀ W, Calls Try.prog 20 #[.int .i64 a2] W fun e W' => e = .returned (.int .i64 s2) ∧ W = W')) :
    Calls Try.prog 12 #[.slice (some ⟨b, off, none⟩) len cap, .int .i64 a1, .int .i64 a2] w fun e w' => e = .returned (.bool true) ∧ Below w.heap.size w w' := by
  have AW := Lib.hid (awake_any w)
  have hne : ys ≠ [] := List.length_pos_iff.1 h0
  have HC := Lib.hid (fun V (h : Below w.heap.size w V) j (hj : j < ys.length) => (bcell h b (off + j) hb).trans (hc j hj))
  have QP := Lib.hid (fun V (h : Below w.heap.size w V) => quantile_ok b off cap ys p V (by omega) hne p0 (by omega) (by have := h.size; omega) (HC.out V h))
  have QQ := Lib.hid (fun V (h : Below w.heap.size w V) => quantile_ok b off cap ys q V (by omega) hne (by omega) q1 (by have := h.size; omega) (HC.out V h))
  have g1 := qnt_good ys hne p0 (show p ≤ 10000 by omega)
  have hxy := qnt_mono hne p0 pq q1
  have hrev : qnt ys.reverse p = qnt ys p := qnt_perm (List.reverse_perm ys).symm hne p0 (by omega)
  have htw : qnt (ys ++ ys) p = qnt ys p := qnt_twice hne p0 (by omega)
  obtain ⟨x, hx⟩ : ∃ x, x = qnt ys p := ⟨_, rfl⟩
  obtain ⟨y, hy⟩ : ∃ y, y = qnt ys q := ⟨_, rfl⟩
  rw [← hx] at g1 hxy hrev htw
  rw [← hy] at hxy
  have QP2 := Lib.hid (fun V h => (show Calls Try.prog 37 #[.slice (some ⟨b, off, none⟩) ys.length cap, .int .i64 p] V (PostIntE x V) from by rw [hx]; exact QP.out V h))
  have QQ2 := Lib.hid (fun V h => (show Calls Try.prog 37 #[.slice (some ⟨b, off, none⟩) ys.length cap, .int .i64 q] V (PostIntE y V) from by rw [hy]; exact QQ.out V h))
  clear QP QQ hx hy
  have hcon : (ys.take ys.length).contains x = true := by rw [List.take_length]; simpa using g1.mem
  have CO := Lib.hid (fun V (h : Below w.heap.size w V) => (show Calls Try.prog 38 #[.slice (some ⟨b, off, none⟩) ys.length cap, .int .i64 x] V fun e V' => e = .returned (.bool true) ∧ V = V' from
    (Try.slices_Contains_int b off ys.length cap ys x V (Nat.le_refl _) (by omega) (HC.out V h)).mono fun e V' h => ⟨by rw [← hcon]; exact h.1, h.2.symm⟩))
  have m1 := g1.most
  have m2 := g1.less
  have m3 := cle_len ys x
  have m4 := clt_le ys x
  unfold Enough at m1
  have HG := Lib.hid g1
  have l0 : (0 : Int) < (ys.length : Int) := by omega
  have l1 : (ys.length : Int) ≤ 5000 := by omega
  have l2 : (ys.length : Int) ≤ (cap : Int) := by omega
  have f9 : ((ys.length : Int) == 0) = false := by rw [beq_eq_false_iff_ne]; omega
  have f9' : (ys.length == 0) = false := by rw [beq_eq_false_iff_ne]; omega
  have c1 : decide (y < x) = false := decide_eq_false (by omega)
  have t0 : 0 ≤ p * (ys.length : Int) := Int.mul_nonneg p0 (by omega)
  have t1 : p * (ys.length : Int) ≤ 10000 * 5000 := Int.mul_le_mul (by omega) l1 (by omega) (by omega)
  obtain ⟨t, ht⟩ : ∃ t, p * (ys.length : Int) = t := ⟨_, rfl⟩
  rw [ht] at m1 m2 t0 t1
  have M1 := Lib.hid m1; have M2 := Lib.hid m2; have M3 := Lib.hid m3; have M4 := Lib.hid m4
  have HRV := Lib.hid hrev; have HTW := Lib.hid htw; have HNE := Lib.hid hne
  have H0 := Lib.hid h0
  clear m1 m2 m3 m4 g1 hrev htw hne hc hcon h0
  go_enter Try.func12, Try.ntmps12
  go_wp2_with (first
    | (go_at_call 14; (with_reducible refine (AW.out).mono ?_); rintro e x1 ⟨rfl, hb1⟩; have B1 := Lib.hid hb1; clear hb1)
    | (go_at_call 20; (with_reducible refine (SH.out _).mono ?_); rintro e z1 ⟨rfl, rfl⟩)
    | (go_at_call 20; (with_reducible refine (SH2.out _).mono ?_); rintro e z1 ⟨rfl, rfl⟩)
    | (go_at_call 37; (with_reducible refine (QP2.out x1 B1.out).mono ?_); rintro e x2 ⟨rfl, hb1⟩; have B2 := Lib.hid (B1.out.trans (hb1.mono B1.out.size)); clear hb1)
    | (go_at_call 37; (with_reducible refine (QQ2.out x2 B2.out).mono ?_); rintro e x3 ⟨rfl, hb1⟩; have B3 := Lib.hid (B2.out.trans (hb1.mono B2.out.size)); clear hb1))
  go_loopw [13, 14, 66] (fun s13 s14 s66 wr => ∃ k : Nat, k ≤ ys.length ∧ s66 = .int .i64 k ∧ s13 = .int .i64 (clt (ys.take k) x) ∧ s14 = .int .i64 (cle (ys.take k) x) ∧ Hid (Below w.heap.size w wr)) (fun _ _ s66 _ => ys.length - (intOf s66).toNat)
  case atStart => exact ⟨0, by omega, rfl, by simp [clt], by simp [cle], B3⟩
  case round =>
    obtain ⟨k, hk, rfl, rfl, rfl, HB⟩ := hrel
    by_cases hlk : k < ys.length
    · have hs := cle_take ys x k hlk
      have hs2 := clt_take ys x k hlk
      have cK := HC.out wr HB.out k hlk
      have hcl := cle_len (ys.take k) x
      have hct := clt_le (ys.take k) x
      have hkl : (ys.take k).length ≤ k := List.length_take_le _ _
      have K0 : (0 : Int) ≤ (k : Int) := by omega
      have K1 : (k : Int) < (ys.length : Int) := by omega
      generalize cle (ys.take k) x = M at *
      generalize clt (ys.take k) x = T at *
      generalize ys.getD k 0 = u at *
      have HS := Lib.hid hs; have HS2 := Lib.hid hs2
      have N1 : (M : Int) ≤ 10000 := by omega
      have N0 : (0 : Int) ≤ (M : Int) := by omega
      have T1 : (T : Int) ≤ 10000 := by omega
      have T0 : (0 : Int) ≤ (T : Int) := by omega
      clear hs hs2 hkl hcl hct
      by_cases hu : u < x
      · have q1' : decide (u < x) = true := decide_eq_true hu
        have q2' : decide (u ≤ x) = true := decide_eq_true (by omega)
        go_wp2
        go_roundw
        case rel => exact ⟨k + 1, by omega, by go_num, by rw [HS2.out, if_pos (by omega)]; go_num, by rw [HS.out, if_pos (by omega)]; go_num, HB⟩
        case measure => simp [intOf]; omega
      · have q1' : decide (u < x) = false := decide_eq_false hu
        by_cases hu2 : u ≤ x
        · have q2' : decide (u ≤ x) = true := decide_eq_true hu2
          go_wp2
          go_roundw
          case rel => exact ⟨k + 1, by omega, by go_num, by rw [HS2.out, if_neg (by omega)]; rfl, by rw [HS.out, if_pos (by omega)]; go_num, HB⟩
          case measure => simp [intOf]; omega
        · have q2' : decide (u ≤ x) = false := decide_eq_false hu2
          go_wp2
          go_roundw
          case rel => exact ⟨k + 1, by omega, by go_num, by rw [HS2.out, if_neg (by omega)]; rfl, by rw [HS.out, if_neg (by omega)]; rfl, HB⟩
          case measure => simp [intOf]; omega
    · obtain rfl : k = ys.length := by omega
      have hc1 : cle (ys.take ys.length) x = cle ys x := by rw [List.take_length]
      have hc2 : clt (ys.take ys.length) x = clt ys x := by rw [List.take_length]
      rw [hc1, hc2]
      have n1 := M1.out; have n2 := M2.out; have n3 := M3.out; have n4 := M4.out
      generalize cle ys x = M at *
      generalize clt ys x = T at *
      have N1 : (M : Int) ≤ 10000 := by omega
      have N0 : (0 : Int) ≤ (M : Int) := by omega
      have T1 : (T : Int) ≤ 10000 := by omega
      have T0 : (0 : Int) ≤ (T : Int) := by omega
      have d1 : decide ((M : Int) * 10000 < t) = false := decide_eq_false (by omega)
      have cl := fun V (h : Below w.heap.size w V) => Try.slices_Clone_int b off ys.length cap ys V (Nat.le_refl _) (by omega) (HC.out V h)
      rw [List.take_length] at cl
      have CL := Lib.hid cl
      clear cl
      have h0 := H0.out
      obtain ⟨i0, hi, hz0, hz1, hz2⟩ := info_parts infoInt
      have cxx : (x == x) = true := by rw [beq_iff_eq]
      clear n1 n3 n4 M1 M2 M3 M4 hc1 hc2
      by_cases hT : T = 0
      · subst hT
        go_wp2_with (first
          | (go_at_call 38; (with_reducible refine (CO.out _ HB.out).mono ?_); rintro e z1 ⟨rfl, rfl⟩)
          | (go_at_call 39; (with_reducible refine (CL.out wr HB.out).mono ?_); rintro e x4 ⟨v, rfl, hown, -, hb1⟩; obtain ⟨g, c, cur, rfl, e0, e1, e2, e3, e4, e5, e6, e7, e8⟩ := own_place hown h0; have B4 := Lib.hid (HB.out.trans (hb1.mono HB.out.size)); have RV := Lib.hid (reverse_own g c cur ys ys.length wr.heap.size x4 rfl e3 e1 e4 e5 e6 e7 (by omega)); have HG1 := Lib.hid e1; clear hown hb1 e0 e1 e2 e3 e4 e5 e6 e7 e8)
          | (go_at_call 40; (with_reducible refine RV.out.mono ?_); rintro e x5 ⟨rfl, r1, r2, r3⟩; have B5 := Lib.hid (B4.out.grown r3 B4.out.size (fun k e => by cases e; exact Nat.le_trans HB.out.size HG1.out)); have QB := Lib.hid (quantile_back g c ys p x x5 (by omega) h0 p0 (by omega) r2 r1 HRV.out); clear r1 r2 r3)
          | (go_at_call 37; (with_reducible refine QB.out.mono ?_); rintro e x6 ⟨rfl, hb1⟩; have B6 := Lib.hid (B5.out.trans (hb1.mono B5.out.size)); clear hb1)
          | (go_at_call 39; (with_reducible refine (CL.out x6 B6.out).mono ?_); rintro e x7 ⟨v2, rfl, hown2, -, hb1⟩; have B7 := Lib.hid (B6.out.trans (hb1.mono B6.out.size)); have hbs := hb1.size; have hnew := ints_at (HC.out x7 B7.out); clear hb1)
          | (at_builtin; refine wpList_append_own _ rfl _ _ 24 rfl x6.heap.size 3 i0 (.int .i64 0) 1 8 Try.underlying24 hi hz0 hz1 hz2 rfl (by decide) v2 ys.length (ys.map (Value.int .i64)) rfl hown2 ⟨b, off, none⟩ ys.length cap (ys.map (Value.int .i64)) rfl (by simp) hnew (ints_oneCell _ _) (by unfold maxLen; omega) (by omega) hbs ?_; intro v3 x8 hown3 hgrow3 _; obtain ⟨g3, c3, cur3, rfl, f0, f1, f2, f3, f4, f5, f6, f7, f8⟩ := own_place (xs := ys ++ ys) (by rw [List.map_append]; exact hown3) (show 0 < ys.length + ys.length by omega); have B8 := Lib.hid (B7.out.grown hgrow3 B7.out.size (fun k hk => by have := (hown2.lt k hk).1; have := B6.out.size; omega)); have QT := Lib.hid (quantile_two g3 c3 ys p x x8 (by omega) h0 p0 (by omega) f2 f8 HTW.out); have f0' := f0; rw [f0]; clear hown3 hgrow3 f0 f1 f2 f3 f4 f5 f6 f7 f8 hown2 hnew hbs)
          | (go_at_call 37; (with_reducible refine QT.out.mono ?_); rintro e x9 ⟨rfl, hb1⟩; have B9 := Lib.hid (B8.out.trans (hb1.mono B8.out.size)); clear hb1))
        go_ret
        exact ⟨rfl, B9.out⟩
      · have T2 : (0 : Int) < (T : Int) := by omega
        have d2 : decide ((0 : Int) < (T : Int)) = true := decide_eq_true T2
        have d2' : decide (0 < T) = true := decide_eq_true (by omega)
        have d3 : decide (t ≤ (T : Int) * 10000) = false := decide_eq_false (by omega)
        go_wp2_with (first
          | (go_at_call 38; (with_reducible refine (CO.out _ HB.out).mono ?_); rintro e z1 ⟨rfl, rfl⟩)
          | (go_at_call 39; (with_reducible refine (CL.out wr HB.out).mono ?_); rintro e x4 ⟨v, rfl, hown, -, hb1⟩; obtain ⟨g, c, cur, rfl, e0, e1, e2, e3, e4, e5, e6, e7, e8⟩ := own_place hown h0; have B4 := Lib.hid (HB.out.trans (hb1.mono HB.out.size)); have RV := Lib.hid (reverse_own g c cur ys ys.length wr.heap.size x4 rfl e3 e1 e4 e5 e6 e7 (by omega)); have HG1 := Lib.hid e1; clear hown hb1 e0 e1 e2 e3 e4 e5 e6 e7 e8)
          | (go_at_call 40; (with_reducible refine RV.out.mono ?_); rintro e x5 ⟨rfl, r1, r2, r3⟩; have B5 := Lib.hid (B4.out.grown r3 B4.out.size (fun k e => by cases e; exact Nat.le_trans HB.out.size HG1.out)); have QB := Lib.hid (quantile_back g c ys p x x5 (by omega) h0 p0 (by omega) r2 r1 HRV.out); clear r1 r2 r3)
          | (go_at_call 37; (with_reducible refine QB.out.mono ?_); rintro e x6 ⟨rfl, hb1⟩; have B6 := Lib.hid (B5.out.trans (hb1.mono B5.out.size)); clear hb1)
          | (go_at_call 39; (with_reducible refine (CL.out x6 B6.out).mono ?_); rintro e x7 ⟨v2, rfl, hown2, -, hb1⟩; have B7 := Lib.hid (B6.out.trans (hb1.mono B6.out.size)); have hbs := hb1.size; have hnew := ints_at (HC.out x7 B7.out); clear hb1)
          | (at_builtin; refine wpList_append_own _ rfl _ _ 24 rfl x6.heap.size 3 i0 (.int .i64 0) 1 8 Try.underlying24 hi hz0 hz1 hz2 rfl (by decide) v2 ys.length (ys.map (Value.int .i64)) rfl hown2 ⟨b, off, none⟩ ys.length cap (ys.map (Value.int .i64)) rfl (by simp) hnew (ints_oneCell _ _) (by unfold maxLen; omega) (by omega) hbs ?_; intro v3 x8 hown3 hgrow3 _; obtain ⟨g3, c3, cur3, rfl, f0, f1, f2, f3, f4, f5, f6, f7, f8⟩ := own_place (xs := ys ++ ys) (by rw [List.map_append]; exact hown3) (show 0 < ys.length + ys.length by omega); have B8 := Lib.hid (B7.out.grown hgrow3 B7.out.size (fun k hk => by have := (hown2.lt k hk).1; have := B6.out.size; omega)); have QT := Lib.hid (quantile_two g3 c3 ys p x x8 (by omega) h0 p0 (by omega) f2 f8 HTW.out); have f0' := f0; rw [f0]; clear hown3 hgrow3 f0 f1 f2 f3 f4 f5 f6 f7 f8 hown2 hnew hbs)
          | (go_at_call 37; (with_reducible refine QT.out.mono ?_); rintro e x9 ⟨rfl, hb1⟩; have B9 := Lib.hid (B8.out.trans (hb1.mono B8.out.size)); clear hb1))
        go_ret
        exact ⟨rfl, B9.out⟩

set_option maxRecDepth 100000 in
set_option maxHeartbeats 4000000 in
theorem ranks_none (A : Option Addr) (cap : Nat) (a1 a2 s1 s2 p q : Int) (w : World) (hcap : cap ≤ 9223372036854775807) (hA : A = none → cap = 0)
    (p0 : 0 ≤ p) (pq : p ≤ q) (q1 : q ≤ 10000) (e1 : min s1 s2 = p) (e2 : max s1 s2 = q)
    (SH : Hid (∀ W, Calls Try.prog 20 #[.int .i64 a1] W fun e W' => e = .returned (.int .i64 s1) ∧ W = W'))
    (SH2 : Hid (∀ W, Calls Try.prog 20 #[.int .i64 a2] W fun e W' => e = .returned (.int .i64 s2) ∧ W = W')) :
    Calls Try.prog 12 #[.slice A 0 cap, .int .i64 a1, .int .i64 a2] w fun e w' => e = .returned (.bool true) ∧ Below w.heap.size w w' := by
  have AW := Lib.hid (awake_any w)
  have hm : min (0 : Int) 5000 = 0 := by decide
  have QP := Lib.hid (fun V => quantile_none A cap p V (shareB_yes p0 (by omega)))
  have QQ := Lib.hid (fun V => quantile_none A cap q V (shareB_yes (by omega) q1))
  have l2 : (0 : Int) ≤ (cap : Int) := by omega
  cases A with
  | none =>
    obtain rfl : cap = 0 := hA rfl
    go_enter Try.func12, Try.ntmps12
    go_wp2_with (first
      | (go_at_call 14; (with_reducible refine (AW.out).mono ?_); rintro e x1 ⟨rfl, hb1⟩; have B1 := Lib.hid hb1; clear hb1)
      | (go_at_call 20; (with_reducible refine (SH.out _).mono ?_); rintro e z1 ⟨rfl, rfl⟩)
      | (go_at_call 20; (with_reducible refine (SH2.out _).mono ?_); rintro e z1 ⟨rfl, rfl⟩)
      | (go_at_call 37; (with_reducible refine (QP.out x1).mono ?_); rintro e x2 ⟨rfl, hb1⟩; have B2 := Lib.hid (B1.out.trans (hb1.mono B1.out.size)); clear hb1)
      | (go_at_call 37; (with_reducible refine (QQ.out x2).mono ?_); rintro e x3 ⟨rfl, hb1⟩; have B3 := Lib.hid (B2.out.trans (hb1.mono B2.out.size)); clear hb1))
    go_ret
    exact ⟨rfl, B3.out⟩
  | some a =>
    clear hA
    go_enter Try.func12, Try.ntmps12
    go_wp2_with (first
      | (go_at_call 14; (with_reducible refine (AW.out).mono ?_); rintro e x1 ⟨rfl, hb1⟩; have B1 := Lib.hid hb1; clear hb1)
      | (go_at_call 20; (with_reducible refine (SH.out _).mono ?_); rintro e z1 ⟨rfl, rfl⟩)
      | (go_at_call 20; (with_reducible refine (SH2.out _).mono ?_); rintro e z1 ⟨rfl, rfl⟩)
      | (go_at_call 37; (with_reducible refine (QP.out x1).mono ?_); rintro e x2 ⟨rfl, hb1⟩; have B2 := Lib.hid (B1.out.trans (hb1.mono B1.out.size)); clear hb1)
      | (go_at_call 37; (with_reducible refine (QQ.out x2).mono ?_); rintro e x3 ⟨rfl, hb1⟩; have B3 := Lib.hid (B2.out.trans (hb1.mono B2.out.size)); clear hb1))
    go_ret
    exact ⟨rfl, B3.out⟩

theorem walk_statsRanks (w : World) (A0 : Option Addr) (len0 cap0 : Nat) (z0 : List Int) (w0 : IsRow .i64 w A0 len0 cap0 z0) (a1 : Int) (w1 : (Lit.int .i64 a1).wf = true) (a2 : Int) (w2 : (Lit.int .i64 a2).wf = true) :
    Calls Try.prog 12 #[.slice A0 len0 cap0, .int .i64 a1, .int .i64 a2] w fun e w' => e = .returned (.bool true) ∧ Below w.heap.size w w' := by
  obtain ⟨hl, hr⟩ := row_rd w0
  have hA := row_none w0
  have hlc : len0 ≤ cap0 ∧ cap0 ≤ 9223372036854775807 := by
    rcases w0 with ⟨rfl, rfl, rfl, rfl⟩ | ⟨x, rfl, h1, h2, hz, hc, hw⟩
    · omega
    · unfold maxLen at h2; omega
  have SH := Lib.hid (fun W => share_any a1 W)
  have SH2 := Lib.hid (fun W => share_any a2 W)
  rcases Nat.eq_zero_or_pos len0 with h0 | h0
  · subst h0
    exact ranks_none A0 cap0 a1 a2 _ _ _ _ w hlc.2 (fun e => (hA e).2) (by omega) (by omega) (by omega) rfl rfl SH SH2
  · obtain ⟨b, off, rfl, hb, hc⟩ := hr (by omega)
    have hm : ((z0.take len0).take (min len0 5000)).length = min len0 5000 := by rw [List.length_take, hl]; omega
    refine ranks_some b off len0 cap0 ((z0.take len0).take (min len0 5000)) a1 a2 _ _ _ _ w (by omega) (by omega) (by omega) hlc.2 (by omega) hb (by rw [hm]; omega) (fun j hj => ?_) (by omega) (by omega) (by omega) rfl rfl SH SH2
    rw [hm] at hj
    rw [hc j (by omega), List.getD_eq_getElem?_getD, List.getD_eq_getElem?_getD, List.getElem?_take (l := z0.take len0), if_pos (by omega)]
end Go.Proofs.Ytgbifcfdbelfpaa
