/-
  The walk of stats.lower.
-/
import Derived.Test.YtgbifcfdbelfpaaStaWalk2
namespace Go.Proofs.Ytgbifcfdbelfpaa
open Go.RowKit Go.Shelf
set_option linter.unusedVariables false
attribute [local go_sem] Oper.semAt_some

set_option maxRecDepth 100000 in
set_option maxHeartbeats 2000000 in
theorem lower_any (n k : Nat) (p : Int) (w : World) (hp : 0 ≤ p) (hp1 : p ≤ 10000) (hn : n ≤ 500) (hk : k ≤ n) :
    Calls Try.prog 58 #[.int .i64 n, .int .i64 k, .int .i64 p] w (PostNum (Sb.ls n p (10000 - p) (k + 1)) w) := by
  obtain ⟨q, hq⟩ : ∃ q, q = 10000 - p := ⟨_, rfl⟩
  have hq0 : 0 ≤ q := by omega
  have m1 : IntKind.i64.wrap (10000 - p) = q := by rw [hq]; exact IntWalk.i64_in _ (by omega)
  rw [← hq]
  refine (callsIn_wide (n := 6)).1 ?_
  refine callsIn_of_wp_marks Try.func58 rfl trivial ?_ rfl
  simp only [Try.ntmps58, List.size_toArray, List.length_cons, List.length_nil, Nat.reduceAdd, Nat.reduceSub, Array.replicate_succ, Array.replicate_zero, List.push_toArray, List.append_toArray, List.nil_append, List.cons_append]
  have hpq : p + q ≤ 10000 := by omega
  have CH := Lib.hid (fun V => chances_any n p q V)
  have CH2 := Lib.hid (fun V => chances_any n p (10000 - p) V)
  have HQ := Lib.hid hq
  clear hq
  gi_wp2_with (refine ⟨trivial, ?_⟩; gi_at_call 77; (first | (with_reducible refine (callsIn_wide.2 (CH.out _)).mono ?_) | (with_reducible refine (callsIn_wide.2 (CH2.out _)).mono ?_)); rintro e w1 ⟨rfl, rfl⟩)
  clear CH CH2
  obtain ⟨W0, hW0⟩ : ∃ W0, W0 = ((((w.alloc (.cells #[.int .i64 k] 3)).alloc (.cells #[.slice none 0 0] 29)).alloc (.cells #[.int .i64 n] 3)).alloc (.cells #[.int .i64 p] 3)).alloc (.cells #[.int .i64 q] 3) := ⟨_, rfl⟩
  have hsz : W0.heap.size = w.heap.size + 5 := by rw [hW0]; simp
  have bB : Boxed W0 (w.heap.size + 1) 29 (.slice none ([] : List Int).length 0) := by
    have h := Boxed.new (w.alloc (.cells #[.int .i64 k] 3)) 29 (.slice none 0 0)
    rw [World.size_alloc] at h; rw [hW0]; exact ((h.alloc _).alloc _).alloc _
  have ck : W0.cell? ⟨w.heap.size, 0, none⟩ = some (.int .i64 k) := by rw [hW0]; go_simp
  have x1 : W0.cell? ⟨w.heap.size + 1 + 1, 0, none⟩ = some (.int .i64 n) := by rw [hW0]; go_simp
  have x2 : W0.cell? ⟨w.heap.size + 1 + 1 + 1, 0, none⟩ = some (.int .i64 p) := by rw [hW0]; go_simp
  have x3 : W0.cell? ⟨w.heap.size + 1 + 1 + 2, 0, none⟩ = some (.int .i64 q) := by rw [hW0]; go_simp
  have hB0 : Below w.heap.size w W0 := by rw [hW0]; exact (((((Below.refl _ w).alloc (Nat.le_refl _) _).alloc (by simp) _).alloc (by simp; omega) _).alloc (by simp; omega) _).alloc (by simp; omega) _
  rw [← hW0]
  clear hW0
  refine wp_told (gf := 92) (lb := #[.pointer (some ⟨w.heap.size + 1 + 1 + 2, 0, none⟩), .pointer (some ⟨w.heap.size + 1 + 1, 0, none⟩), .pointer (some ⟨w.heap.size + 1 + 1 + 1, 0, none⟩)]) rfl (enters_of Try.func92 (by kernel_rfl) rfl)
    (chances_told n p q hp hp1 hq0 hpq hn (w.heap.size + 1) (w.heap.size + 1 + 1) W0 (by omega) ⟨_, _, _, bB⟩ x1 x2 x3) (Below.refl _ _) KB.trans (fun W k o o' _ h hc => KB.putObj W k o o' h hc) tl_putObj (fun _ => rfl)
    (fun pre W => (pre.length ≤ k ∧ (∃ A cc l, Boxed W (w.heap.size + 1) 29 (.slice A (List.length l) cc) ∧ Num W A l (Sb.ls n p q pre.length)) ∧ W.cell? ⟨w.heap.size, 0, none⟩ = some (.int .i64 k)) ∧ Below w.heap.size w W)
    (fun c pre W => (c = .exit 0 ∧ ∃ A cc l, W.cell? ⟨w.heap.size + 1, 0, none⟩ = some (.slice A (List.length l) cc) ∧ Num W A l (Sb.ls n p q (k + 1))) ∧ Below w.heap.size w W)
    (OwnFrom.and (Own.from (fun s X Y row hs hg hr => by obtain ⟨h1, ⟨A, cc, l, h2, h3⟩, h4⟩ := hs; exact ⟨h1, ⟨A, cc, l, boxed_own _ _ (fun _ => _) s X Y row h2 hg hr, h3.kept hg hr⟩, cell_kept h4 hg hr⟩) _) (ownFrom_below (Nat.le_refl _) (by omega)))
    (fun c => OwnFrom.and (Own.from (fun s X Y row hs hg hr => by obtain ⟨hc, A, cc, l, h1, h2⟩ := hs; exact ⟨hc, A, cc, l, cell_kept h1 hg hr, h2.kept hg hr⟩) _) (ownFrom_below (Nat.le_refl _) (by omega)))
    ⟨⟨by simp, ⟨none, 0, [], bB, ⟨RdK.nil _ _ _, Na.Can.nil, by simp, rfl⟩⟩, ck⟩, hB0⟩
    (fun x => { tmps := #[.int .i64 n, .int .i64 k, .int .i64 p, undef, .pointer (some ⟨w.heap.size, 0, none⟩), undef, .slice none 0 0, .pointer (some ⟨w.heap.size + 1, 0, none⟩), .int .i64 x.k, .slice x.A x.l.length x.c, .int .i64 n, .int .i64 p, .int .i64 p, .int .i64 q,
      .func (.func 92) #[] #[.pointer (some ⟨w.heap.size + 1 + 1 + 2, 0, none⟩), .pointer (some ⟨w.heap.size + 1 + 1, 0, none⟩), .pointer (some ⟨w.heap.size + 1 + 1 + 1, 0, none⟩)], .int .i64 x.k, .slice x.A x.l.length x.c, undef, undef, undef, undef, undef, undef, undef, undef, undef, undef], defers := [] }) ?assign ?body ?done ?stop
  case assign =>
    intro l x W K hK
    unfold Val.encs
    gi_wp2
    exact hK
  case body =>
    rintro l pre ⟨i, A, c, ll⟩ W ⟨⟨hle, ⟨A1, c1, l1, hbx, hN1⟩, hck⟩, hB⟩ ⟨hi, hin, hN⟩
    obtain rfl : i = pre.length := hi
    have hs := Sb.ls_le hp hq0 n (pre.length + 1)
    have hs2 := Sb.pow_mono (show 0 ≤ p + q by omega) hpq n
    rw [Sb.ls] at hs
    have AD := Lib.hid (add_fit A1 A c1 c l1 ll _ _ W hN1 hN (fit_pow (Int.le_trans hs hs2) (by omega)))
    have HB := Lib.hid hB; have Hbx := Lib.hid hbx
    have hcb := hbx.cell; have hfb := hbx.frozen
    have hwz : w.heap.size + 1 < W.heap.size := hbx.lt
    clear hN hN1 hB hbx hs hs2
    by_cases he : pre.length = k
    all_goals
      first
        | have f1 : ((pre.length : Int) == (k : Int)) = true := by rw [beq_iff_eq, he]
        | have f1 : ((pre.length : Int) == (k : Int)) = false := by rw [beq_eq_false_iff_ne]; omega
      gi_wp2_with (refine ⟨trivial, ?_⟩; gi_at_call 25; (with_reducible refine (CallsIn.inRound l (callsIn_wide.2 AD.out)).mono ?_); rintro e V ⟨A2, c2, l2, rfl, h, hb⟩; have kV := (bcell hb w.heap.size 0 (by omega)).trans hck; have bV : Boxed V (w.heap.size + 1) 29 (.slice A1 l1.length c1) := (hb.block _ hwz).trans Hbx.out; have cV := bV.cell; have fV := bV.frozen; have HbV := Lib.hid bV; have HN2 := Lib.hid h; have HbB := Lib.hid hb; clear h hb bV)
    · have hkb := KB.setBox (W := V) (B := w.heap.size + 1) A2 l2.length c2 HbV.out
      have hkf : KeepsFrom W0.heap.size W V := ⟨HbB.out.size, fun k o _ h _ => (HbB.out.block _ (Array.getElem?_eq_some_iff.1 h).1).trans h⟩
      refine ⟨hkf.trans ((KeepsOthers.setCell _ _ _).from _), ⟨rfl, A2, c2, l2, World.cell?_setCell_same' _ _ _ (by rw [cV]; rfl), ?_⟩, ((HB.out.trans (HbB.out.mono HB.out.size)).setCell (p := ⟨w.heap.size + 1, 0, none⟩) (by simp) _)⟩
      rw [← he]
      exact HN2.out.kb ⟨_, _, _, HbV.out⟩ hkb
    · have hkb := KB.setBox (W := V) (B := w.heap.size + 1) A2 l2.length c2 HbV.out
      have hkf : KeepsFrom W0.heap.size W V := ⟨HbB.out.size, fun k o _ h _ => (HbB.out.block _ (Array.getElem?_eq_some_iff.1 h).1).trans h⟩
      have hc6 : (V.setCell ⟨w.heap.size + 1, 0, none⟩ (.slice A2 l2.length c2)).cell? ⟨w.heap.size, 0, none⟩ = some (.int .i64 k) := hkb.cell kV (by omega)
      exact ⟨hkf.trans ((KeepsOthers.setCell _ _ _).from _), (KB.below HbB.out).trans hkb, ⟨by rw [List.length_append]; show pre.length + 1 ≤ k; omega, ⟨A2, c2, l2, HbV.out.set _, by rw [List.length_append]; exact HN2.out.kb ⟨_, _, _, HbV.out⟩ hkb⟩, hc6⟩, ((HB.out.trans (HbB.out.mono HB.out.size)).setCell (p := ⟨w.heap.size + 1, 0, none⟩) (by simp) _)⟩
  case done =>
    rintro D xs W hD hS ⟨⟨hle, _⟩, _⟩ hK
    omega
  case stop =>
    rintro D c pre W hD _ ⟨⟨rfl, A, cc, l, hc, hN⟩, hB⟩ hK
    gi_wp2
    refine ⟨by simp, .inl ⟨_, _, rfl, run_takeDeferred hK, ?_⟩⟩
    exact ⟨_, results_tmp rfl _ _ _, A, cc, l, rfl, hN.putObj D _ _ hK rfl, hB.trans (belowK_b (w := w) (Nat.le_refl _) W D _ _ (by omega) hK rfl rfl)⟩
end Go.Proofs.Ytgbifcfdbelfpaa
