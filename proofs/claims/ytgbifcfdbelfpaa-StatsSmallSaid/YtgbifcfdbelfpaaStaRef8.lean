/-
  The walk of the reference's Choose.
-/
import Derived.Test.YtgbifcfdbelfpaaStaRef7
import Derived.Deep.RegionHeld3
import Derived.Deep.AppendLies
namespace Go.Proofs.Ytgbifcfdbelfpaa
open Go.RowKit
set_option linter.unusedVariables false

theorem bin_next (n k : Nat) : ((Sb.bin n k : Nat) : Int) + ((Sb.bin n (k + 1) : Nat) : Int) = ((Sb.bin (n + 1) (k + 1) : Nat) : Int) := by
  rw [Sb.bin, Int.natCast_add]
/-- the literal of a slice that holds 1 -/
theorem NumD.one (w : World) : NumD (w.alloc (.cells #[.int .i64 1] 3)) (.slice (some ⟨w.heap.size, 0, none⟩) 1 1) 1 1 := by
  have hB : IBlk (w.alloc (.cells #[.int .i64 1] 3)) w.heap.size [] [1] [] := heap_alloc_new w _
  exact ⟨_, 1, [1], rfl, .inr ⟨_, [], rfl, hB⟩, Nd.Dg.cons.2 ⟨by omega, Nd.Dg.nil⟩, by simp, by simp [Nd.V], by simp, by omega⟩

/-- one number more behind a row of one's own, at a step of a region that draws its order -/
theorem step_appT {ops : Array Oper} {o : Oper} {a : Act} {K : Act → World → Prop} {Q : Exit → Act → World → Prop} {E : Prop} (w : World) (hgd : o.guard = none) (s x : Operand)
    (hop : o.op = .call { callee := .builtin .append, args := #[s, x], argTypes := #[26, 26] }) (base : Nat) (v : Value) (n : Nat) (f : Nat → Int) (L : Nat) (hv : a.eval s = v) (ho : Tab w base v n f L) (y : Value) (hy : NumD w y L (f n))
    (hx : a.eval x = .slice (some ⟨w.heap.size, 0, none⟩) 1 1) (hl : n ≤ 100000) (hb : base ≤ w.heap.size)
    (hK : ∀ g cap w', Tab w' base (.slice (some ⟨g, 0, none⟩) (n + 1) cap) (n + 1) f L → Below base w w' → K (a.put o.dst (.slice (some ⟨g, 0, none⟩) (n + 1) cap)) w') :
    if Region.wanted o (yielded ops a.tmps) = true then Oper.wp Try.prog o a (w.alloc (.cells #[y] 24)) K Q else E := by
  obtain ⟨i0, hi, hz0, hz1, hz2⟩ := info_parts infoSl
  obtain ⟨vs, h1, h2, h3⟩ := ho
  have hBl : Below w.heap.size w (w.alloc (.cells #[y] 24)) := (Below.refl _ w).alloc (Nat.le_refl _) _
  have hsl : y.oneCell' = true := by
    obtain ⟨A, c, l, rfl, -⟩ := hy
    rfl
  refine step_append_lies _ hgd _ _ 26 hop base 24 i0 (.slice none 0 0) 1 24 Try.underlying26 hi hz0 hz1 hz2 rfl (by decide) _ _ _ hv (World.ownsRow.alloc h2 _) ⟨w.heap.size, 0, none⟩ 1 1 [y] hx rfl (cell_one_new _ _ _) ?_ (by omega) ?_ ?_ ?_ (w.heap.size + 1) (by simp) ?_
  · intro u hu; simp at hu; subst hu; exact hsl
  · unfold maxLen; omega
  · omega
  · simp; omega
  · intro gg cap w' g1 g2 _ _
    have hT : ∀ k, v.ownBlock = some k → base ≤ k := fun k hk => Tab.at ⟨vs, h1, h2, h3⟩ k hk
    have hkp : ∀ u z, NumD w u L z → NumD w' u L z := by
      intro u z hu
      have hu2 := hu.below hBl
      rcases h2.2 with ⟨rfl, -⟩ | ⟨g, cap, cur, rfl, h5, h6, -⟩
      · obtain ⟨A, c, l, e1, e2, e3⟩ := hu2
        refine ⟨A, c, l, e1, ?_, e3⟩
        rcases e2 with e2 | ⟨g, s, e4, e5⟩
        · exact .inl e2
        · exact .inr ⟨g, s, e4, e5.kept g2 (by rintro ⟨⟩)⟩
      · exact hu2.kept g2 ((hBl.block g (lt_of_block h6)).trans h6) (by decide)
    refine hK gg cap w' ⟨vs ++ [y], by simp [h1], g1, fun k hk => ?_⟩ ?_
    · by_cases e : k < n
      · rw [List.getD_eq_getElem?_getD, List.getElem?_append_left (by omega), ← List.getD_eq_getElem?_getD]
        exact hkp _ _ (h3 k e)
      · obtain rfl : k = n := by omega
        rw [List.getD_eq_getElem?_getD, List.getElem?_append_right (by omega)]
        simp only [h1, Nat.sub_self, List.getElem?_cons_zero, Option.getD_some]
        exact hkp _ _ hy
    · exact ((Below.refl base w).alloc hb _).grown g2 (by simp; omega) hT

theorem wpList_appT2 {ops : Array Oper} {rest : List Oper} {o : Oper} {a : Act} {Q : Exit → Act → World → Prop} (w : World) (hg : o.guard = none) (s x : Operand)
    (hop : o.op = .call { callee := .builtin .append, args := #[s, x], argTypes := #[26, 26] }) (base : Nat) (v : Value) (n : Nat) (f : Nat → Int) (L : Nat) (hv : a.eval s = v) (ho : Tab w base v n f L) (y : Value) (hy : NumD w y L (f n))
    (H : Nat) (hH : w.heap.size = H) (hx : a.eval x = .slice (some ⟨H, 0, none⟩) 1 1) (hl : n ≤ 100000) (hb : base ≤ w.heap.size)
    (hK : ∀ v' w', Tab w' base v' (n + 1) f L → Below base w w' → wpList Try.prog ops Q rest (a.put o.dst v') w') :
    wpList Try.prog ops Q (o :: rest) a (w.alloc (.cells #[y] 24)) := by
  subst hH
  exact wpList_appT w hg s x hop base v n f L hv ho y hy hx hl hb hK
set_option maxRecDepth 100000 in
set_option maxHeartbeats 8000000 in
theorem rchoose_ok (n k : Nat) (w : World) (hn : n ≤ 300) (hk : k ≤ n) : Calls Try.prog 41 #[.int .i64 n, .int .i64 k] w (PostNumE (Sb.bin n k) w) := by
  have C := Lib.hid (rwrong_is (r := true) (trErr_ok (n := n) (k := k) (by omega) (by omega) (by omega)) (x := 0) (lo := 0) (hi := 0) (by simp) w)
  have T1 := Lib.hid (Tab.one w (fun k => ((Sb.bin 0 k : Nat) : Int)) rfl)
  have B1 := Lib.hid (((Below.refl w.heap.size w).alloc (Nat.le_refl _) (.cells #[.int .i64 1] 3)).alloc (by simp) (.cells #[.slice (some ⟨w.heap.size, 0, none⟩) 1 1] 24))
  go_enter Try.func41, Try.ntmps41
  go_wp2_with (go_at_call 71; (with_reducible refine C.out.mono ?_); rintro e w1 ⟨rfl, rfl⟩)
  go_loopw [7, 8] (fun lv iv wr => ∃ i : Nat, i ≤ n ∧ iv = .int .i64 i ∧ Hid (Tab wr w.heap.size lv (i + 1) (fun k => ((Sb.bin i k : Nat) : Int)) (i + 1)) ∧ Hid (Below w.heap.size w wr)) (fun _ iv _ => n - (intOf iv).toNat)
  case atStart => exact ⟨0, by omega, rfl, T1, B1⟩
  case round =>
    obtain ⟨i, hi, rfl, HT, HB⟩ := hrel
    have i0 : (0 : Int) ≤ (i : Int) := by omega
    by_cases hin : i = n
    · subst hin
      obtain ⟨g, cap, A, c, l, rfl, hg, hc, hN⟩ := HT.out.cell k (by omega)
      have L := Lib.hid (rlimbs_any _ _ _ wr hN (by omega))
      have j0 : (0 : Int) ≤ (k : Int) := by omega
      have j1 : (k : Int) < ((i + 1 : Nat) : Int) := by omega
      clear hN
      go_wp2_with (go_at_call 73; (with_reducible refine L.out.mono ?_); rintro e w2 ⟨A2, c2, l2, rfl, h2, b2⟩; have N2 := Lib.hid h2; have B2 := Lib.hid (HB.out.trans (b2.mono HB.out.size)); clear h2 b2)
      go_ret2
      exact ⟨_, _, l2, rfl, N2.out, B2.out⟩
    · have i1 : (i : Int) < (n : Int) := by omega
      obtain ⟨wo, rfl⟩ : ∃ W, W = wr := ⟨_, rfl⟩
      have T2 := Lib.hid (Tab.one wo (fun k => ((Sb.bin (i + 1) k : Nat) : Int)) (by simp [Sb.bin_zero]))
      have B2 := Lib.hid (((Below.refl wo.heap.size wo).alloc (Nat.le_refl _) (.cells #[.int .i64 1] 3)).alloc (by simp) (.cells #[.slice (some ⟨wo.heap.size, 0, none⟩) 1 1] 24))
      obtain ⟨g, cap, rfl, hg, hc⟩ := HT.out.cells (by omega)
      have HC := Lib.hid hc; clear hc
      go_wp2_with fail
      go_loopw [9, 10] (fun nv jv wx => ∃ j : Nat, 1 ≤ j ∧ j ≤ i + 1 ∧ jv = .int .i64 j ∧ Hid (Tab wx wo.heap.size nv j (fun k => ((Sb.bin (i + 1) k : Nat) : Int)) (i + 2)) ∧ Hid (Below wo.heap.size wo wx)) (fun _ jv _ => i + 1 - (intOf jv).toNat)
      case atStart => exact ⟨1, by omega, by omega, rfl, Lib.hid (T2.out.mono (by omega)), B2⟩
      case round =>
        obtain ⟨j, hj1, hj, rfl, HN, HX⟩ := hrel
        by_cases hje : j = i + 1
        · subst hje
          have Y1 := Lib.hid (show NumD (wr.alloc (.cells #[.int .i64 1] 3)) (.slice (some ⟨wr.heap.size, 0, none⟩) 1 1) (i + 2) ((Sb.bin (i + 1) (i + 1) : Nat) : Int) by rw [Sb.bin_self]; exact (NumD.one wr).mono (by omega))
          have HW := Lib.hid (show Below wr.heap.size wr (wr.alloc (.cells #[.int .i64 1] 3)) from (Below.refl _ wr).alloc (Nat.le_refl _) _)
          have HTW := Lib.hid (HN.out.below HW.out)
          have HXW := Lib.hid (HX.out.trans (HW.out.mono HX.out.size))
          have HBO := Lib.hid HB.out.size
          clear HN
          go_wp2_with (at_builtin; refine wpList_appT2 _ rfl _ _ rfl wo.heap.size _ (i + 1) _ (i + 2) rfl HTW.out _ Y1.out (wr.heap.size + 1) (by simp) rfl (by omega) HXW.out.size ?_; intro v4 w4 ht hb4; have HT4 := Lib.hid (ht.low HBO.out); have BX2 := Lib.hid (HB.out.trans ((HXW.out.trans hb4).mono HBO.out)); clear ht hb4)
          exact ⟨⟨i + 1, by omega, by go_num, HT4, BX2⟩, by simp [intOf]; omega⟩
        · obtain ⟨m, hm⟩ : ∃ m, j = m + 1 := ⟨j - 1, by omega⟩
          obtain ⟨A1, c1, l1, hc1, hN1⟩ := HC.out m (by omega)
          obtain ⟨A2, c2, l2, hc2, hN2⟩ := HC.out j (by omega)
          have hbn : ((Sb.bin i m : Nat) : Int) + ((Sb.bin i j : Nat) : Int) = ((Sb.bin (i + 1) j : Nat) : Int) := by rw [hm]; exact bin_next i m
          have AD := Lib.hid (fun V (hV : Below wo.heap.size wo V) => hbn ▸ radd_any _ _ (i + 1) (i + 1) (i + 2) _ _ V (hN1.below hV) (hN2.below hV) (by omega) (by omega) (by omega))
          have KC := Lib.hid (fun V (hV : Below wo.heap.size wo V) => (show V.cell? ⟨g, m, none⟩ = some (.slice A1 l1 c1) ∧ V.cell? ⟨g, j, none⟩ = some (.slice A2 l2 c2) from ⟨(bcell hV g m hg).trans hc1, (bcell hV g j hg).trans hc2⟩))
          have HD := Lib.hid (show Below wr.heap.size wr wr.drew from below_drewN (Below.refl _ _) 1)
          have HXD := Lib.hid (HX.out.trans (HD.out.mono HX.out.size))
          have HND := Lib.hid (HN.out.below HD.out)
          have HJ := Lib.hid (show j < i + 1 by omega)
          have j0 : (0 : Int) ≤ (m : Int) := by omega
          have j1 : (j : Int) < (i : Int) + 1 := by omega
          have j2 : (0 : Int) ≤ (j : Int) := by omega
          have j4 : (m : Int) < (i : Int) + 1 := by omega
          have m1 : IntKind.i64.wrap ((j : Int) - 1) = (m : Int) := by rw [show (j : Int) - 1 = (m : Int) by omega]; exact IntWalk.i64_in _ (by omega)
          clear hc1 hc2 hN1 hN2 hm hbn hje hj hj1
          go_wp2_with fail
          go_region_held3 (fun V => V.cell? ⟨g, m, none⟩ = some (.slice A1 l1 c1) ∧ V.cell? ⟨g, j, none⟩ = some (.slice A2 l2 c2))
            (first | exact KC.out _ BX2.out | exact KC.out _ (BX1.out.alloc BX1.out.size _) | exact KC.out _ BX1.out | exact KC.out _ HXD.out)
            (first
              | (go_at_call 72; (with_reducible refine (AD.out _ HXD.out).mono ?_); rintro e w3 ⟨v3, rfl, h3, b3⟩; have N3 := Lib.hid h3; have BX1 := Lib.hid (HXD.out.trans (b3.mono HXD.out.size)); have T3 := Lib.hid (HND.out.below b3); obtain ⟨A3, c3, l3, rfl, -⟩ := h3; clear b3)
              | (refine step_appT _ rfl _ _ (by rfl) wo.heap.size _ j _ (i + 2) (by rfl) T3.out _ N3.out (by rfl) (by omega) BX1.out.size ?_; intro gg cp w4 ht hb4; have HT4 := Lib.hid ht; have BX2 := Lib.hid (BX1.out.trans hb4); clear ht hb4))
          have e1 := HJ.out
          go_wp2_with fail
          exact ⟨⟨j + 1, by omega, by omega, by go_num, HT4, BX2⟩, by simp [intOf]; omega⟩

end Go.Proofs.Ytgbifcfdbelfpaa
