/-
  The reference's Path.
-/
import Derived.Test.YthojojjdamchpaaEdiRefDist
import Derived.Test.YthojojjdamchpaaEdiPath2
import Derived.BigQuiet
namespace Go.Proofs.Ythojojjdamchpaa
open Go.RowKit Go.Shelf
set_option linter.unusedVariables false
set_option linter.unusedSimpArgs false

theorem infoOpF : (Try.prog.info? 52).map (fun i => (i.zero, i.size, i.bytes)) = some (some (.agg #[.int .u8 0, .int .u8 0]), 2, 2) := by kernel_rfl
theorem wpList_appF {ops : Array Oper} {rest : List Oper} {o : Oper} {a : Act} {Q : Exit → Act → World → Prop} (w : World) (hg : o.guard = none) (s x : Operand)
    (hop : o.op = .call { callee := .builtin .append, args := #[s, x], argTypes := #[47, 47] }) (base n c : Nat) (A : Option Addr) (l : List (Nat × Nat)) (hv : a.eval s = .slice A n c)
    (hown : OwnO base 52 w A n c l) (g : Nat) (p : Nat × Nat) (hx : a.eval x = .slice (some ⟨g, 0, none⟩) 1 1) (hc : w.cell? ⟨g, 0, none⟩ = some (.int .u8 p.1)) (hd : w.cell? ⟨g, 1, none⟩ = some (.int .u8 p.2)) (hl : n + 1 ≤ 1000000000) (hb : base ≤ w.heap.size)
    (hK : ∀ A' n' c' w', n' = n + 1 → OwnO base 52 w' A' n' c' (l ++ [p]) → w.grownBy w' (Value.slice A n c).ownBlock → wpList Try.prog ops Q rest (a.put o.dst (.slice A' n' c')) w') :
    wpList Try.prog ops Q (o :: rest) a w := by
  obtain ⟨i0, hi, hz0, hz1, hz2⟩ := info_parts infoOpF
  refine wpList_append_own _ hg _ _ 47 hop base 52 i0 (.agg #[.int .u8 0, .int .u8 0]) 2 2 Try.underlying47 hi hz0 hz1 hz2 rfl (by decide) _ _ _ hv hown.2 ⟨g, 0, none⟩ 1 1 [.int .u8 p.1, .int .u8 p.2] hx rfl ?_ ?_ ?_ ?_ hb ?_
  · intro j u hj
    match j, hj with
    | 0, hj => simp at hj; subst hj; simpa [Addr.add] using hc
    | 1, hj => simp at hj; subst hj; simpa [Addr.add] using hd
  · intro u hu; simp at hu; rcases hu with rfl | rfl <;> rfl
  · unfold maxLen; omega
  · omega
  · intro v' w' h1 h2 _
    have hl1 := hown.1
    rcases h1.2 with ⟨rfl, h4⟩ | ⟨g', cap, cur, rfl, h5, h6, h7⟩
    · omega
    · exact hK _ _ cap w' rfl ⟨by simp [hl1], by rw [opsC_append]; exact h1⟩ h2
/-- the state of the walk -/
structure FR (c : Ed.Cst) (a b : ByteArray) (w3 W : World) (A : Option Addr) (n cap i j : Nat) : Prop where
  bel : Below w3.heap.size w3 W
  own : ∃ l, OwnO w3.heap.size 52 W A n cap l ∧ l ++ Ed.path c ((tx a).drop i) ((tx b).drop j) = Ed.path c (tx a) (tx b) ∧ l.length ≤ i + j
theorem FR.below {c : Ed.Cst} {a b : ByteArray} {w3 W V : World} {A : Option Addr} {n cap i j : Nat} (h : FR c a b w3 W A n cap i j) (hb : Below W.heap.size W V) : FR c a b w3 V A n cap i j := by
  obtain ⟨l, h1, h2, h3⟩ := h.own
  exact ⟨h.bel.trans (hb.mono h.bel.size), l, h1.below hb, h2, h3⟩
theorem byte_of (b : ByteArray) (j k : Nat) (hk : k = 2 ∨ k = 5) (hj : j < b.size) : Ed.byteOf k ((tx b).drop j) = (b[j]).toNat := by
  unfold Ed.byteOf
  rw [if_pos hk, tx_drop b j hj]; rfl
theorem byte_no (l : List UInt8) (k : Nat) (hk : ¬ (k = 2 ∨ k = 5)) : Ed.byteOf k l = 0 := by
  unfold Ed.byteOf
  rw [if_neg hk]
set_option maxRecDepth 100000 in
set_option maxHeartbeats 16000000 in
theorem refPath_ok (a b : ByteArray) (c : Ed.Cst) (w : World) (he : errOf c a b = 0) :
    Calls Try.prog 17 #[.string a, .string b, cstV c] w fun e w' => ∃ A n cap, e = .returned (.tuple #[.slice A n cap, .int .i64 (Ed.D c (tx a) (tx b)), .int .i64 0]) ∧ OwnO w.heap.size 52 w' A n cap (Ed.path c (tx a) (tx b)) ∧ Below w.heap.size w w' := by
  obtain ⟨W1, hW1, hb1, hq1, hcb⟩ := cboxF w c
  have mt := fun V => may_any a b c V
  obtain ⟨hc, ha, hb⟩ := err_zero he
  have tt := fun V => table_any a b c hc ha hb V
  have fa := fun k h1 h5 s t V => fits_any k h1 h5 s t c V
  rw [he] at mt
  unfold PostN at mt
  unfold PostF at fa
  unfold cstV at mt tt fa ⊢
  have MT := Lib.hid mt; have TB := Lib.hid tt; have FA := Lib.hid fa; have HC := Lib.hid hc
  have HCB := Lib.hid hcb
  have HCK := Lib.hid (fun wr (h : Below W1.heap.size W1 wr) => (show wr.cell? ⟨w.heap.size, 0, none⟩ = some (.int .i64 c.ins) ∧ wr.cell? ⟨w.heap.size, 1, none⟩ = some (.int .i64 c.del) ∧ wr.cell? ⟨w.heap.size, 2, none⟩ = some (.int .i64 c.chg) ∧ wr.cell? ⟨w.heap.size, 3, none⟩ = some (.int .i64 c.swp) from ⟨cell_keep HCB.out.1 h, cell_keep HCB.out.2.1 h, cell_keep HCB.out.2.2.1 h, cell_keep HCB.out.2.2.2 h⟩))
  obtain ⟨q0, q1, q2, q3⟩ := hcb
  have HB := Lib.hid hb1
  have hai : (a.size : Int) ≤ 60 := by omega
  have hbi : (b.size : Int) ≤ 60 := by omega
  clear hb1 mt tt fa he hc HCB
  go_enter Try.func17, Try.ntmps17
  go_wp2_with fail
  rw [← hW1]
  clear hW1 hq1
  go_wp2_with (first
    | (go_at_call 24; (with_reducible refine (MT.out _).mono ?_); rintro e V ⟨rfl, hb2⟩; have HB2 := Lib.hid hb2; clear q0 q1 q2 q3; obtain ⟨q0, q1, q2, q3⟩ := HCK.out _ hb2; clear hb2)
    | (go_at_call 25; (with_reducible refine (TB.out _).mono ?_); rintro e V3 ⟨Bd, hi, rfl, htd, hb2⟩; have HB3 := Lib.hid (HB2.out.trans (hb2.mono HB2.out.size)); have HTD := Lib.hid htd; clear hb2 q0 q1 q2 q3 htd; unfold sl))
  have HF0 : Hid (FR c a b V3 V3 none 0 0 0 0) := Lib.hid ⟨Below.refl _ _, [], OwnO.nil _ _ _, by rw [List.drop_zero, List.drop_zero]; rfl, Nat.zero_le _⟩
  go_loopg [11, 12, 13] (a.size + b.size) (fun gk s9 s11 s12 wr => ∃ (P : Option Addr) (n cap i j : Nat), s9 = .slice P n cap ∧ s11 = .int .i64 i ∧ s12 = .int .i64 j ∧ i ≤ a.size ∧ j ≤ b.size ∧ a.size + b.size ≤ i + j + gk ∧ Hid (FR c a b V3 wr P n cap i j))
  case atStart => exact ⟨none, 0, 0, 0, 0, rfl, rfl, rfl, by omega, by omega, by omega, HF0⟩
  case round =>
    obtain ⟨P, n, cap, i, j, rfl, rfl, rfl, hi2, hj, hg, HS⟩ := hrel
    clear HF0
    by_cases hend : i < a.size ∨ j < b.size
    · cases gk with
      | zero => omega
      | succ g =>
        have hne := tx_ne hend
        have HNE := Lib.hid hne
        clear hne
        have hgo : (decide (i < a.size) = true) ∨ (decide (i < a.size) = false ∧ decide (j < b.size) = true) := by
          by_cases h : i < a.size
          · exact .inl (decide_eq_true h)
          · exact .inr ⟨decide_eq_false h, decide_eq_true (by omega)⟩
        clear hend
        have hin : (i : Int) ≤ 60 := by omega
        have hjn : (j : Int) ≤ 60 := by omega
        have ii : (i : Int) ≤ (a.size : Int) := by omega
        have jj : (j : Int) ≤ (b.size : Int) := by omega
        rcases hgo with h1 | ⟨h1, h2⟩
        all_goals
          go_wp2
          go_loopg [11, 12, 13, 14] 5 (fun g2 s9 s11 s12 s13 wy => ∃ k : Nat, s9 = .slice P n cap ∧ s11 = .int .i64 i ∧ s12 = .int .i64 j ∧ s13 = .int .u8 k ∧ 1 ≤ k ∧ k + g2 = 6 ∧ Hid ((∀ k', 1 ≤ k' → k' < k → Ed.good c ((tx a).drop i) ((tx b).drop j) k' = false) ∧ FR c a b V3 wy P n cap i j))
          case atStart => exact ⟨1, rfl, rfl, rfl, rfl, by omega, by omega, Lib.hid ⟨fun k' h1 h2 => by omega, HS.out⟩⟩
          case round =>
            obtain ⟨k, rfl, rfl, rfl, rfl, hk1, hk6, HR⟩ := hrel
            cases gk with
            | zero =>
              obtain rfl : k = 6 := by omega
              exact (no_end HNE.out HR.out.1).elim
            | succ g2 =>
              have hk5 : (k : Int) ≤ 5 := by omega
              have FK := FA.out k hk1 (by omega) (a.extract i a.size) (b.extract j b.size)
              rw [tx_ext, tx_ext] at FK
              have hgd := good_iff c a b i j k
              obtain ⟨T, hT⟩ : ∃ T, Ed.tk k = T := ⟨_, rfl⟩
              obtain ⟨U, hU⟩ : ∃ U, Ed.wr k = U := ⟨_, rfl⟩
              obtain ⟨Z, hZ⟩ : ∃ Z, Ed.cst c k = Z := ⟨_, rfl⟩
              have hz0 : 0 ≤ Z := by rw [← hZ]; exact Ed.cst_nonneg HC.out _
              have hz1 : Z ≤ 1000 := by rw [← hZ]; exact Ed.cst_max HC.out _
              have hroom := fun (h : Ed.fit k ((tx a).drop i) ((tx b).drop j) = true) => fit_room hi2 hj h
              obtain ⟨ft, hft⟩ : ∃ ft, Ed.fit k ((tx a).drop i) ((tx b).drop j) = ft := ⟨_, rfl⟩
              rw [hft, hT, hU, hZ] at FK hgd
              simp only [hT, hU, hft] at hroom
              have FK := Lib.hid FK
              have HGD := Lib.hid hgd; have HRo := Lib.hid hroom; have HTU := Lib.hid (And.intro hT hU)
              clear hgd hT hU hZ hft hroom
              have hbd : Below wr.heap.size wr wr.drew := below_drewN (Below.refl _ _) 1
              obtain ⟨q0, q1, q2, q3⟩ := HCK.out _ (HB3.out.trans (HR.out.2.bel.mono HB3.out.size))
              have HRD := Lib.hid (HR.out.2.below hbd)
              obtain ⟨y0, y1, y2, y3⟩ := HCK.out _ (HB3.out.trans (HRD.out.bel.mono HB3.out.size))
              clear hbd
              go_wp2
              go_region_held3 (fun W => W.cell? ⟨w.heap.size, 0, none⟩ = some (.int .i64 c.ins) ∧ W.cell? ⟨w.heap.size, 1, none⟩ = some (.int .i64 c.del) ∧ W.cell? ⟨w.heap.size, 2, none⟩ = some (.int .i64 c.chg) ∧ W.cell? ⟨w.heap.size, 3, none⟩ = some (.int .i64 c.swp))
                (first | exact ⟨q0, q1, q2, q3⟩ | exact ⟨y0, y1, y2, y3⟩)
                (first | (go_at_call 26; (with_reducible refine (FK.out _).mono ?_); rintro e V9 ⟨rfl, hb9⟩; have HRD := Lib.hid (HRD.out.below hb9); clear q0 q1 q2 q3; obtain ⟨q0, q1, q2, q3⟩ := HCK.out _ (HB3.out.trans (HRD.out.bel.mono HB3.out.size)); clear hb9))
              clear q0 q1 q2 q3 y0 y1 y2 y3
              cases ft with
              | false =>
                go_wp2
                go_quiet (fail)
                go_wp2
                go_roundg g2
                case measure => omega
                case rel =>
                  refine ⟨k + 1, rfl, rfl, rfl, by go_num, by omega, by omega, Lib.hid ⟨fun k' h1 h2 => ?_, HRD.out.below (below_drewN (Below.refl _ _) _)⟩⟩
                  by_cases e : k' = k
                  · rw [e, HGD.out]; rfl
                  · exact HR.out.1 k' h1 (by omega)
              | true =>
                obtain ⟨l1, l2, l3⟩ := HRo.out rfl
                have htd := HTD.out.below HRD.out.bel
                obtain ⟨bk0, r0, -, R1⟩ := htd.get (i := i) hi2 (by omega)
                obtain ⟨bk1, r2, -, R3⟩ := htd.get (i := i + T) l1 (by omega)
                have r1 := R1 j hj
                have r3 := R3 (j + U) l2
                clear R1 R3
                unfold sl at r0 r2
                obtain ⟨hy0, hy1⟩ := dv_bound HC.out a b ha hb (i + T) (j + U)
                obtain ⟨Y, hY⟩ : ∃ Y, Dv c a b (i + T) (j + U) = Y := ⟨_, rfl⟩
                obtain ⟨X, hX⟩ : ∃ X, Dv c a b i j = X := ⟨_, rfl⟩
                rw [hY] at r3 hy0 hy1; rw [hX] at r1
                have HXY := Lib.hid (And.intro hX hY)
                have x1 : (i : Int) + (T : Int) < (a.size : Int) + 1 := by omega
                have x2 : (j : Int) + (U : Int) < (b.size : Int) + 1 := by omega
                have x3 : (T : Int) ≤ 60 := by omega
                have x4 : (U : Int) ≤ 60 := by omega
                have x5 : ((i : Int) + (T : Int)).toNat = i + T := by omega
                have x6 : ((j : Int) + (U : Int)).toNat = j + U := by omega
                have x7 : (i : Int) < (a.size : Int) + 1 := by omega
                have x8 : (j : Int) < (b.size : Int) + 1 := by omega
                have HLL := Lib.hid (And.intro l1 (And.intro l2 l3))
                clear htd hX hY l1 l2 l3
                by_cases hgo : Z + Y = X
                · have hgk : Ed.good c ((tx a).drop i) ((tx b).drop j) k = true := by
                    rw [HGD.out, HXY.out.1, HXY.out.2]; simp [hgo]
                  have HGK := Lib.hid hgk
                  have hxy : (Z + Y == X) = true := by simp [hgo]
                  clear hgk hgo
                  go_wp2
                  go_quiet (fail)
                  clear r0 r1 r2 r3 x1 x2 x5 x6 x7 x8
                  obtain ⟨V0, hV0⟩ : ∃ V0, V9.drewN nq = V0 := ⟨_, rfl⟩
                  rw [hV0]
                  have hb0 : Below V9.heap.size V9 V0 := by rw [← hV0]; exact below_drewN (Below.refl _ _) nq
                  have hr0 := HRD.out.below hb0
                  obtain ⟨l, hl1, hl2, hl3⟩ := hr0.own
                  have hbl := hr0.bel
                  have HB0 := Lib.hid hbl; have HL1 := Lib.hid hl1; have HL2 := Lib.hid hl2; have HL3 := Lib.hid hl3
                  clear hV0 hb0 hr0 hl1 hl2 hl3 hbl HRD
                  by_cases hk25 : k = 2 ∨ k = 5
                  · have hjb : j < b.size := by
                      have h0 := HLL.out.2.1
                      have : Ed.wr k = 1 := by rcases hk25 with rfl | rfl <;> rfl
                      have := HTU.out.2
                      omega
                    have HYY := Lib.hid (byte_of b j k hk25 hjb)
                    have j1 : decide ((j : Int) < (b.size : Int)) = true := decide_eq_true (by omega)
                    have j2 : (j : Int) < (b.size : Int) := by omega
                    obtain ⟨yb, hyb⟩ : ∃ yb, b[j] = yb := ⟨_, rfl⟩
                    rw [hyb] at HYY
                    have hkk : ((k : Int) == 2) = true ∨ (((k : Int) == 2) = false ∧ ((k : Int) == 5) = true) := by rcases hk25 with rfl | rfl <;> simp
                    clear hk25
                    rcases hkk with m1 | ⟨m1, m2⟩
                    all_goals
                      go_wp2_with (at_builtin; refine wpList_appF _ rfl _ _ rfl V3.heap.size n cap P l rfl (HL1.out.below ((below_new V0 _).trans ((below_new _ _).mono (by simp)))) _ (k, yb.toNat) rfl (by go_simp) (by go_simp) (by have := HL1.out.1; have := HL3.out; omega) (by have := HB0.out.size; simp; omega) ?_; intro P2 n2 c2 w5 hn2 ho5 hg5; have HO5 := Lib.hid ho5; have HB5 := Lib.hid (Below.grown (HB0.out.trans (((below_new V0 _).trans ((below_new _ _).mono (by simp))).mono HB0.out.size)) hg5 (by have := HB0.out.size; simp; omega) (fun q hq => (HL1.out.2.lt q hq).1)); clear hn2 ho5 hg5)
                      go_roundg g
                      case measure => omega
                      case rel =>
                        obtain ⟨l1, l2, l3⟩ := HLL.out
                        refine ⟨P2, n2, c2, i + T, j + U, rfl, by go_num, by go_num, l1, l2, by omega, Lib.hid ⟨HB5.out, l ++ [(k, yb.toNat)], HO5.out, ?_, ?_⟩⟩
                        · have hp := Ed.path_eq c HNE.out
                          rw [fk_eq HNE.out hk1 HGK.out HR.out.1, HYY.out, HTU.out.1, HTU.out.2, List.drop_drop, List.drop_drop] at hp
                          rw [← HL2.out, hp, List.append_assoc]; rfl
                        · have := HL3.out
                          rw [List.length_append, List.length_singleton]; omega
                  · have HYY := Lib.hid (byte_no ((tx b).drop j) k hk25)
                    have m1 : ((k : Int) == 2) = false := by rw [beq_eq_false_iff_ne]; omega
                    have m2 : ((k : Int) == 5) = false := by rw [beq_eq_false_iff_ne]; omega
                    clear hk25
                    go_wp2_with (at_builtin; refine wpList_appF _ rfl _ _ rfl V3.heap.size n cap P l rfl (HL1.out.below ((below_new V0 _).trans ((below_new _ _).mono (by simp)))) _ (k, 0) rfl (by go_simp) (by go_simp) (by have := HL1.out.1; have := HL3.out; omega) (by have := HB0.out.size; simp; omega) ?_; intro P2 n2 c2 w5 hn2 ho5 hg5; have HO5 := Lib.hid ho5; have HB5 := Lib.hid (Below.grown (HB0.out.trans (((below_new V0 _).trans ((below_new _ _).mono (by simp))).mono HB0.out.size)) hg5 (by have := HB0.out.size; simp; omega) (fun q hq => (HL1.out.2.lt q hq).1)); clear hn2 ho5 hg5)
                    go_roundg g
                    case measure => omega
                    case rel =>
                      obtain ⟨l1, l2, l3⟩ := HLL.out
                      refine ⟨P2, n2, c2, i + T, j + U, rfl, by go_num, by go_num, l1, l2, by omega, Lib.hid ⟨HB5.out, l ++ [(k, 0)], HO5.out, ?_, ?_⟩⟩
                      · have hp := Ed.path_eq c HNE.out
                        rw [fk_eq HNE.out hk1 HGK.out HR.out.1, HYY.out, HTU.out.1, HTU.out.2, List.drop_drop, List.drop_drop] at hp
                        rw [← HL2.out, hp, List.append_assoc]; rfl
                      · have := HL3.out
                        rw [List.length_append, List.length_singleton]; omega
                · have hgk : Ed.good c ((tx a).drop i) ((tx b).drop j) k = false := by
                    rw [HGD.out, HXY.out.1, HXY.out.2]; simp [hgo]
                  have HGK := Lib.hid hgk
                  have hxy : (Z + Y == X) = false := by simp [hgo]
                  clear hgk hgo
                  go_wp2
                  go_quiet (fail)
                  clear r0 r1 r2 r3 x1 x2 x5 x6 x7 x8
                  go_wp2
                  go_roundg g2
                  case measure => omega
                  case rel =>
                    refine ⟨k + 1, rfl, rfl, rfl, by go_num, by omega, by omega, Lib.hid ⟨fun k' h1 h2 => ?_, HRD.out.below (below_drewN (Below.refl _ _) _)⟩⟩
                    by_cases e : k' = k
                    · rw [e]; exact HGK.out
                    · exact HR.out.1 k' h1 (by omega)
    · have h1 : decide (i < a.size) = false := decide_eq_false (by omega)
      have h2 : decide (j < b.size) = false := decide_eq_false (by omega)
      have hia : i = a.size := by omega
      have hjb : j = b.size := by omega
      have hfin : Hid (FR c a b V3 wr P n cap a.size b.size) := by rw [← hia, ← hjb]; exact HS
      have htd := HTD.out.below HS.out.bel
      obtain ⟨bk0, r0, -, R1⟩ := htd.get (i := 0) (by omega) (by omega)
      have r1 := R1 0 (by omega)
      clear R1
      unfold sl at r0
      have u0 : (0 : Int) < (a.size : Int) + 1 := by omega
      have u1 : (0 : Int) < (b.size : Int) + 1 := by omega
      clear HS hend hia hjb htd
      go_wp2
      go_quiet (fail)
      go_wp2
      try rw [Exit.noGoto_ret]
      go_ret3
      obtain ⟨hb1, l, ho, hp, _⟩ := hfin.out
      rw [tx_end a a.size (Nat.le_refl _), tx_end b b.size (Nat.le_refl _), Ed.path_nil, List.append_nil] at hp
      subst hp
      exact ⟨P, n, cap, rfl, (ho.mono (Nat.le_trans HB.out.size HB3.out.size)).below (below_drewN (Below.refl _ _) _), below_drewN (HB.out.trans ((HB3.out.trans (hb1.mono HB3.out.size)).mono HB.out.size)) _⟩
def PostR (c : Ed.Cst) (a b : ByteArray) (w : World) (e : Ending) (w' : World) : Prop := ∃ A n cap, e = .returned (.tuple #[.slice A n cap, .int .i64 (distOf c a b), .int .i64 (errOf c a b)]) ∧ OwnO w.heap.size 52 w' A n cap (pathOf c a b) ∧ Below w.heap.size w w'
set_option maxRecDepth 100000 in
set_option maxHeartbeats 4000000 in
theorem refPath_any (a b : ByteArray) (c : Ed.Cst) (w : World) : Calls Try.prog 17 #[.string a, .string b, cstV c] w (PostR c a b w) := by
  unfold PostR distOf pathOf
  by_cases he : errOf c a b = 0
  · rw [if_pos he, if_pos he, he]
    exact refPath_ok a b c w he
  · rw [if_neg he, if_neg he]
    obtain ⟨W1, hW1, hb1, hq1, hcb⟩ := cboxF w c
    have mt := fun V => may_any a b c V
    unfold cstV PostN at mt
    unfold cstV
    have hne : (errOf c a b != 0) = true := by rw [bne_iff_ne]; exact he
    obtain ⟨E, hE⟩ : ∃ E, errOf c a b = E := ⟨_, rfl⟩
    rw [hE] at mt hne ⊢
    have MT := Lib.hid mt
    obtain ⟨q0, q1, q2, q3⟩ := hcb
    have HB := Lib.hid hb1
    clear hb1 mt he hE
    go_enter Try.func17, Try.ntmps17
    go_wp2_with fail
    rw [← hW1]
    clear hW1
    go_wp2_with (go_at_call 24; (with_reducible refine (MT.out _).mono ?_); rintro e V ⟨rfl, hb⟩; have HB2 := Lib.hid (HB.out.trans (hb.mono HB.out.size)); clear hb q0 q1 q2 q3)
    go_ret3
    exact ⟨none, 0, 0, rfl, OwnO.nil _ _ _, HB2.out⟩
end Go.Proofs.Ythojojjdamchpaa
