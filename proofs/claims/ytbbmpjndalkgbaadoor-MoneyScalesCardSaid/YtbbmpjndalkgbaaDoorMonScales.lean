/-
  The walk of the law MoneyScales.
-/
import Derived.Test.YtbbmpjndalkgbaaDoorMonWhole
import Derived.Test.YtbbmpjndalkgbaaDoorMonGaps
import Derived.Test.YtbbmpjndalkgbaaDoorBaseRows
namespace Go.Proofs.YtbbmpjndalkgbaaDoor
open Go.RowKit
set_option linter.unusedVariables false

theorem sumZ_nn {us : List Int} (h : ∀ x ∈ us, 0 ≤ x) : 0 ≤ Mo.sumZ us := by
  induction us with
  | nil => simp [Mo.sumZ]
  | cons a t ih =>
    have := ih (fun x hx => h x (List.mem_cons_of_mem _ hx))
    have := h a (List.mem_cons_self ..)
    simp only [Mo.sumZ]; omega
def Sm (us : List Int) : Prop := ∀ x ∈ us, 0 ≤ x ∧ x ≤ 1000
theorem Sm.snoc {us : List Int} (h : Sm us) {x : Int} (h0 : 0 ≤ x) (h1 : x ≤ 1000) : Sm (us ++ [x]) := by
  intro y hy
  rcases List.mem_append.1 hy with hy | hy
  · exact h y hy
  · simp at hy; subst hy; exact ⟨h0, h1⟩
theorem Sm.pos {us : List Int} (h : Sm us) : 0 < Mo.sumZ (us ++ [1]) := by
  rw [Mo.sumZ_append]
  have := sumZ_nn (fun x hx => (h x hx).1)
  simp [Mo.sumZ]; omega

theorem small_wts' {us : List Int} (K0 : Int) (k0 : 0 ≤ K0) (k1 : K0 < 1000) (h : Sm us) : Mo.wts (us.map ((1 + K0) * ·)) = true :=
  Mo.small_wts (1 + K0) (by omega) (by omega) h

set_option maxRecDepth 100000 in
set_option maxHeartbeats 3000000 in
theorem walk_moneyScales (w : World) (a0 : Int) (w0 : (Lit.int .i64 a0).wf = true) (A1 : Option Addr) (len1 cap1 : Nat) (z1 : List Int) (w1 : IsRow .u32 w A1 len1 cap1 z1) (a2 : Int) (w2 : (Lit.int .i64 a2).wf = true) (a3 : Int) (w3 : (Lit.int .u16 a3).wf = true) (hw : Rdy w) :
    Calls Tryd.prog 7 #[.int .i64 a0, .slice A1 len1 cap1, .int .i64 a2, .int .u16 a3] w fun e w' => e = .returned (.bool true) ∧ Below w.heap.size w w' := by
  have b0 := int_bd w0
  have b2 := int_bd w2
  have b3 := u16_bd w3
  obtain ⟨hlen, hrd⟩ := row_rd w1
  have hbd := fun i hi => u32_bd (row_bd w1 i hi)
  have hl := row_len w1
  have hwt := fun W (hB : Below w.heap.size w W) => weights_any W A1 cap1 (z1.take len1) (hrd.below hB) hbd (by omega)
  rw [hlen] at hwt
  have ham := fun W => amount_any a0 W b0.1 b0.2
  have hab := amount_bd a0
  have hpk := fun W => pick_any a2 1000 W (by omega) (by omega)
  have hpb : 0 ≤ a2 % 1000 ∧ a2 % 1000 < 1000 := by omega
  generalize a2 % 1000 = K0 at *
  generalize a0 % 2000000000000001 - 1000000000000000 = c at *
  have R0 := Lib.hid hw; have AM := Lib.hid ham; have WT := Lib.hid hwt; have PK := Lib.hid hpk
  clear hw ham hwt hpk w0 w1 w2 w3 hrd hbd hl hlen b0 b2
  obtain ⟨c0, c1⟩ := hab
  obtain ⟨b30, b31⟩ := b3
  obtain ⟨k0, k1⟩ := hpb
  go_enter Tryd.func7, Tryd.ntmps7
  go_wp2_with (first
    | (go_at_call 11; refine (awake_any _ R0.out).mono ?_; rintro e x1 ⟨rfl, hb⟩; have B1 := Lib.hid hb; clear hb)
    | (go_at_call 13; (with_reducible refine (AM.out _).mono ?_); rintro e w' ⟨rfl, rfl⟩)
    | (go_at_call 17; (with_reducible refine (PK.out _).mono ?_); rintro e w' ⟨rfl, rfl⟩)
    | (go_at_call 14; (with_reducible refine (WT.out _ B1.out).mono ?_); rintro e x2 ⟨A, cap, ws, rfl, h1, h2, h3, h4, hb⟩; have HR := Lib.hid h1; have HW := Lib.hid h2; have HL := Lib.hid h4; have B2 := Lib.hid (B1.out.trans (hb.mono B1.out.size)); clear hb h1 h2 h3 h4))
  have hwl := HL.out
  go_loopw [11, 39] (fun v i wr => ∃ (k : Nat) (xs : List Int), k ≤ ws.length ∧ i = .int .i64 k ∧ xs.length ≤ 2047 ∧ Hid (Sm xs) ∧ Hid (wr.ownsRow x2.heap.size 3 1 v xs.length (xs.map (Value.int .i64))) ∧ Hid (Below x2.heap.size x2 wr)) (fun _ i _ => ws.length - (intOf i).toNat)
  case atStart => exact ⟨0, [], by omega, rfl, by simp, Lib.hid (fun x hx => by simp at hx), Lib.hid (World.ownsRow_nil _ _ _ _), Lib.hid (Below.refl _ _)⟩
  case round =>
    obtain ⟨k, xs, hk, rfl, hxl, HS, HO, HB⟩ := hrel
    by_cases h1 : k < ws.length
    · obtain ⟨b, off, rfl, hbl, hc⟩ := (HR.out.below HB.out).at (by omega)
      have hc1 := hc k h1; clear hc
      obtain ⟨A', cap', rfl, hcap', -⟩ := own_rd HO.out
      have hz := Mo.wts_mem HW.out _ (Mo.getD_mem ws k h1)
      generalize ws.getD k 0 = z at *
      obtain ⟨z0, z1'⟩ := hz
      have hsz := HB.out.size
      have g1 : (k : Int) < ws.length := by omega
      by_cases h2 : xs.length < 2047
      · have g2 : (xs.length : Int) < 2047 := by omega
        go_wp2_with (first
          | (at_builtin; refine wpList_app1 _ rfl (.tmp 46) (.tmp 49) rfl x2.heap.size _ xs (by rfl) (HO.out.alloc _) wr.heap.size (z % 1001) (by rfl) (by go_simp) ?c1 ?c2 ?_))
        case c1 => omega
        case c2 => simp; omega
        intro v' w3 hown3 hgrow3
        have HO3 := Lib.hid hown3
        have HS3 := Lib.hid (HS.out.snoc (x := z % 1001) (by omega) (by omega))
        have HB3 := Lib.hid (own_below (HB.out.alloc hsz _) (Nat.le_refl _) (HO.out.alloc _) hgrow3)
        clear hown3 hgrow3
        go_wp2
        exact ⟨⟨k + 1, xs ++ [z % 1001], by omega, by go_num, by simp; omega, HS3, by first | exact HO3 | simpa using HO3, HB3⟩, by simp [intOf]; omega⟩
      · go_wp2_with fail
        exact ⟨⟨k + 1, xs, by omega, by go_num, hxl, HS, HO, HB⟩, by simp [intOf]; omega⟩
    · have hsz := HB.out.size
      clear HL HW HR AM WT PK hk
      go_wp2_with (first
        | (at_builtin; refine wpList_app1 _ rfl (.tmp 52) (.tmp 53) rfl x2.heap.size _ xs (by rfl) (HO.out.alloc _) wr.heap.size 1 (by rfl) (by go_simp) ?d1 ?d2 ?_))
      case d1 => omega
      case d2 => simp; omega
      intro v' w3 hown3 hgrow3
      have BW := Lib.hid (B2.out.trans ((own_below (HB.out.alloc hsz _) (Nat.le_refl _) (HO.out.alloc _) hgrow3).mono B2.out.size))
      have hpos := HS.out.pos
      have hsm := HS.out.snoc (x := 1) (by omega) (by omega)
      have hown4 : w3.ownsRow x2.heap.size 3 1 v' (xs ++ [1]).length ((xs ++ [1]).map (Value.int .i64)) := by simpa using hown3
      obtain ⟨A, cap, hv', hcap, hrd⟩ := own_rd hown4
      have hul : (xs ++ [1]).length ≤ 2048 := by simp; omega
      clear hown3 hown4
      generalize xs ++ [1] = us at *
      subst hv'
      have HU := Lib.hid hrd; have HSM := Lib.hid hsm; have HP := Lib.hid hpos
      clear hgrow3 hrd hsm hpos HO HB HS B1 B2 hsz
      go_wp2_with fail
      go_loopw [12, 13, 14, 57] (fun v1 v2 v3 i wr => ∃ (k : Nat) (gs ats : List Int), k ≤ us.length ∧ i = .int .i64 k ∧ gs.length ≤ 2 * k ∧ Hid (Mo.Gaps (us.take k) gs ats) ∧ Hid (Rows3 wr w3.heap.size v1 v2 v3 ((us.take k).map ((1 + K0) * ·)) gs ats) ∧ Hid (Below w3.heap.size w3 wr)) (fun _ _ _ i _ => us.length - (intOf i).toNat)
      case atStart => exact ⟨0, [], [], by omega, rfl, by simp, Lib.hid Mo.Gaps.nil, Lib.hid (Rows3.nil _ _), Lib.hid (Below.refl _ _)⟩
      case round =>
        obtain ⟨k, gs, ats, hk, rfl, hgl, HG, HR3, HB⟩ := hrel
        by_cases h1 : k < us.length
        · obtain ⟨b, off, rfl, hbl, hc⟩ := (HU.out.below HB.out).at (by omega)
          have hc1 := hc k h1; clear hc
          have hz := HSM.out _ (Mo.getD_mem us k h1)
          have htk := Mo.take_snoc us k h1
          generalize us.getD k 0 = z at *
          have hTK := Lib.hid htk
          clear htk
          obtain ⟨z0, z1'⟩ := hz
          have hsz := HB.out.size
          have g1 : (k : Int) < us.length := by omega
          have p0 := Int.mul_nonneg (show 0 ≤ 1 + K0 by omega) z0
          have p1 := Int.mul_le_mul (show 1 + K0 ≤ 1000 by omega) z1' z0 (by omega)
          obtain ⟨A2, cap2, rfl, -, -⟩ := own_rd HR3.out.r2
          have hlk : (us.take k).length = k := by rw [List.length_take]; omega
          have hatl : ats.length = k := by have := HG.out.al; rw [List.length_take] at this; omega
          go_wp2_with (first
            | (at_builtin; refine wpList_app2 _ rfl (.tmp 62) (.tmp 66) rfl w3.heap.size _ ((us.take k).map ((1 + K0) * ·)) (by rfl) (HR3.out.r1.alloc _) wr.heap.size ((1 + K0) * z) (by rfl) (by go_simp) ?c1 ?c2 ?_))
          case c1 => rw [List.length_map, List.length_take]; omega
          case c2 => simp; omega
          intro v1' wa hown hgrow hat
          have hq1 : wa.ownsRow w3.heap.size 3 1 v1' ((us.take (k + 1)).map ((1 + K0) * ·)).length (((us.take (k + 1)).map ((1 + K0) * ·)).map (Value.int .i64)) := by
            rw [hTK.out]
            simp only [List.length_map, List.length_append, hlk, List.length_singleton, List.map_append, List.map_map, List.map_cons, List.map_nil]
            simpa using hown
          have HA := Lib.hid ((HR3.out.alloc (.cells #[.int .i64 ((1 + K0) * z)] 3)).grow hq1 hgrow (by simpa using hat))
          have HBA := Lib.hid (own_below (HB.out.alloc hsz _) (Nat.le_refl _) (HR3.out.r1.alloc _) hgrow)
          clear hown hgrow hat hq1
          have HGX := HG
          go_wp2_with (first
            | (at_builtin; refine wpList_app2 _ rfl (.tmp 77) (.tmp 80) rfl w3.heap.size _ ats (by rfl) (HA.out.rot.rot.r1.alloc _) wa.heap.size (gs.length : Int) (by rfl) (by go_simp) ?e1 ?e2 ?_)
            | (at_builtin; refine wpList_app2 _ rfl (.tmp 74) (.tmp 75) rfl w3.heap.size _ gs (by rfl) (HA.out.rot.r1.alloc _) wa.heap.size 0 (by rfl) (by go_simp) ?g1 ?g2 ?_))
          case g1 => omega
          case g2 => have := HBA.out.size; simp; omega
          · intro v2' wb hown hgrow hat
            have hq2 : wb.ownsRow w3.heap.size 3 1 v2' (gs ++ [0]).length ((gs ++ [0]).map (Value.int .i64)) := by simpa using hown
            have HX := Lib.hid (((HA.out.rot.alloc (.cells #[.int .i64 0] 3)).grow hq2 hgrow (by simpa using hat)).rot.rot)
            have HBX := Lib.hid (own_below (HBA.out.alloc HBA.out.size _) (Nat.le_refl _) (HA.out.rot.r1.alloc _) hgrow)
            have HGX := Lib.hid HG.out.skip
            have hg2l : (gs ++ [0]).length ≤ 2 * k + 1 := by simp; omega
            clear hown hgrow hat hq2
            obtain ⟨A3, cap3, rfl, -, -⟩ := own_rd HX.out.r2
            generalize gs ++ [0] = gs2 at *
            go_wp2_with (first
              | (at_builtin; go_loud (refine wpList_app2 _ rfl (.tmp 77) (.tmp 80) rfl w3.heap.size _ ats (by rfl) (HX.out.rot.rot.r1.alloc _) wb.heap.size (gs2.length : Int) (by rfl) (by go_simp) ?i1 ?i2 ?_)))
            case i1 => omega
            case i2 => have := HBX.out.size; simp; omega
            intro v3' wc hown hgrow hat
            have hq3 : wc.ownsRow w3.heap.size 3 1 v3' (ats ++ [(gs2.length : Int)]).length ((ats ++ [(gs2.length : Int)]).map (Value.int .i64)) := by simpa [hatl] using hown
            have HC := Lib.hid ((HX.out.rot.rot.alloc (.cells #[.int .i64 (gs2.length : Int)] 3)).grow hq3 hgrow (by simpa using hat))
            have HBC := Lib.hid (own_below (HBX.out.alloc HBX.out.size _) (Nat.le_refl _) (HX.out.rot.rot.r1.alloc _) hgrow)
            clear hown hgrow hat hq3
            go_wp2_with (first
              | (at_builtin; refine wpList_app2 _ rfl (.tmp 82) (.tmp 84) rfl w3.heap.size _ gs2 (by rfl) (HC.out.rot.rot.r1.alloc _) wc.heap.size z (by rfl) (by go_simp) ?j1 ?j2 ?_))
            case j1 => omega
            case j2 => have := HBC.out.size; simp; omega
            intro v2'' wd hown hgrow hat
            have hq4 : wd.ownsRow w3.heap.size 3 1 v2'' (gs2 ++ [z]).length ((gs2 ++ [z]).map (Value.int .i64)) := by simpa using hown
            have HD := Lib.hid ((HC.out.rot.rot.alloc (.cells #[.int .i64 z] 3)).grow hq4 hgrow (by simpa using hat)).rot.rot
            have HBD := Lib.hid (own_below (HBC.out.alloc HBC.out.size _) (Nat.le_refl _) (HC.out.rot.rot.r1.alloc _) hgrow)
            clear hown hgrow hat hq4
            have HGN := Lib.hid ((HGX.out.next z ⟨z0, z1'⟩))
            rw [← hTK.out] at HGN
            go_wp2
            exact ⟨⟨k + 1, _, _, by omega, by go_num, by simp; omega, HGN, HD, HBD⟩, by simp [intOf]; omega⟩
          case e1 => omega
          case e2 => have := HBA.out.size; simp; omega
          · intro v3' wc hown hgrow hat
            have hq3 : wc.ownsRow w3.heap.size 3 1 v3' (ats ++ [(gs.length : Int)]).length ((ats ++ [(gs.length : Int)]).map (Value.int .i64)) := by simpa [hatl] using hown
            have HC := Lib.hid ((HA.out.rot.rot.alloc (.cells #[.int .i64 (gs.length : Int)] 3)).grow hq3 hgrow (by simpa using hat))
            have HBC := Lib.hid (own_below (HBA.out.alloc HBA.out.size _) (Nat.le_refl _) (HA.out.rot.rot.r1.alloc _) hgrow)
            clear hown hgrow hat hq3
            go_wp2_with (first
              | (at_builtin; refine wpList_app2 _ rfl (.tmp 82) (.tmp 84) rfl w3.heap.size _ gs (by rfl) (HC.out.rot.rot.r1.alloc _) wc.heap.size z (by rfl) (by go_simp) ?f1 ?f2 ?_))
            case f1 => omega
            case f2 => have := HBC.out.size; simp; omega
            intro v2'' wd hown hgrow hat
            have hq4 : wd.ownsRow w3.heap.size 3 1 v2'' (gs ++ [z]).length ((gs ++ [z]).map (Value.int .i64)) := by simpa using hown
            have HD := Lib.hid ((HC.out.rot.rot.alloc (.cells #[.int .i64 z] 3)).grow hq4 hgrow (by simpa using hat)).rot.rot
            have HBD := Lib.hid (own_below (HBC.out.alloc HBC.out.size _) (Nat.le_refl _) (HC.out.rot.rot.r1.alloc _) hgrow)
            clear hown hgrow hat hq4
            have HGN := Lib.hid ((HGX.out.next z ⟨z0, z1'⟩))
            rw [← hTK.out] at HGN
            go_wp2
            exact ⟨⟨k + 1, _, _, by omega, by go_num, by simp; omega, HGN, HD, HBD⟩, by simp [intOf]; omega⟩

        · have hke : k = us.length := by omega
          subst hke
          rw [List.take_length] at HG HR3
          obtain ⟨Am, capm, rfl, -, hrm⟩ := own_rd HR3.out.r1
          obtain ⟨A2, cap2, rfl, -, hr2⟩ := own_rd HR3.out.r2
          obtain ⟨A4, cap4, rfl, -, hr4⟩ := own_rd HR3.out.r3
          have hal := HG.out.al
          have HBX0 := HB
          have hrt := (Mo.rt_iff c).2 ⟨c0, c1⟩
          have hwu : Mo.wts us = true := by
            unfold Mo.wts
            rw [List.all_eq_true]
            intro x hx
            have := HSM.out x hx
            exact decide_eq_true (by omega)
          have hwg := HG.out.wts
          have hgs : 0 < Mo.sumZ gs := by rw [HG.out.sum]; exact HP.out
          have hq1 := split_fine c A cap us wr (HU.out.below HB.out) (by omega) ((Mo.spOk_iff c us).2 ⟨hrt, hwu, HP.out⟩)
          have hq2 := fun W (hB : Below wr.heap.size wr W) => split_fine c Am capm (us.map ((1 + K0) * ·)) W (hrm.below hB) (by simp; omega) ((Mo.spOk_iff c _).2 ⟨hrt, small_wts' K0 k0 k1 HSM.out, by rw [Mo.sumZ_scale]; exact Int.mul_pos (by omega) HP.out⟩)
          rw [Mo.split_scale c (1 + K0) (by omega) us, List.length_map] at hq2
          have hq3 := fun W (hB : Below wr.heap.size wr W) => split_fine c A2 cap2 gs W (hr2.below hB) (by omega) ((Mo.spOk_iff c gs).2 ⟨hrt, hwg, hgs⟩)
          have hwh := whole_of c us hwu HP.out c0 c1
          have hwz := whole_of c gs hwg hgs c0 c1
          have hsp := fun j hj => HG.out.split c j hj
          generalize Mo.spl c (Mo.sumZ us) (Mo.lft c (Mo.sumZ us) us) us = O at *
          generalize Mo.spl c (Mo.sumZ gs) (Mo.lft c (Mo.sumZ gs) gs) gs = Oc at *
          have hOl := hwh.len; have hOcl := hwz.len
          have hq4 := fun (W : World) (B B' : Option Addr) (cp cp' : Nat) (h1 : Rd W B O) (h2 : Rd W B' O) => same_yes B B' 0 cp cp' O W h1 h2 (by omega)
          rw [hOl] at hq4
          have hbd := hwh.bd; have hsum := hwh.sum; have hzero := hwz.zero
          rw [hal, List.length_map]
          have Q1 := Lib.hid hq1; have Q2 := Lib.hid hq2; have Q3 := Lib.hid hq3; have Q4 := Lib.hid hq4; have SP := Lib.hid hsp; have BD := Lib.hid hbd; have ZE := Lib.hid hzero
          have R4 := Lib.hid hr4; have RG := Lib.hid hr2
          clear hq1 hq2 hq3 hq4 hsp hbd hzero hwh hwz hrt hwu hwg hgs hrm hr2 hr4 HG HR3 HSM HP h1
          go_wp2_with (first
            | (go_at_call 15; (with_reducible refine Q1.out.mono ?_); rintro e y1 ⟨Ba, cpa, rfl, h1, hb⟩; have HOa := Lib.hid h1; have C1 := Lib.hid hb; clear hb h1)
            | (go_at_call 15; (with_reducible refine (Q2.out _ C1.out).mono ?_); rintro e y2 ⟨Bb, cpb, rfl, h1, hb⟩; have HOb := Lib.hid h1; have C2 := Lib.hid (C1.out.trans (hb.mono C1.out.size)); have D2 := Lib.hid hb; clear hb h1)
            | (go_at_call 15; (with_reducible refine (Q3.out _ C2.out).mono ?_); rintro e y3 ⟨Bc, cpc, rfl, h1, hb⟩; have HOc := Lib.hid h1; have C3 := Lib.hid (C2.out.trans (hb.mono C2.out.size)); have D3 := Lib.hid (D2.out.trans (hb.mono D2.out.size)); have E3 := Lib.hid hb; clear hb h1)
            | (go_at_call 19; (with_reducible refine (Q4.out _ _ _ _ _ (HOa.out.below D3.out) (HOb.out.below E3.out)).mono ?_); rintro e y4 ⟨rfl, hb⟩; have C4 := Lib.hid (C3.out.trans (hb.mono C3.out.size)); have RA := Lib.hid ((HOa.out.below D3.out).below hb); have RC := Lib.hid (HOc.out.below hb); clear hb))
          have R4' := Lib.hid (R4.out.below C4.out)
          have RG' := Lib.hid (RG.out.below C4.out)
          clear Q1 Q2 Q3 Q4 HOa HOb HOc D2 D3 E3 C1 C2 C3 R4 RG
          go_loopw [25, 133] (fun s i wr => ∃ k : Nat, k ≤ us.length ∧ i = .int .i64 k ∧ s = .int .i64 (Mo.sumZ (O.take k)) ∧ Hid (Below y4.heap.size y4 wr)) (fun _ i _ => us.length - (intOf i).toNat)
          case atStart => exact ⟨0, by omega, rfl, rfl, Lib.hid (Below.refl _ _)⟩
          case round =>
            obtain ⟨k, hk, rfl, rfl, HB⟩ := hrel
            have hSb := sumZ_take_bd O 1000000000000001 us.length (by omega) BD.out k hk
            by_cases h1 : k < us.length
            · obtain ⟨p, hp1, hp2, hp3⟩ := SP.out k h1
              obtain ⟨b4, o4, rfl, hb4, hc4⟩ := (R4'.out.below HB.out).at (by omega)
              have h4 := hc4 k (by omega); clear hc4
              obtain ⟨b5, o5, rfl, hb5, hc5⟩ := (RC.out.below HB.out).at (by omega)
              have h5 := hc5 p (by omega); clear hc5
              obtain ⟨b6, o6, rfl, hb6, hc6⟩ := (RA.out.below HB.out).at (by omega)
              have h6 := hc6 k (by omega); clear hc6
              have hb := BD.out k h1
              have hS1 := Mo.sumZ_take O k (by omega)
              rw [hp1] at h4
              rw [hp3] at h5
              generalize O.getD k 0 = y at *
              generalize hS : Mo.sumZ (O.take k) = S at *
              have HS := Lib.hid hS1
              clear hS1 hS hp1 hp3
              have g1 : (k : Int) < us.length := by omega
              have g2 : (p : Int) < gs.length := by omega
              have g3 : (k : Int) ≤ 2048 := by omega
              have hSb2 : -2048000000002048 * 1000 ≤ S ∧ S ≤ 2048000000002048 * 1000 := by omega
              obtain ⟨s0, s1⟩ := hSb2
              obtain ⟨y0, y1'⟩ := hb
              clear hSb
              go_wp2_with fail
              go_quiet (fail)
              go_wp2_with fail
              exact ⟨⟨k + 1, by omega, by go_num, by rw [HS.out], Lib.hid (below_drewN HB.out nq)⟩, by simp [intOf]; omega⟩
            · have hke : k = us.length := by omega
              subst hke
              rw [List.take_of_length_le (by omega), hsum]
              have HB0 := HB
              clear hk hSb h1
              go_wp2_with fail
              go_loopw [157] (fun i wr => ∃ k : Nat, k ≤ gs.length ∧ i = .int .i64 k ∧ Hid (Below y4.heap.size y4 wr)) (fun i _ => gs.length - (intOf i).toNat)
              case atStart => exact ⟨0, by omega, rfl, HB0⟩
              case round =>
                obtain ⟨k, hk, rfl, HB⟩ := hrel
                by_cases h1 : k < gs.length
                · obtain ⟨b4, o4, rfl, hb4, hc4⟩ := (RG'.out.below HB.out).at (by omega)
                  have h4 := hc4 k (by omega); clear hc4
                  obtain ⟨b5, o5, rfl, hb5, hc5⟩ := (RC.out.below HB.out).at (by omega)
                  have h5 := hc5 k (by omega); clear hc5
                  have hz := ZE.out k h1
                  generalize gs.getD k 0 = x at *
                  generalize Oc.getD k 0 = y at *
                  have g1 : (k : Int) < gs.length := by omega
                  by_cases hx : x = 0
                  · subst hx
                    have := hz rfl
                    subst this
                    clear hz
                    go_wp2_with fail
                    exact ⟨⟨k + 1, by omega, by go_num, HB⟩, by simp [intOf]; omega⟩
                  · have hxe : (x == 0) = false := by rw [beq_eq_false_iff_ne]; exact hx
                    clear hz hx
                    go_wp2_with fail
                    exact ⟨⟨k + 1, by omega, by go_num, HB⟩, by simp [intOf]; omega⟩
                · have hke : k = gs.length := by omega
                  subst hke
                  go_wp2_with fail
                  go_ret
                  exact ⟨ret_bool (by simp), BW.out.trans ((HBX0.out.trans ((C4.out.trans (HB.out.mono C4.out.size)).mono HBX0.out.size)).mono BW.out.size)⟩

end Go.Proofs.YtbbmpjndalkgbaaDoor
