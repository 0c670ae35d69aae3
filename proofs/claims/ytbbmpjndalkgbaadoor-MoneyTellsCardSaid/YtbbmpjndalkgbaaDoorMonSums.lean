/-
  The walk of the law MoneySums.
-/
import Derived.Test.YtbbmpjndalkgbaaDoorMonRdy
import Derived.Test.YtbbmpjndalkgbaaDoorBaseApp
namespace Go.Proofs.YtbbmpjndalkgbaaDoor
open Go.RowKit
set_option linter.unusedVariables false

theorem add_any (a b : Int) (w : World) :
    Calls Tryd.prog 20 #[.int .i64 a, .int .i64 b] w fun e w' => e = .returned (.tuple #[.int .i64 (Mo.smV [a, b]), .int .i64 (Mo.smE [a, b])]) ∧ Below w.heap.size w w' := by
  have hq : Calls Tryd.prog 16 #[.slice (some ⟨w.heap.size, 0, none⟩) 2 2] (w.alloc (.cells #[.int .i64 a, .int .i64 b] 3)) fun e w' => e = .returned (.tuple #[.int .i64 (Mo.smV [a, b]), .int .i64 (Mo.smE [a, b])]) ∧ (w.alloc (.cells #[.int .i64 a, .int .i64 b] 3)) = w' :=
    mSum_any (some ⟨w.heap.size, 0, none⟩) 2 [a, b] _ (rd_new w [a, b] 3) (by simp)
  have HQ := Lib.hid hq; clear hq
  go_enter Tryd.func20, Tryd.ntmps20
  go_wp2_with (go_at_call 16; refine HQ.out.mono ?_; rintro e w' ⟨rfl, rfl⟩)
  go_ret2
  exact ⟨rfl, (Below.refl _ _).alloc (Nat.le_refl _) _⟩

/-- the law's amount of a number -/
def am (z : Int) : Int := z % 2000000000000001 - 1000000000000000
def ams (zs : List Int) (k : Nat) : List Int := (zs.take k).map am
theorem ams_succ (zs : List Int) (k : Nat) (h : k < zs.length) : ams zs (k + 1) = ams zs k ++ [am (zs.getD k 0)] := by
  unfold ams; rw [Mo.take_snoc zs k h]; simp
theorem ams_len (zs : List Int) (k : Nat) (h : k ≤ zs.length) : (ams zs k).length = k := by unfold ams; rw [List.length_map, List.length_take]; omega
theorem ams_rt (zs : List Int) (k : Nat) : Mo.allRt (ams zs k) = true := by
  unfold ams Mo.allRt
  rw [List.all_eq_true]
  intro x hx
  obtain ⟨z, -, rfl⟩ := List.mem_map.1 hx
  exact (Mo.rt_iff _).2 (amount_bd z)
theorem allRt_reverse (xs : List Int) : Mo.allRt xs.reverse = Mo.allRt xs := by unfold Mo.allRt; rw [List.all_reverse]
theorem sm_reverse (xs : List Int) : Mo.smE xs.reverse = Mo.smE xs ∧ Mo.smV xs.reverse = Mo.smV xs := by
  have e : Mo.smE xs.reverse = Mo.smE xs := by unfold Mo.smE; rw [List.length_reverse, allRt_reverse, Mo.sumZ_reverse]
  exact ⟨e, by unfold Mo.smV; rw [e, Mo.sumZ_reverse]⟩
/-- of amounts: 0, or too long -/
theorem sm_two (xs : List Int) (h : xs.length ≤ 4096) (hr : Mo.allRt xs = true) : (Mo.smE xs = 0 ∧ Mo.smV xs = Mo.sumZ xs ∧ Mo.rt (Mo.sumZ xs) = true) ∨ (Mo.smE xs = 3 ∧ Mo.smV xs = 0 ∧ Mo.rt (Mo.sumZ xs) = false) := by
  cases hc : Mo.rt (Mo.sumZ xs)
  · exact .inr ⟨(Mo.smE_long h hr hc).1, (Mo.smE_long h hr hc).2, rfl⟩
  · exact .inl ⟨(Mo.smE_ok h hr hc).1, (Mo.smE_ok h hr hc).2, rfl⟩
theorem sm_both (xs : List Int) (k : Nat) (h : xs.length ≤ 4096) (hr : Mo.allRt xs = true) (h1 : Mo.smE (xs.take k) = 0) (h2 : Mo.smE (xs.drop k) = 0) :
    Mo.smV [Mo.smV (xs.take k), Mo.smV (xs.drop k)] = Mo.smV xs ∧ Mo.smE [Mo.smV (xs.take k), Mo.smV (xs.drop k)] = Mo.smE xs := by
  have hm := hr
  unfold Mo.allRt at hm
  rw [List.all_eq_true] at hm
  have r1 : Mo.allRt (xs.take k) = true := by unfold Mo.allRt; rw [List.all_eq_true]; exact fun x hx => hm x (List.mem_of_mem_take hx)
  have r2 : Mo.allRt (xs.drop k) = true := by unfold Mo.allRt; rw [List.all_eq_true]; exact fun x hx => hm x (List.mem_of_mem_drop hx)
  have e : Mo.sumZ (xs.take k) + Mo.sumZ (xs.drop k) = Mo.sumZ xs := by rw [← Mo.sumZ_append, List.take_append_drop]
  rcases sm_two (xs.take k) (by rw [List.length_take]; omega) r1 with ⟨-, v1, t1⟩ | ⟨x, -, -⟩
  · rcases sm_two (xs.drop k) (by rw [List.length_drop]; omega) r2 with ⟨-, v2, t2⟩ | ⟨x, -, -⟩
    · rw [v1, v2]
      have hs : Mo.sumZ [Mo.sumZ (xs.take k), Mo.sumZ (xs.drop k)] = Mo.sumZ xs := by simp only [Mo.sumZ]; omega
      have hE : Mo.smE [Mo.sumZ (xs.take k), Mo.sumZ (xs.drop k)] = Mo.smE xs := by
        unfold Mo.smE
        rw [hs, hr, show Mo.allRt [Mo.sumZ (xs.take k), Mo.sumZ (xs.drop k)] = true by simp [Mo.allRt, t1, t2], if_neg (by simp), if_neg (show ¬ 4096 < xs.length by omega)]
      exact ⟨by unfold Mo.smV; rw [hE, hs], hE⟩
    · omega
  · omega
theorem rev_take (xs : List Int) (k : Nat) (h : k < xs.length) : xs.reverse.take (k + 1) = xs.reverse.take k ++ [xs.getD (xs.length - 1 - k) 0] := by
  rw [Mo.take_snoc _ _ (by simpa using h)]
  congr 2
  rw [List.getD_eq_getElem?_getD, List.getD_eq_getElem?_getD, List.getElem?_reverse h]

set_option maxRecDepth 100000 in
set_option maxHeartbeats 4000000 in
theorem walk_moneySums (w : World) (A0 : Option Addr) (len0 cap0 : Nat) (z0 : List Int) (w0 : IsRow .i64 w A0 len0 cap0 z0) (a1 : Int) (w1 : (Lit.int .u16 a1).wf = true) (hw : Rdy w) :
    Calls Tryd.prog 8 #[.slice A0 len0 cap0, .int .u16 a1] w fun e w' => e = .returned (.bool true) ∧ Below w.heap.size w w' := by
  have b1 := u16_bd w1
  clear w1
  obtain ⟨hlen, hrd⟩ := row_rd w0
  have hbd := fun i hi => int_bd (row_bd w0 i hi)
  have hl := row_len w0
  have R0 := Lib.hid hw; clear hw
  generalize z0.take len0 = zs at *
  subst hlen
  have D0 : Hid (Rd w A0 zs) := hrd
  have HBD := Lib.hid hbd
  clear w0 hrd hbd
  go_enter Tryd.func8, Tryd.ntmps8
  go_wp2_with (first
    | (go_at_call 11; refine (awake_any _ R0.out).mono ?_; rintro e x1 ⟨rfl, hb⟩; have B1 := Lib.hid hb; clear hb))
  go_loopw [5, 7] (fun v i wr => ∃ k : Nat, k ≤ zs.length ∧ k ≤ 4096 ∧ i = .int .i64 k ∧ Hid (wr.ownsRow w.heap.size 3 1 v (ams zs k).length ((ams zs k).map (Value.int .i64))) ∧ Hid (Below w.heap.size w wr)) (fun _ i _ => 4096 - (intOf i).toNat)
  case atStart => exact ⟨0, by omega, by omega, rfl, Lib.hid (World.ownsRow_nil _ _ _ _), B1⟩
  case round =>
    obtain ⟨k, hk, hk2, rfl, HO, HB⟩ := hrel
    by_cases h12 : k < zs.length ∧ k < 4096
    · obtain ⟨h1, h2⟩ := h12
      · obtain ⟨b, off, rfl, hbl, hc⟩ := (D0.out.below HB.out).at (by omega)
        have hc1 := hc k h1; clear hc
        have hz := HBD.out k h1
        have hsn := ams_succ zs k h1
        have hln := ams_len zs k hk
        have hsz := HB.out.size
        have ham := fun W => amount_any (zs.getD k 0) W hz.1 hz.2
        have hame : (zs.getD k 0) % 2000000000000001 - 1000000000000000 = am (zs.getD k 0) := rfl
        rw [hame] at ham
        generalize am (zs.getD k 0) = y at *
        generalize zs.getD k 0 = z at *
        have HA := Lib.hid ham; have HS := Lib.hid hsn; have HL := Lib.hid hln
        clear ham hsn hln hame hz
        have g1 : (k : Int) < zs.length := by omega
        have g2 : (k : Int) < 4096 := by omega
        go_wp2_with (first
          | (go_at_call 13; refine (HA.out _).mono ?_; rintro e w' ⟨rfl, rfl⟩)
          | (at_builtin; refine wpList_app1 _ rfl (.tmp 32) (.tmp 38) rfl w.heap.size _ (ams zs k) (by rfl) (HO.out.alloc _) wr.heap.size y (by rfl) (by go_simp) ?c1 ?c2 ?_))
        case c1 => rw [HL.out]; omega
        case c2 => simp; omega
        intro v' w3 hown3 hgrow3
        have HO3 := Lib.hid (show w3.ownsRow w.heap.size 3 1 v' (ams zs (k + 1)).length ((ams zs (k + 1)).map (Value.int .i64)) by rw [HS.out]; simpa using hown3)
        have HB3 := Lib.hid (own_below (HB.out.alloc hsz _) (Nat.le_refl _) (HO.out.alloc _) hgrow3)
        clear hown3 hgrow3
        go_wp2
        exact ⟨⟨k + 1, by omega, by omega, by go_num, HO3, HB3⟩, by simp [intOf]; omega⟩
    · have gF : decide (k < zs.length) = false ∨ (decide (k < zs.length) = true ∧ decide ((k : Int) < 4096) = false) := by
        by_cases c : k < zs.length
        · exact .inr ⟨decide_eq_true c, decide_eq_false (by omega)⟩
        · exact .inl (decide_eq_false c)
      rcases gF with f1 | ⟨f1, f2⟩
      all_goals
        have ho2 := own_rd2 HO.out
        obtain ⟨A, cap, hv, hcap, hrd⟩ := own_rd HO.out
        subst hv
        have hA : (A = none ∧ cap = 0 ∧ ams zs k = []) ∨ (∃ g, A = some ⟨g, 0, none⟩) ∧ cap ≤ 9223372036854775807 := by
          rcases ho2 with ⟨x, y⟩ | ⟨g, cp, x, -, y, -⟩
          · simp at x; exact .inl ⟨x.1, x.2.2, y⟩
          · simp at x; exact .inr ⟨⟨g, x.1⟩, by omega⟩
        clear ho2
        have HAA := Lib.hid hA; clear hA
        have hxl := ams_len zs k hk
        have hrt := ams_rt zs k
        generalize ams zs k = xs at *
        subst hxl
        obtain ⟨wo, hwo⟩ : ∃ wo : World, wo = wr := ⟨_, rfl⟩
        rw [← hwo] at hrd HB ⊢
        clear hwo HO
        have HX := Lib.hid hrd; have HRT := Lib.hid hrt
        clear hrd hrt D0 HBD h12 hk hl
        go_wp2_with fail
        clear f1
        try clear f2
        go_loopw [6, 42] (fun v i wr => ∃ k : Nat, k ≤ xs.length ∧ i = .int .i64 k ∧ Hid (wr.ownsRow wo.heap.size 3 1 v (xs.reverse.take k).length ((xs.reverse.take k).map (Value.int .i64))) ∧ Hid (Below wo.heap.size wo wr)) (fun _ i _ => xs.length - (intOf i).toNat)
        case atStart => exact ⟨0, by omega, rfl, Lib.hid (World.ownsRow_nil _ _ _ _), Lib.hid (Below.refl _ _)⟩
        case round =>
          obtain ⟨k, hk, rfl, HO, HBX⟩ := hrel
          by_cases h1 : k < xs.length
          · obtain ⟨b, off, rfl, hbl, hc⟩ := (HX.out.below HBX.out).at (by omega)
            have hc1 := hc (xs.length - 1 - k) (by omega); clear hc
            have hsn := rev_take xs k h1
            have hln : (xs.reverse.take k).length = k := by rw [List.length_take, List.length_reverse]; omega
            have hsz := HBX.out.size
            generalize xs.getD (xs.length - 1 - k) 0 = y at *
            have HS := Lib.hid hsn; have HL := Lib.hid hln
            clear hsn hln
            have g0 : (0 : Int) ≤ (xs.length : Int) - 1 - (k : Int) := by omega
            have g1 : (xs.length : Int) - 1 - (k : Int) < xs.length := by omega
            have g3 : ((xs.length : Int) - 1 - (k : Int)).toNat = xs.length - 1 - k := by omega
            go_wp2_with (first
              | (at_builtin; refine wpList_app1 _ rfl (.tmp 45) (.tmp 54) rfl wo.heap.size _ (xs.reverse.take k) (by rfl) (HO.out.alloc _) wr.heap.size y (by rfl) (by go_simp) ?c1 ?c2 ?_))
            case c1 => rw [HL.out]; omega
            case c2 => simp; omega
            intro v' w3 hown3 hgrow3
            have HO3 := Lib.hid (show w3.ownsRow wo.heap.size 3 1 v' (xs.reverse.take (k + 1)).length ((xs.reverse.take (k + 1)).map (Value.int .i64)) by rw [HS.out]; simp only [List.length_append, HL.out, List.length_singleton, List.map_append, List.map_reverse, List.map_take, List.map_cons, List.map_nil]; simpa using hown3)
            have HB3 := Lib.hid (own_below (HBX.out.alloc hsz _) (Nat.le_refl _) (HO.out.alloc _) hgrow3)
            clear hown3 hgrow3
            go_wp2
            exact ⟨⟨k + 1, by omega, by go_num, HO3, HB3⟩, by simp [intOf]; omega⟩
          · have hke : k = xs.length := by omega
            subst hke
            have htk : xs.reverse.take xs.length = xs.reverse := List.take_of_length_le (by simp)
            rw [htk] at HO
            clear htk
            obtain ⟨A2, cap2, hv2, hcap2, hrd2⟩ := own_rd HO.out
            rw [List.length_reverse] at hv2 hcap2
            subst hv2
            have hs1 := mSum_any A cap xs wr (HX.out.below HBX.out) (by omega)
            have hs2 := mSum_any A2 cap2 xs.reverse wr hrd2 (by simp; omega)
            rw [List.length_reverse, (sm_reverse xs).1, (sm_reverse xs).2] at hs2
            have htwo := sm_two xs hk2 HRT.out
            obtain ⟨kk, hkk⟩ : ∃ kk : Nat, (kk : Int) = a1 % ((xs.length : Int) + 1) := ⟨(a1 % ((xs.length : Int) + 1)).toNat, Int.toNat_of_nonneg (Int.emod_nonneg _ (by omega))⟩
            have hkl : kk ≤ xs.length := by have := Int.emod_lt_of_pos a1 (show (0 : Int) < (xs.length : Int) + 1 by omega); omega
            have hpk : ∀ W, Calls Tryd.prog 17 #[.int .i64 a1, .int .i64 ((xs.length : Int) + 1)] W fun e w' => e = .returned (.int .i64 kk) ∧ W = w' := by
              intro W; rw [hkk]; exact pick_any a1 _ W (by omega) (by omega)
            have hbo := sm_both xs kk hk2 HRT.out
            have hx := HX.out.below HBX.out
            have hgA : (A = none ∧ cap = 0 ∧ xs = []) ∨ (∃ g, A = some ⟨g, 0, none⟩) ∧ cap ≤ 9223372036854775807 := HAA.out
            rcases hgA with ⟨rfl, rfl, rfl⟩ | ⟨⟨g, rfl⟩, gA2⟩
            · have hk0 : kk = 0 := by simpa using hkl
              subst hk0
              have e1 : Mo.smV [] = 0 := rfl
              have e2 : Mo.smE [] = 0 := rfl
              have had := fun W => add_any 0 0 W
              rw [show Mo.smV [0, 0] = 0 from rfl, show Mo.smE [0, 0] = 0 from rfl] at had
              rw [e1, e2] at hs1 hs2
              have hs0 := fun W => mSum_any none 0 [] W (Rd.nil _ _) (by simp)
              rw [e1, e2] at hs0
              simp only [List.length_nil] at hs0 hs1 hs2
              have hpk0 : ∀ W, Calls Tryd.prog 17 #[.int .i64 a1, .int .i64 1] W fun e w' => e = .returned (.int .i64 0) ∧ W = w' := fun W => hpk W
              have S0 := Lib.hid hs0; have S2 := Lib.hid hs2; have PK := Lib.hid hpk0; have AD := Lib.hid had
              clear hs0 hs1 hs2 hpk hpk0 had htwo hbo hkk hrd2 HO e1 e2 hx
              obtain ⟨b1', b2'⟩ := b1
              go_wp2_with (first
                | (go_at_call 16; (with_reducible refine (S0.out _).mono ?_); rintro e w' ⟨rfl, rfl⟩)
                | (go_at_call 16; (with_reducible refine S2.out.mono ?_); rintro e w' ⟨rfl, rfl⟩)
                | (go_at_call 20; (with_reducible refine (AD.out _).mono ?_); rintro e x9 ⟨rfl, hb⟩; have B9 := Lib.hid hb; clear hb)
                | (go_at_call 17; (with_reducible refine (PK.out _).mono ?_); rintro e w' ⟨rfl, rfl⟩))
              go_ret
              exact ⟨rfl, (HB.out.trans (HBX.out.mono HB.out.size)).trans (B9.out.mono ((HB.out.trans (HBX.out.mono HB.out.size)).size))⟩
            · have hlt : (xs.take kk).length = kk := by rw [List.length_take]; omega
              have hld : (xs.drop kk).length = xs.length - kk := List.length_drop
              have hs3 := mSum_any _ cap (xs.take kk) wr (rd_take hx kk) (by omega)
              rw [hlt] at hs3
              have hs4 := mSum_any _ (cap - kk) (xs.drop kk) wr (rd_drop hx kk) (by omega)
              rw [hld, Nat.zero_add] at hs4
              have hs5 : xs.length ≤ kk → _ := fun h5 => mSum_any (some ⟨g, 0, none⟩) 0 (xs.drop kk) wr (by intro h0; omega) (by omega)
              rw [hld] at hs5
              have hmem := HRT.out
              unfold Mo.allRt at hmem
              rw [List.all_eq_true] at hmem
              have hg := sm_two (xs.take kk) (by omega) (by unfold Mo.allRt; rw [List.all_eq_true]; exact fun x hx => hmem x (List.mem_of_mem_take hx))
              have hh := sm_two (xs.drop kk) (by omega) (by unfold Mo.allRt; rw [List.all_eq_true]; exact fun x hx => hmem x (List.mem_of_mem_drop hx))
              have hse : (Mo.smE xs = 0 ∨ (Mo.smE xs = 3 ∧ Mo.smV xs = 0)) := by rcases htwo with ⟨x, -, -⟩ | ⟨x, y, -⟩ <;> omega
              have hgg : Mo.smE (xs.take kk) = 0 ∨ Mo.smE (xs.take kk) = 3 := by rcases hg with ⟨x, -, -⟩ | ⟨x, y, -⟩ <;> omega
              have hhh : Mo.smE (xs.drop kk) = 0 ∨ Mo.smE (xs.drop kk) = 3 := by rcases hh with ⟨x, -, -⟩ | ⟨x, y, -⟩ <;> omega
              have had := fun W => add_any (Mo.smV (xs.take kk)) (Mo.smV (xs.drop kk)) W
              have had2 : Mo.smE (xs.take kk) = 0 → Mo.smE (xs.drop kk) = 0 → ∀ W, Calls Tryd.prog 20 #[.int .i64 (Mo.smV (xs.take kk)), .int .i64 (Mo.smV (xs.drop kk))] W fun e w' => e = .returned (.tuple #[.int .i64 (Mo.smV xs), .int .i64 (Mo.smE xs)]) ∧ Below W.heap.size W w' := by
                intro z1 z2 W
                have := had W
                rw [(hbo z1 z2).1, (hbo z1 z2).2] at this
                exact this
              clear hmem hg hh htwo hbo had hx
              generalize Mo.smV (xs.take kk) = sa at *
              generalize Mo.smE (xs.take kk) = ea at *
              generalize Mo.smV (xs.drop kk) = sb at *
              generalize Mo.smE (xs.drop kk) = eb at *
              generalize Mo.smV xs = sv at *
              generalize Mo.smE xs = se at *
              have S1 := Lib.hid hs1; have S2 := Lib.hid hs2; have S3 := Lib.hid hs3; have S4 := Lib.hid hs4; have S5 := Lib.hid hs5; have PK := Lib.hid hpk; have AD := Lib.hid had2
              clear hs1 hs2 hs3 hs4 hs5 hpk hkk hrd2 HO had2 hlt hld
              obtain ⟨b1', b2'⟩ := b1
              rcases hse with rfl | ⟨rfl, rfl⟩ <;> rcases hgg with rfl | rfl <;> rcases hhh with rfl | rfl
              all_goals
                go_wp2_with (first
                  | (go_at_call 16; (with_reducible refine S1.out.mono ?_); rintro e w' ⟨rfl, rfl⟩)
                  | (go_at_call 16; (with_reducible refine S2.out.mono ?_); rintro e w' ⟨rfl, rfl⟩)
                  | (go_at_call 16; (with_reducible refine S3.out.mono ?_); rintro e w' ⟨rfl, rfl⟩)
                  | (go_at_call 16; (with_reducible refine S4.out.mono ?_); rintro e w' ⟨rfl, rfl⟩)
                  | (go_at_call 16; (with_reducible refine (S5.out (by omega)).mono ?_); rintro e w' ⟨rfl, rfl⟩)
                  | (go_at_call 20; (with_reducible refine (AD.out (by trivial) (by trivial) _).mono ?_); rintro e x9 ⟨rfl, hb⟩; have B9 := Lib.hid hb; clear hb)
                  | (go_at_call 17; (with_reducible refine (PK.out _).mono ?_); rintro e w' ⟨rfl, rfl⟩))
              all_goals go_ret
              all_goals first
                | exact ⟨rfl, HB.out.trans (HBX.out.mono HB.out.size)⟩
                | exact ⟨rfl, (HB.out.trans (HBX.out.mono HB.out.size)).trans (B9.out.mono ((HB.out.trans (HBX.out.mono HB.out.size)).size))⟩

end Go.Proofs.YtbbmpjndalkgbaaDoor
