/-
  EditLeast at any arguments.
-/
import Derived.Test.YticghbimldohoaaEdiBefore
namespace Go.Proofs.Yticghbimldohoaa
open Go.RowKit Go.Shelf
set_option linter.unusedVariables false
set_option linter.unusedSimpArgs false

/-- Apply, where the script goes through -/
theorem apply_yes (A : Option Addr) (len cap : Nat) (l : List (Nat × Nat)) (s t : ByteArray) (V : World) (hl : l.length = len) (hby : ∀ o, o ∈ l → o.2 < 256) (hrd : RdO V A l) (h1 : s.size ≤ 60) (h2 : len ≤ 120) (ha : Ed.app l (tx s) = some (tx t)) :
    Calls Try.prog 19 #[.string s, .slice A len cap] V fun e w' => e = .returned (.tuple #[.string t, .int .i64 0]) ∧ Below V.heap.size V w' := by
  refine (apply_any A len cap l s V hl hby hrd).mono ?_
  rintro e w' ⟨rfl, h⟩
  obtain ⟨e1, e2⟩ := app_some (by omega) ha
  refine ⟨?_, h⟩
  rw [e1, e2]
  rfl
theorem apply_no (A : Option Addr) (len cap : Nat) (l : List (Nat × Nat)) (s : ByteArray) (V : World) (hl : l.length = len) (hby : ∀ o, o ∈ l → o.2 < 256) (hrd : RdO V A l) (h1 : s.size ≤ 60) (h2 : len ≤ 120) (ha : Ed.app l (tx s) = none) :
    Calls Try.prog 19 #[.string s, .slice A len cap] V fun e w' => e = .returned (.tuple #[.string ⟨#[]⟩, .int .i64 60]) ∧ Below V.heap.size V w' := by
  refine (apply_any A len cap l s V hl hby hrd).mono ?_
  rintro e w' ⟨rfl, h⟩
  obtain ⟨e1, e2⟩ := app_none (by omega) ha
  refine ⟨?_, h⟩
  rw [e1, e2]

set_option maxRecDepth 100000 in
set_option maxHeartbeats 8000000 in
theorem walk_editLeast (w : World) (s : ByteArray) (ws : s.size ≤ maxLen) (A : Option Addr) (len cap : Nat) (l : List (Nat × Nat)) (hl : l.length = len) (hby : ∀ o, o ∈ l → o.2 < 256) (hrd : RdO w A l) (hmx : len ≤ maxLen) (c : Ed.Cst) :
    Calls Try.prog 6 #[.string s, .slice A len cap, cstV c] w (PostB true w) := by
  obtain ⟨W1, hW1, hb1, hq1, hcb⟩ := cbox w c
  have aw := awake_any W1
  have rt := fun V => right_any c V
  have AW := Lib.hid aw; have L0 := Lib.hid (show LS w W1 w.heap.size c from ⟨hb1, hcb⟩)
  by_cases h1 : s.size ≤ 60
  · have g1 : decide ((60 : Int) < (s.size : Int)) = false := decide_eq_false (by omega)
    by_cases h2 : len ≤ 120
    · have g2 : decide ((120 : Int) < (len : Int)) = false := decide_eq_false (by omega)
      by_cases hc : c.ok
      · have hr : ∀ V, Calls Try.prog 18 #[cstV c] V fun e w' => e = .returned (.bool true) ∧ Below V.heap.size V w' := fun V => (rt V).mono fun e w' ⟨h1, h2⟩ => ⟨by rw [h1, decide_eq_true hc], h2⟩
        have HR0 := Lib.hid hr
        cases ha : Ed.app l (tx s) with
        | none =>
          have hap := fun V (h : Below w.heap.size w V) => apply_no A len cap l s V hl hby (hrd.below h) h1 h2 ha
          unfold cstV at hr ⊢
          have HR := Lib.hid hr; have HAP := Lib.hid hap
          clear hr HR0 hap rt aw hcb hb1 hby hrd hl ha h1 h2
          go_enter Try.func6, Try.ntmps6
          go_wp2_with fail
          rw [← hW1]
          clear hW1
          go_wp2_with (first
            | (go_at_call 11; (with_reducible refine AW.out.mono ?_); rintro e V ⟨rfl, hb⟩; have h1 := L0.out.next hb; have L1 := Lib.hid h1; obtain ⟨q0, q1, q2, q3⟩ := h1.cb; clear hb h1)
            | (go_at_call 18; (with_reducible refine (HR.out _).mono ?_); rintro e V2 ⟨rfl, hb⟩; have h1 := L1.out.next hb; have L2 := Lib.hid h1; clear hb h1 q0 q1 q2 q3)
            | (go_at_call 19; (with_reducible refine (HAP.out _ L2.out.bel).mono ?_); rintro e V3 ⟨rfl, hb⟩; have L3 := Lib.hid (L2.out.next hb); clear hb))
          go_ret
          exact ⟨rfl, L3.out.bel⟩
        | some u =>
          obtain ⟨t, ht⟩ : ∃ t : ByteArray, tx t = u := ⟨⟨u.toArray⟩, tx_mk u⟩
          subst ht
          have hap := fun V (h : Below w.heap.size w V) => apply_yes A len cap l s t V hl hby (hrd.below h) h1 h2 ha
          by_cases h3 : t.size ≤ 60
          · have g3 : decide ((60 : Int) < (t.size : Int)) = false := decide_eq_false (by omega)
            obtain ⟨n, hn⟩ : ∃ n, Ed.D c (tx s) (tx t) = n := ⟨_, rfl⟩
            obtain ⟨L, hL⟩ : ∃ L, Ed.path c (tx s) (tx t) = L := ⟨_, rfl⟩
            obtain ⟨pr, hpr⟩ : ∃ pr, Ed.price c l = pr := ⟨_, rfl⟩
            have hlst := Ed.least c l _ _ hby ha
            rw [hn, hpr] at hlst
            obtain ⟨p1, p2, p3, p4⟩ := Ed.path_ok c _ (tx s) (tx t) (Nat.le_refl _)
            have pf := Ed.path_first c l _ _ hby ha
            rw [hL] at p1 p2 p3 p4 pf
            rw [hn] at p2 pf
            rw [hpr] at pf
            rw [tx_len, tx_len] at p3
            have d1 := fun V (h : Below w.heap.size w V) => cost_in A len cap l c V hc hl h2 (app_kinds l _ _ hby ha) (hrd.below h)
            rw [hpr] at d1
            have d2 := fun V => dist_in hc s t h1 h3 hn V
            have d3 := fun V => path_in hc s t h1 h3 n hn L hL V
            have d4 := fun A' m' cap' V (hl' : L.length = m') (hrd' : RdO V A' L) => apply_yes A' m' cap' L s t V hl' (fun o ho => (p4 o ho).2.2.1) hrd' h1 (by omega) p1
            have d5 := fun A' m' cap' V (hl' : L.length = m') (hrd' : RdO V A' L) => cost_in A' m' cap' L c V hc hl' (by omega) (fun o ho => ⟨(p4 o ho).1, (p4 o ho).2.1⟩) hrd'
            rw [p2] at d5
            have d6 : pr ≤ n → ∀ A' m' cap' V (hb : Below w.heap.size w V) (hl' : L.length = m') (hrd' : RdO V A' L), Calls Try.prog 22 #[.slice A' m' cap', .slice A len cap] V (PostB true V) := fun hle A' m' cap' V hb hl' hrd' => by
              have := before_any A' A m' len cap' cap L l V hl' hl (by omega) (by omega) hrd' (hrd.below hb)
              rwa [pf (by omega)] at this
            unfold cstV at hr d1 d2 d3 d5 ⊢
            have HR := Lib.hid hr; have HAP := Lib.hid hap; have D1 := Lib.hid d1; have D2 := Lib.hid d2; have D3 := Lib.hid d3; have D4 := Lib.hid d4; have D5 := Lib.hid d5; have D6 := Lib.hid d6
            have c1 : decide (pr < n) = false := decide_eq_false (by omega)
            have hcase : decide (n < pr) = true ∨ (decide (n < pr) = false ∧ Hid (pr ≤ n)) := by
              by_cases h : n < pr
              · exact .inl (decide_eq_true h)
              · exact .inr ⟨decide_eq_false h, Lib.hid (by omega)⟩
            clear hr HR0 hap rt aw hcb hb1 hby hrd hl ha h1 h2 h3 hn hL hpr hlst p1 p2 p3 p4 pf d1 d2 d3 d4 d5 d6 hc
            rcases hcase with c2 | ⟨c2, HLE⟩
            all_goals
              go_enter Try.func6, Try.ntmps6
              go_wp2_with fail
              rw [← hW1]
              clear hW1
              go_wp2_with (first
                | (go_at_call 11; (with_reducible refine AW.out.mono ?_); rintro e V ⟨rfl, hb⟩; have h1 := L0.out.next hb; have L1 := Lib.hid h1; obtain ⟨q0, q1, q2, q3⟩ := h1.cb; clear hb h1)
                | (go_at_call 18; (with_reducible refine (HR.out _).mono ?_); rintro e V2 ⟨rfl, hb⟩; have h1 := L1.out.next hb; have L2 := Lib.hid h1; clear hb h1 q0 q1 q2 q3)
                | (go_at_call 19; (with_reducible refine (HAP.out _ L2.out.bel).mono ?_); rintro e V3 ⟨rfl, hb⟩; have h1 := L2.out.next hb; have L3 := Lib.hid h1; obtain ⟨q0, q1, q2, q3⟩ := h1.cb; clear hb h1)
                | (go_at_call 20; (with_reducible refine (D1.out _ L3.out.bel).mono ?_); rintro e V4 ⟨rfl, hb⟩; have h1 := L3.out.next hb; have L4 := Lib.hid h1; obtain ⟨u0, u1, u2, u3⟩ := h1.cb; clear hb h1 q0 q1 q2 q3)
                | (go_at_call 16; (with_reducible refine (D2.out _).mono ?_); rintro e V5 ⟨rfl, hb⟩; have h1 := L4.out.next hb; have L5 := Lib.hid h1; obtain ⟨q0, q1, q2, q3⟩ := h1.cb; clear hb h1 u0 u1 u2 u3)
                | (go_at_call 21; (with_reducible refine (D3.out _).mono ?_); rintro e V6 ⟨A', m', cap', rfl, ho, hb⟩; have h1 := L5.out.next hb; have L6 := Lib.hid h1; obtain ⟨u0, u1, u2, u3⟩ := h1.cb; have HO := Lib.hid (And.intro ho.1 ho.rd); clear hb h1 q0 q1 q2 q3 ho)
                | (go_at_call 19; (with_reducible refine (D4.out A' m' cap' _ HO.out.1 HO.out.2).mono ?_); rintro e V7 ⟨rfl, hb⟩; have h1 := L6.out.next hb; have L7 := Lib.hid h1; have HO7 := Lib.hid (And.intro HO.out.1 (HO.out.2.below hb)); obtain ⟨q0, q1, q2, q3⟩ := h1.cb; clear hb h1 u0 u1 u2 u3)
                | (go_at_call 20; (with_reducible refine (D5.out A' m' cap' _ HO7.out.1 HO7.out.2).mono ?_); rintro e V8 ⟨rfl, hb⟩; have h1 := L7.out.next hb; have L8 := Lib.hid h1; have HO8 := Lib.hid (And.intro HO7.out.1 (HO7.out.2.below hb)); clear hb h1 q0 q1 q2 q3)
                | (go_at_call 22; (with_reducible refine (D6.out HLE.out A' m' cap' _ L8.out.bel HO8.out.1 HO8.out.2).mono ?_); rintro e V9 ⟨rfl, hb⟩; have L9 := Lib.hid (L8.out.next hb); clear hb))
              go_ret
              first | exact ⟨rfl, L9.out.bel⟩ | exact ⟨rfl, L8.out.bel⟩
          · have g3 : decide ((60 : Int) < (t.size : Int)) = true := decide_eq_true (by omega)
            unfold cstV at hr ⊢
            have HR := Lib.hid hr; have HAP := Lib.hid hap
            clear hr HR0 hap rt aw hcb hb1 hby hrd hl ha h1 h2 h3
            go_enter Try.func6, Try.ntmps6
            go_wp2_with fail
            rw [← hW1]
            clear hW1
            go_wp2_with (first
              | (go_at_call 11; (with_reducible refine AW.out.mono ?_); rintro e V ⟨rfl, hb⟩; have h1 := L0.out.next hb; have L1 := Lib.hid h1; obtain ⟨q0, q1, q2, q3⟩ := h1.cb; clear hb h1)
              | (go_at_call 18; (with_reducible refine (HR.out _).mono ?_); rintro e V2 ⟨rfl, hb⟩; have h1 := L1.out.next hb; have L2 := Lib.hid h1; clear hb h1 q0 q1 q2 q3)
              | (go_at_call 19; (with_reducible refine (HAP.out _ L2.out.bel).mono ?_); rintro e V3 ⟨rfl, hb⟩; have L3 := Lib.hid (L2.out.next hb); clear hb))
            go_ret
            exact ⟨rfl, L3.out.bel⟩
      · have hr : ∀ V, Calls Try.prog 18 #[cstV c] V fun e w' => e = .returned (.bool false) ∧ Below V.heap.size V w' := fun V => (rt V).mono fun e w' ⟨h1, h2⟩ => ⟨by rw [h1, decide_eq_false hc], h2⟩
        unfold cstV at hr ⊢
        have HR := Lib.hid hr
        clear hr rt aw hcb hb1 hby hrd hl h1 h2 hc
        go_enter Try.func6, Try.ntmps6
        go_wp2_with fail
        rw [← hW1]
        clear hW1
        go_wp2_with (first
          | (go_at_call 11; (with_reducible refine AW.out.mono ?_); rintro e V ⟨rfl, hb⟩; have h1 := L0.out.next hb; have L1 := Lib.hid h1; obtain ⟨q0, q1, q2, q3⟩ := h1.cb; clear hb h1)
          | (go_at_call 18; (with_reducible refine (HR.out _).mono ?_); rintro e V2 ⟨rfl, hb⟩; have L2 := Lib.hid (L1.out.next hb); clear hb))
        go_ret
        exact ⟨rfl, L2.out.bel⟩
    · have g2 : decide ((120 : Int) < (len : Int)) = true := decide_eq_true (by omega)
      unfold cstV
      clear rt aw hcb hb1 hby hrd hl h1 h2
      go_enter Try.func6, Try.ntmps6
      go_wp2_with fail
      rw [← hW1]
      clear hW1
      go_wp2_with (go_at_call 11; (with_reducible refine AW.out.mono ?_); rintro e V ⟨rfl, hb⟩; have L1 := Lib.hid (L0.out.next hb); clear hb)
      go_ret
      exact ⟨rfl, L1.out.bel⟩
  · have g1 : decide ((60 : Int) < (s.size : Int)) = true := decide_eq_true (by omega)
    unfold cstV
    clear rt aw hcb hb1 hby hrd hl h1
    go_enter Try.func6, Try.ntmps6
    go_wp2_with fail
    rw [← hW1]
    clear hW1
    go_wp2_with (go_at_call 11; (with_reducible refine AW.out.mono ?_); rintro e V ⟨rfl, hb⟩; have L1 := Lib.hid (L0.out.next hb); clear hb)
    go_ret
    exact ⟨rfl, L1.out.bel⟩
end Go.Proofs.Yticghbimldohoaa
