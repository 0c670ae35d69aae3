/-
  The reference's Pow.
-/
import Derived.Test.YtgcfmkelanhdhaaDoorNatRef6
namespace Go.Proofs.YtgcfmkelanhdhaaDoor
open Go.RowKit
set_option linter.unusedVariables false

theorem one_bn (W : World) : NumB (W.alloc (.cells #[.int .i64 1] 3)) (some ⟨W.heap.size, 0, none⟩) [1] 1 :=
  ⟨rdk_new .i64 W [1] 3, Nb.Can.of_last (Nb.Dg.cons.2 ⟨⟨by omega, by omega⟩, Nb.Dg.nil⟩) (fun _ => by simp), by simp, by simp [Nb.V]⟩
theorem rpow_no (A : Option Addr) (ca : Nat) (l : List Int) (n : Int) (w : World) (hr : RdK .u32 w A l) (hl : l.length ≤ 9223372036854775807) (h : Na.rgt l = false ∨ n < 0) :
    Calls Tryd.prog 30 #[.slice A l.length ca, .int .i64 n] w fun e w' => e = .returned (.tuple #[.slice none 0 0, .int .i64 2]) ∧ w = w' := by
  have hq := rright_any A ca l w hr hl
  rcases (show Na.rgt l = false ∨ Na.rgt l = true ∧ n < 0 by cases e : Na.rgt l <;> simp_all) with e | ⟨e, h2⟩
  all_goals
    rw [e] at hq
    have HQ := Lib.hid hq; clear hq hr e h
    go_enter Tryd.func30, Tryd.ntmps30
    go_wp2_with (go_at_call 51; refine HQ.out.mono ?_; rintro e w' ⟨rfl, rfl⟩)
    go_ret2
    exact ⟨rfl, rfl⟩
theorem pw_small {x : Int} (h0 : 0 ≤ x) (h1 : x < 2) (n : Nat) (hn : 1 ≤ n) : pw x n = pw x 1 := by
  obtain ⟨m, rfl⟩ : ∃ m, n = m + 1 := ⟨n - 1, by omega⟩
  clear hn
  rcases (show x = 0 ∨ x = 1 by omega) with rfl | rfl
  · rw [pw_add]; show _ * pw 0 1 = pw 0 1
    rw [show pw 0 1 = 0 by decide]; omega
  · induction m with
    | zero => rfl
    | succ m ih => rw [pw_add, ih]; decide
set_option maxRecDepth 100000 in
set_option maxHeartbeats 8000000 in
theorem rpow_any (A : Option Addr) (ca n : Nat) (l : List Int) (x : Int) (w : World) (hr : Num w A l x) (hl : l.length ≤ 3) (hn : n ≤ 30) :
    Calls Tryd.prog 30 #[.slice A l.length ca, .int .i64 n] w (PostNumE (pw x n) w) := by
  have hq := rright_any A ca l w hr.rd (by omega)
  rw [hr.rgt] at hq
  have hx0 := hr.nn
  have hbd : Bd x 3 := ⟨hx0, by
    have := Na.V_lt hr.can.dg
    rw [hr.val] at this
    have h2 := Na.Bp_le hl
    omega⟩
  have hbl : ∀ k q A' w', NumB w' A' q (pw x k) → q.length ≤ 96 * k + 32 := by
    intro k q A' w' h
    rw [h.can.len_iff, h.val]
    have := (hbd.pw k).2
    rw [← bp32] at this
    rwa [show 32 * (3 * k + 1) = 96 * k + 32 by omega] at this
  have hb := rbits_any A ca l (w.alloc (.cells #[.int .i64 1] 3)) (hr.rd.below ((Below.refl _ _).alloc (Nat.le_refl _) _)) hr.can.dg (by omega)
  rw [hr.val] at hb
  have HQ := Lib.hid hq; have HB := Lib.hid hb; have HBL := Lib.hid hbl; have HBD := Lib.hid hbd
  have B1 := Lib.hid ((Below.refl w.heap.size w).alloc (Nat.le_refl _) (.cells #[.int .i64 1] 3))
  have ONE := Lib.hid (one_bn w)
  clear hq hb hbl hbd hr
  have HBL1 := Lib.hid (fun q A' w' (h : NumB w' A' q x) => (show q.length ≤ 128 from HBL.out 1 q A' w' (by rw [show pw x 1 = x from Int.one_mul x]; exact h)))
  by_cases hsm : x < 2 ∧ 1 < n
  · have HE := Lib.hid (show pw x 1 = pw x n from (pw_small hx0 hsm.1 n (by omega)).symm)
    have HS := Lib.hid hsm.1
    have k1 : (1 : Int) < (n : Int) := by omega
    have HL1 := Lib.hid (fun q A' w' (h : NumB w' A' q x) => (show (q.length : Int) ≤ 1 by
      have := h.can.len_iff 1
      rw [h.val, show Nb.Bp 1 = 2 from rfl] at this
      have := this.2 HS.out
      omega))
    clear hsm
    go_enter Tryd.func30, Tryd.ntmps30
    go_wp2_with (first
      | (go_at_call 51; (with_reducible refine HQ.out.mono ?_); rintro e w' ⟨rfl, rfl⟩)
      | (go_at_call 52; (with_reducible refine HB.out.mono ?_); rintro e x2 ⟨A2, c2, q2, rfl, h1, -, -, -, h5⟩; have HN := Lib.hid h1; have B2 := Lib.hid (B1.out.trans (h5.mono B1.out.size)); have ONE2 := Lib.hid (ONE.out.below h5); have hq2 := HL1.out q2 A2 x2 HN.out; clear h1 h5))
    have hql := HBL1.out q2 A2 x2 HN.out
    go_loopw [6, 8] (fun o i wr => ∃ (k : Nat) (A' : Option Addr) (c' : Nat) (q : List Int), k ≤ 1 ∧ i = .int .i64 k ∧ o = .slice A' q.length c' ∧ Hid (NumB wr A' q (pw x k)) ∧ Hid (q.length ≤ c' ∧ c' ≤ 9223372036854775807) ∧ Hid (Below w.heap.size w wr) ∧ Hid (Below x2.heap.size x2 wr)) (fun _ i _ => 1 - (intOf i).toNat)
    case atStart => exact ⟨0, _, 1, [1], by omega, rfl, rfl, ONE2, Lib.hid ⟨by simp, by omega⟩, B2, Lib.hid (Below.refl _ _)⟩
    case round =>
      obtain ⟨k, A', c', q, hk, rfl, rfl, HQN, HC, HBW, HBX⟩ := hrel
      by_cases h0 : k = 1
      · have j1 : (1 : Int) ≤ (k : Int) := by omega
        have hn' := HQN.out
        rw [h0, HE.out] at hn'
        have hl := rlimbs_any A' c' q _ wr hn' (by have := HBL.out n q A' wr hn'; omega) HC.out.1 HC.out.2
        have HL := Lib.hid hl
        clear hn' hl h0
        go_wp2_with (go_at_call 58; (with_reducible refine HL.out.mono ?_); rintro e w' ⟨A3, c3, l3, rfl, h1, h2⟩; have HP := Lib.hid h1; have HB4 := Lib.hid h2; clear h1 h2)
        go_ret2
        exact ⟨A3, c3, l3, rfl, HP.out, HBW.out.trans (HB4.out.mono HBW.out.size)⟩
      · have j1 : (k : Int) < (1 : Int) := by omega
        have hb2 := HN.out.below HBX.out
        have hq1 := HBL.out k q A' wr HQN.out
        have hm := rmul_any A' A2 c' c2 q q2 _ x wr HQN.out hb2 (by omega)
        have HM := Lib.hid hm
        have HBL2 := Lib.hid (fun q3 A3 w3 (h : NumB w3 A3 q3 (pw x k * x)) => (show q3.length ≤ 32768 by have := HBL.out (k + 1) q3 A3 w3 h; omega))
        clear hm hb2 hq1 h0
        go_wp2_with (go_at_call 56; (with_reducible refine HM.out.mono ?_); rintro e w' ⟨A3, c3, q3, rfl, h1, h2, h3, -, h5⟩; have HQ3 := Lib.hid h1; have HC3 := Lib.hid (And.intro h2 h3); have HB3 := Lib.hid (HBW.out.trans (h5.mono HBW.out.size)); have HX3 := Lib.hid (HBX.out.trans (h5.mono HBX.out.size)); have hlen : (q3.length : Int) ≤ 32768 := by { have := HBL2.out q3 A3 w' h1; omega }; clear h1 h2 h3 h5)
        exact ⟨⟨k + 1, A3, c3, q3, by omega, by go_num, rfl, HQ3, HC3, HB3, HX3⟩, by simp [intOf]; omega⟩
  · have HL1 := Lib.hid (fun q A' w' (h : NumB w' A' q x) => (show 1 < q.length ∨ (n : Int) ≤ 1 by
      have := h.can.len_iff 1
      rw [h.val, show Nb.Bp 1 = 2 from rfl] at this
      omega))
    clear hsm
    go_enter Tryd.func30, Tryd.ntmps30
    go_wp2_with (first
      | (go_at_call 51; (with_reducible refine HQ.out.mono ?_); rintro e w' ⟨rfl, rfl⟩)
      | (go_at_call 52; (with_reducible refine HB.out.mono ?_); rintro e x2 ⟨A2, c2, q2, rfl, h1, -, -, -, h5⟩; have HN := Lib.hid h1; have B2 := Lib.hid (B1.out.trans (h5.mono B1.out.size)); have ONE2 := Lib.hid (ONE.out.below h5); have HQ2 := Lib.hid (HL1.out q2 A2 x2 HN.out); clear h1 h5))
    · exfalso
      have := HQ2.out
      omega
    · have hql := HBL1.out q2 A2 x2 HN.out
      go_loopw [6, 8] (fun o i wr => ∃ (k : Nat) (A' : Option Addr) (c' : Nat) (q : List Int), k ≤ n ∧ i = .int .i64 k ∧ o = .slice A' q.length c' ∧ Hid (NumB wr A' q (pw x k)) ∧ Hid (q.length ≤ c' ∧ c' ≤ 9223372036854775807) ∧ Hid (Below w.heap.size w wr) ∧ Hid (Below x2.heap.size x2 wr)) (fun _ i _ => n - (intOf i).toNat)
      case atStart => exact ⟨0, _, 1, [1], by omega, rfl, rfl, ONE2, Lib.hid ⟨by simp, by omega⟩, B2, Lib.hid (Below.refl _ _)⟩
      case round =>
        obtain ⟨k, A', c', q, hk, rfl, rfl, HQN, HC, HBW, HBX⟩ := hrel
        by_cases h0 : k = n
        · have j1 : (n : Int) ≤ (k : Int) := by omega
          have hn' := HQN.out
          rw [h0] at hn'
          have hl := rlimbs_any A' c' q _ wr hn' (by have := HBL.out n q A' wr hn'; omega) HC.out.1 HC.out.2
          have HL := Lib.hid hl
          clear hn' hl h0
          go_wp2_with (go_at_call 58; (with_reducible refine HL.out.mono ?_); rintro e w' ⟨A3, c3, l3, rfl, h1, h2⟩; have HP := Lib.hid h1; have HB4 := Lib.hid h2; clear h1 h2)
          go_ret2
          exact ⟨A3, c3, l3, rfl, HP.out, HBW.out.trans (HB4.out.mono HBW.out.size)⟩
        · have j1 : (k : Int) < (n : Int) := by omega
          have hb2 := HN.out.below HBX.out
          have hq1 := HBL.out k q A' wr HQN.out
          have hm := rmul_any A' A2 c' c2 q q2 _ x wr HQN.out hb2 (by omega)
          have HM := Lib.hid hm
          have HBL2 := Lib.hid (fun q3 A3 w3 (h : NumB w3 A3 q3 (pw x k * x)) => (show q3.length ≤ 32768 by have := HBL.out (k + 1) q3 A3 w3 h; omega))
          clear hm hb2 hq1 h0
          go_wp2_with (go_at_call 56; (with_reducible refine HM.out.mono ?_); rintro e w' ⟨A3, c3, q3, rfl, h1, h2, h3, -, h5⟩; have HQ3 := Lib.hid h1; have HC3 := Lib.hid (And.intro h2 h3); have HB3 := Lib.hid (HBW.out.trans (h5.mono HBW.out.size)); have HX3 := Lib.hid (HBX.out.trans (h5.mono HBX.out.size)); have hlen : (q3.length : Int) ≤ 32768 := by { have := HBL2.out q3 A3 w' h1; omega }; clear h1 h2 h3 h5)
          exact ⟨⟨k + 1, A3, c3, q3, by omega, by go_num, rfl, HQ3, HC3, HB3, HX3⟩, by simp [intOf]; omega⟩
    · have hql := HBL1.out q2 A2 x2 HN.out
      go_loopw [6, 8] (fun o i wr => ∃ (k : Nat) (A' : Option Addr) (c' : Nat) (q : List Int), k ≤ n ∧ i = .int .i64 k ∧ o = .slice A' q.length c' ∧ Hid (NumB wr A' q (pw x k)) ∧ Hid (q.length ≤ c' ∧ c' ≤ 9223372036854775807) ∧ Hid (Below w.heap.size w wr) ∧ Hid (Below x2.heap.size x2 wr)) (fun _ i _ => n - (intOf i).toNat)
      case atStart => exact ⟨0, _, 1, [1], by omega, rfl, rfl, ONE2, Lib.hid ⟨by simp, by omega⟩, B2, Lib.hid (Below.refl _ _)⟩
      case round =>
        obtain ⟨k, A', c', q, hk, rfl, rfl, HQN, HC, HBW, HBX⟩ := hrel
        by_cases h0 : k = n
        · have j1 : (n : Int) ≤ (k : Int) := by omega
          have hn' := HQN.out
          rw [h0] at hn'
          have hl := rlimbs_any A' c' q _ wr hn' (by have := HBL.out n q A' wr hn'; omega) HC.out.1 HC.out.2
          have HL := Lib.hid hl
          clear hn' hl h0
          go_wp2_with (go_at_call 58; (with_reducible refine HL.out.mono ?_); rintro e w' ⟨A3, c3, l3, rfl, h1, h2⟩; have HP := Lib.hid h1; have HB4 := Lib.hid h2; clear h1 h2)
          go_ret2
          exact ⟨A3, c3, l3, rfl, HP.out, HBW.out.trans (HB4.out.mono HBW.out.size)⟩
        · have j1 : (k : Int) < (n : Int) := by omega
          have hb2 := HN.out.below HBX.out
          have hq1 := HBL.out k q A' wr HQN.out
          have hm := rmul_any A' A2 c' c2 q q2 _ x wr HQN.out hb2 (by omega)
          have HM := Lib.hid hm
          have HBL2 := Lib.hid (fun q3 A3 w3 (h : NumB w3 A3 q3 (pw x k * x)) => (show q3.length ≤ 32768 by have := HBL.out (k + 1) q3 A3 w3 h; omega))
          clear hm hb2 hq1 h0
          go_wp2_with (go_at_call 56; (with_reducible refine HM.out.mono ?_); rintro e w' ⟨A3, c3, q3, rfl, h1, h2, h3, -, h5⟩; have HQ3 := Lib.hid h1; have HC3 := Lib.hid (And.intro h2 h3); have HB3 := Lib.hid (HBW.out.trans (h5.mono HBW.out.size)); have HX3 := Lib.hid (HBX.out.trans (h5.mono HBX.out.size)); have hlen : (q3.length : Int) ≤ 32768 := by { have := HBL2.out q3 A3 w' h1; omega }; clear h1 h2 h3 h5)
          exact ⟨⟨k + 1, A3, c3, q3, by omega, by go_num, rfl, HQ3, HC3, HB3, HX3⟩, by simp [intOf]; omega⟩

end Go.Proofs.YtgcfmkelanhdhaaDoor
