/-
  The walk of the law MoneyWhole.
-/
import Derived.Test.YtbbmpjndalkgbaaDoorMonWeights
namespace Go.Proofs.YtbbmpjndalkgbaaDoor
open Go.RowKit
set_option linter.unusedVariables false

theorem split_fine (c : Int) (A : Option Addr) (cap : Nat) (ws : List Int) (w : World) (hr : Rd w A ws) (hl : ws.length ≤ 4096) (h : Mo.spOk c ws = true) :
    Calls Tryd.prog 15 #[.int .i64 c, .slice A ws.length cap] w fun e w' => ∃ B cp, e = .returned (.tuple #[.slice B ws.length cp, .int .i64 0]) ∧ Rd w' B (Mo.spl c (Mo.sumZ ws) (Mo.lft c (Mo.sumZ ws) ws) ws) ∧ Below w.heap.size w w' := by
  refine (split_any c A cap ws w hr (by omega)).mono ?_
  rintro e w' ⟨B, cp, rfl, ho, hb⟩
  have hs := Mo.spE_ok hl h
  rw [hs.2] at ho
  rw [hs.1, hs.2, Mo.spl_len]
  rw [Mo.spl_len] at ho
  obtain ⟨B', cp', hv, -, hrd⟩ := own_rd ho
  simp at hv
  obtain ⟨rfl, -, -⟩ := hv
  exact ⟨B, cp, rfl, hrd, hb⟩

/-- what the law asks of a split -/
structure Whole (c T : Int) (ws O : List Int) (m : Nat → Bool) : Prop where
  len : O.length = ws.length
  zero : ∀ i, i < ws.length → ws.getD i 0 = 0 → O.getD i 0 = 0
  bd : ∀ i, i < ws.length → -1000000000000001 ≤ O.getD i 0 ∧ O.getD i 0 ≤ 1000000000000001
  diff : ∀ i, i < ws.length → -T < O.getD i 0 * T - c * ws.getD i 0 ∧ O.getD i 0 * T - c * ws.getD i 0 ≤ T
  more : ∀ i, i < ws.length → 0 < ws.getD i 0 → (0 < O.getD i 0 * T - c * ws.getD i 0 ↔ m i = true)
  step : ∀ i, i < ws.length → m (i + 1) = true → m i = true
  sum : Mo.sumZ O = c
theorem whole_of (c : Int) (ws : List Int) (hw : Mo.wts ws = true) (h0 : 0 < Mo.sumZ ws) (c0 : -1000000000000000 ≤ c) (c1 : c ≤ 1000000000000000) :
    Whole c (Mo.sumZ ws) ws (Mo.spl c (Mo.sumZ ws) (Mo.lft c (Mo.sumZ ws) ws) ws) (fun i => decide (0 < Mo.lf (Mo.lft c (Mo.sumZ ws) ws) (ws.take i))) := by
  have hm := Mo.wts_mem hw
  have hn : ∀ x ∈ ws, 0 ≤ x := fun x hx => (hm x hx).1
  have hle := Mo.sumZ_mem hn
  have hlb := Mo.lft_bd c ws h0 hn
  have hat := fun i hi => Mo.spl_at c (Mo.sumZ ws) (Mo.lft c (Mo.sumZ ws) ws) ws i hi
  have hss := Mo.spl_sum c (Mo.sumZ ws) (Mo.lft c (Mo.sumZ ws) ws) hlb.1 ws
  have hlen := Mo.spl_len c (Mo.sumZ ws) (Mo.lft c (Mo.sumZ ws) ws) ws
  have hst := fun i hi => Mo.lf_step (Mo.lft c (Mo.sumZ ws) ws) ws i hi
  have hdef : Mo.lft c (Mo.sumZ ws) ws = c - Mo.sumZ (Mo.bs c (Mo.sumZ ws) ws) := rfl
  generalize Mo.spl c (Mo.sumZ ws) (Mo.lft c (Mo.sumZ ws) ws) ws = O at *
  generalize Mo.lft c (Mo.sumZ ws) ws = l at *
  generalize Mo.sumZ ws = T at *
  constructor
  · exact hlen
  · intro i hi hz
    rw [hat i hi, hz]
    simp
  · intro i hi
    have hx := Mo.getD_mem ws i hi
    have := Mo.part_bd c (ws.getD i 0) T h0 (hn _ hx) (hle _ hx) c0 c1
    rw [hat i hi]
    split <;> omega
  · intro i hi
    have := Mo.part_diff c T (ws.getD i 0) h0 (decide (0 < Mo.lf l (ws.take i) ∧ 0 < ws.getD i 0))
    rw [hat i hi]
    simp only [decide_eq_true_eq] at this
    exact ⟨this.1, this.2.1⟩
  · intro i hi hp
    have := Mo.part_diff c T (ws.getD i 0) h0 (decide (0 < Mo.lf l (ws.take i) ∧ 0 < ws.getD i 0))
    rw [hat i hi]
    simp only [decide_eq_true_eq] at this
    rw [this.2.2, decide_eq_true_eq]
    exact ⟨fun x => x.1, fun x => ⟨x, hp⟩⟩
  · intro i hi h
    simp only [decide_eq_true_eq] at h ⊢
    rw [hst i hi] at h
    split at h <;> omega
  · rw [hss]; omega

theorem sumZ_take_bd (O : List Int) (M : Int) (n : Nat) (hn : n ≤ O.length) (h : ∀ i, i < n → -M ≤ O.getD i 0 ∧ O.getD i 0 ≤ M) : ∀ k : Nat, k ≤ n → -(M * k) ≤ Mo.sumZ (O.take k) ∧ Mo.sumZ (O.take k) ≤ M * k
  | 0, _ => by simp [Mo.sumZ]
  | k + 1, hk => by
    have := sumZ_take_bd O M n hn h k (by omega)
    have h2 := h k (by omega)
    rw [Mo.sumZ_take O k (by omega), show (((k + 1 : Nat) : Int)) = (k : Int) + 1 by omega, Int.mul_add]
    omega
theorem u64_wrap (x : Int) : IntKind.u64.wrap x = x % 18446744073709551616 := by simp [IntKind.wrap, IntKind.bits, IntKind.signed]
theorem u64_diff (o S c w : Int) (h : -1000000000000000000 ≤ o * S - c * w ∧ o * S - c * w ≤ 1000000000000000000) :
    wrap64 (IntKind.u64.wrap (IntKind.u64.wrap (IntKind.u64.wrap o * S) - IntKind.u64.wrap (IntKind.u64.wrap c * w))) = o * S - c * w := by
  have e : IntKind.u64.wrap (IntKind.u64.wrap (IntKind.u64.wrap o * S) - IntKind.u64.wrap (IntKind.u64.wrap c * w)) = (o * S - c * w) % 18446744073709551616 := by
    simp only [u64_wrap]
    rw [Int.mul_emod (o % _) S, Int.emod_emod, ← Int.mul_emod, Int.mul_emod (c % _) w, Int.emod_emod, ← Int.mul_emod, ← Int.sub_emod]
  rw [e]
  generalize o * S - c * w = d at *
  unfold wrap64
  omega

set_option maxRecDepth 100000 in
set_option maxHeartbeats 2000000 in
theorem walk_moneyWhole (w : World) (a0 : Int) (w0 : (Lit.int .i64 a0).wf = true) (A1 : Option Addr) (len1 cap1 : Nat) (z1 : List Int) (w1 : IsRow .u32 w A1 len1 cap1 z1) (hw : Rdy w) :
    Calls Tryd.prog 4 #[.int .i64 a0, .slice A1 len1 cap1] w fun e w' => e = .returned (.bool true) ∧ Below w.heap.size w w' := by
  have b0 := int_bd w0
  obtain ⟨hlen, hrd⟩ := row_rd w1
  have hbd := fun i hi => u32_bd (row_bd w1 i hi)
  have hl := row_len w1
  have hwt := fun W (hB : Below w.heap.size w W) => weights_any W A1 cap1 (z1.take len1) (hrd.below hB) hbd (by omega)
  rw [hlen] at hwt
  have ham := fun W => amount_any a0 W b0.1 b0.2
  have hab := amount_bd a0
  generalize a0 % 2000000000000001 - 1000000000000000 = c at *
  have R0 := Lib.hid hw; have AM := Lib.hid ham; have WT := Lib.hid hwt
  clear hw ham hwt w0 w1 hrd hbd hl hlen
  obtain ⟨c0, c1⟩ := hab
  go_enter Tryd.func4, Tryd.ntmps4
  go_wp2_with (first
    | (go_at_call 11; refine (awake_any _ R0.out).mono ?_; rintro e x1 ⟨rfl, hb⟩; have B1 := Lib.hid hb; clear hb)
    | (go_at_call 13; (with_reducible refine (AM.out _).mono ?_); rintro e w' ⟨rfl, rfl⟩)
    | (go_at_call 14; (with_reducible refine (WT.out _ B1.out).mono ?_); rintro e x2 ⟨A, cap, ws, rfl, h1, h2, h3, h4, hb⟩; have HR := Lib.hid h1; have HW := Lib.hid h2; have H0 := Lib.hid h3; have HL := Lib.hid h4; have B2 := Lib.hid (B1.out.trans (hb.mono B1.out.size)); clear hb h1 h2 h3 h4))
  have hsp : Mo.spOk c ws = true := (Mo.spOk_iff c ws).2 ⟨(Mo.rt_iff c).2 ⟨c0, c1⟩, HW.out, H0.out⟩
  have hq1 := split_fine c A cap ws x2 HR.out HL.out hsp
  have hwh := whole_of c ws HW.out H0.out c0 c1
  have hsum := Mo.wts_sum HW.out
  have hT := H0.out
  have hwm := Mo.wts_mem HW.out
  have hle := HL.out
  have hse := Mo.smE_ok (zs := ws) HL.out (by unfold Mo.allRt; rw [List.all_eq_true]; exact fun x hx => (Mo.rt_iff x).2 (by have := hwm x hx; omega)) ((Mo.rt_iff _).2 (by omega))
  have hq2 := fun W (hB : Below x2.heap.size x2 W) => mSum_any A cap ws W (HR.out.below hB) (by omega)
  rw [hse.1, hse.2] at hq2
  generalize Mo.spl c (Mo.sumZ ws) (Mo.lft c (Mo.sumZ ws) ws) ws = O at *
  generalize (fun i => decide (0 < Mo.lf (Mo.lft c (Mo.sumZ ws) ws) (ws.take i))) = m at *
  generalize Mo.sumZ ws = T at *
  have hT1 : T ≤ 4096000000 := by omega
  have Q1 := Lib.hid hq1; have Q2 := Lib.hid hq2; have WH := Lib.hid hwh; have HWM := Lib.hid hwm
  clear hq1 hq2 hwh hwm hse hsp hsum HW H0 HL AM WT
  go_wp2_with (first
    | (go_at_call 15; (with_reducible refine Q1.out.mono ?_); rintro e x3 ⟨B, cp, rfl, h1, hb⟩; have HO := Lib.hid h1; have B3 := Lib.hid hb; clear hb h1)
    | (go_at_call 16; (with_reducible refine (Q2.out _ B3.out).mono ?_); rintro e w' ⟨rfl, rfl⟩))
  go_loopw [11, 12, 45] (fun s b i wr => Hid (Below x3.heap.size x3 wr) ∧ ∃ k : Nat, ∃ mv : Bool, k ≤ ws.length ∧ i = .int .i64 k ∧ s = .int .i64 (Mo.sumZ (O.take k)) ∧ b = .bool mv ∧ (m k = true → mv = true)) (fun _ _ i _ => ws.length - (intOf i).toNat)
  case atStart => exact ⟨Lib.hid (Below.refl _ _), 0, true, by omega, rfl, rfl, rfl, fun _ => rfl⟩
  case round =>
    obtain ⟨HB, k, mv, hk, rfl, rfl, rfl, hmv⟩ := hrel
    have hwh := WH.out
    have hOl := hwh.len
    have hSb := sumZ_take_bd O 1000000000000001 ws.length (by omega) hwh.bd k hk
    by_cases h1 : k < ws.length
    · obtain ⟨bw, ow, rfl, hbw, hcw⟩ := ((HR.out.below B3.out).below HB.out).at (by omega)
      have hcw1 := hcw k h1; clear hcw
      obtain ⟨bo, oo, rfl, hbo, hco⟩ := (HO.out.below HB.out).at (by omega)
      have hco1 := hco k (by omega); clear hco
      have hS1 := Mo.sumZ_take O k (by omega)
      have hz := hwh.zero k h1
      have hb := hwh.bd k h1
      have hd := hwh.diff k h1
      have hm := hwh.more k h1
      have hs := hwh.step k h1
      have hwb := HWM.out _ (Mo.getD_mem ws k h1)
      generalize ws.getD k 0 = p at *
      generalize O.getD k 0 = o at *
      generalize hS : Mo.sumZ (O.take k) = S at *
      have HS := Lib.hid hS1
      clear hS1 hS hwh
      have g1 : (k : Int) < ws.length := by omega
      have hk40 : (k : Int) ≤ 4096 := by omega
      have hSb2 : -4096000000004096 * 1000 ≤ S ∧ S ≤ 4096000000004096 * 1000 := by omega
      clear hSb
      by_cases hp0 : p = 0
      · subst hp0
        have := hz rfl
        subst this
        clear hz hd hm hb hwb
        go_wp2_with fail
        exact ⟨⟨HB, k + 1, mv, by omega, by go_num, by rw [HS.out, Int.add_zero], rfl, fun h => hmv (hs h)⟩, by simp [intOf]; omega⟩
      · have hp : 0 < p := by omega
        have hpe : (p == 0) = false := by rw [beq_eq_false_iff_ne]; exact hp0
        have hE := u64_diff o T c p (by omega)
        have hmm := hm hp
        generalize o * T - c * p = d at *
        clear hz hm hp0
        obtain ⟨d0, d1⟩ := hd
        obtain ⟨p0, p1⟩ := hwb
        obtain ⟨o0, o1⟩ := hb
        obtain ⟨s0, s1⟩ := hSb2
        have HE := Lib.hid hE
        clear hE
        go_wp2_with fail
        go_quiet (fail)
        rw [HE.out]
        have HB2 := Lib.hid (below_drewN HB.out nq)
        by_cases hdp : 0 < d
        · have hmk := hmm.1 hdp
          have := hmv hmk
          subst this
          go_wp2_with fail
          exact ⟨⟨HB2, k + 1, true, by omega, by go_num, by rw [HS.out], rfl, fun h => rfl⟩, by simp [intOf]; omega⟩
        · have hmk : m k = false := by rw [Bool.eq_false_iff]; exact fun h => hdp (hmm.2 h)
          have hd0 : decide (0 < d) = false := decide_eq_false hdp
          have HM := Lib.hid (show m (k + 1) = true → False from fun h => by rw [hs h] at hmk; cases hmk)
          cases mv
          all_goals
            go_wp2_with fail
            exact ⟨⟨HB2, k + 1, false, by omega, by go_num, by rw [HS.out], rfl, fun h => (HM.out h).elim⟩, by simp [intOf]; omega⟩
    · have hke : k = ws.length := by omega
      subst hke
      have hsm := hwh.sum
      rw [List.take_of_length_le (by omega), hsm]
      go_wp2_with fail
      go_ret
      exact ⟨ret_bool (by simp), B2.out.trans ((B3.out.trans (HB.out.mono B3.out.size)).mono B2.out.size)⟩

end Go.Proofs.YtbbmpjndalkgbaaDoor
