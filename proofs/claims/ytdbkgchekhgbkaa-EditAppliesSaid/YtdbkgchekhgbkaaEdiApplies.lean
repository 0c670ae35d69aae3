/-
  EditApplies at any arguments.
-/
import Derived.Test.YtdbkgchekhgbkaaEdiRefApp
import Derived.Test.YtdbkgchekhgbkaaEdiOpsL
import Derived.Test.YtdbkgchekhgbkaaEdiAwake
import Derived.Test.YtdbkgchekhgbkaaEdiOpen
import Derived.Deep.RegionHeld3
namespace Go.Proofs.Ytdbkgchekhgbkaa
open Go.RowKit Go.Shelf Go.ChangeShapes Go.WideShapes Go.Deep
set_option linter.unusedVariables false
set_option linter.unusedSimpArgs false

theorem open_ops2 {H : Type} {enc : TypeId × Value → H} {W : World} {sp : Nat → Bool} {hd : Bool} {A : Option Addr} {len cap : Nat} {d : DataW H} {p : List MemPlace} (h : DataW.Trod enc Try.prog W 0 sp hd 22 (.slice A len cap) d p) :
    ∃ l : List (Nat × Nat), l.length = len ∧ ((∀ o, o ∈ l → o.2 < 256) ∧ (A = none → cap = 0)) ∧ RdO W A l ∧ len ≤ maxLen := by
  obtain ⟨l, h1, h2, h3, h4⟩ := open_ops h
  refine ⟨l, h1, ⟨h2, fun hA => ?_⟩, h3, h4⟩
  obtain ⟨fuel, hf⟩ := h
  rcases open_slice_pairs Try.underlying22 Try.underlying52 (by kernel_rfl) rfl rfl (by kernel_rfl) (by kernel_rfl) hf with ⟨hcs, _⟩ | ⟨a, l', c', m, n, V0, V1, D0, D1, P0, P1, hcs, _⟩
  · simp [Value.cells] at hcs
    exact hcs.2.2
  · simp [Value.cells] at hcs
    rw [hA] at hcs
    cases hcs.1
theorem own_noneO (W : World) (base : Nat) (hb : base ≤ W.heap.size) : OwnO base 52 (W.alloc (.cells #[] 52)) (some ⟨W.heap.size, 0, none⟩) 0 0 [] :=
  ⟨rfl, World.ownsRow_lit W #[] 0 hb (by unfold maxLen; omega) rfl⟩
/-- all steps of a script that came in, behind none -/
theorem wpList_appOs {ops : Array Oper} {rest : List Oper} {o : Oper} {a : Act} {Q : Exit → Act → World → Prop} (w : World) (hg : o.guard = none) (s x : Operand)
    (hop : o.op = .call { callee := .builtin .append, args := #[s, x], argTypes := #[22, 22] }) (base : Nat) (A0 : Option Addr) (c0 : Nat) (hv : a.eval s = .slice A0 0 c0) (ho : OwnO base 52 w A0 0 c0 []) (A : Option Addr) (len cp : Nat) (l : List (Nat × Nat)) (hlen : l.length = len)
    (hx : a.eval x = .slice A len cp) (hA : A = none → len = 0 ∧ cp = 0) (hr : RdO w A l) (hl : len ≤ 1000000) (hb : base ≤ w.heap.size)
    (hK : ∀ A' c' w', OwnO base 52 w' A' len c' l → w.grownBy w' (Value.slice A0 0 c0).ownBlock → wpList Try.prog ops Q rest (a.put o.dst (.slice A' len c')) w') :
    wpList Try.prog ops Q (o :: rest) a w := by
  obtain ⟨i0, hi, hz0, hz1, hz2⟩ := info_parts infoOp
  cases A with
  | none =>
    obtain ⟨rfl, rfl⟩ := hA rfl
    obtain rfl : l = [] := List.eq_nil_of_length_eq_zero hlen
    refine wpList_plain hg fun K hK' => ?_
    have hr := run_append_owned_none (P := Try.prog) (w := w) base 22 o.type 52 i0 2 Try.underlying22 hi _ _ _ ho.2
    unfold Oper.wp execOp
    simp only [hop, resolve, invoke, builtin, Sem.run_bind, Sem.run_pure, Result.andThen_ok, List.map_toArray, List.map_cons, List.map_nil, hv, hx, hr]
    exact hK' _ _ (hK A0 c0 w ho (World.grownBy.refl _ _))
  | some ad =>
    refine wpList_append_own _ hg _ _ 22 hop base 52 i0 (.agg #[.int .u8 0, .int .u8 0]) 2 2 Try.underlying22 hi hz0 hz1 hz2 rfl (by decide) _ _ _ hv ho.2 ad len cp (opsC l) hx (by rw [opsC_length, hlen]) ?_ ?_ ?_ ?_ hb ?_
    · intro j u hj
      have hjl : j < (opsC l).length := by
        rcases Nat.lt_or_ge j (opsC l).length with h | h
        · exact h
        · rw [List.getElem?_eq_none h] at hj; cases hj
      rw [opsC_length] at hjl
      obtain ⟨b, off, e, -, hc⟩ := hr (by omega)
      cases e
      obtain ⟨e0, e1⟩ := hc (j / 2) (by omega)
      obtain ⟨f0, f1⟩ := opsC_at l (j / 2) (by omega)
      have ea : (⟨b, off, none⟩ : Addr).add j = ⟨b, off + j, none⟩ := by unfold Addr.add; split <;> simp [*]
      rw [ea]
      rcases (show j = 2 * (j / 2) ∨ j = 2 * (j / 2) + 1 by omega) with h | h
      · rw [h] at hj
        rw [f0] at hj
        cases hj
        rw [show off + j = off + j / 2 * 2 by omega]
        exact e0
      · rw [h] at hj
        rw [f1] at hj
        cases hj
        rw [show off + j = off + (j / 2 * 2 + 1) by omega]
        exact e1
    · intro u hu
      unfold opsC at hu
      simp at hu
      obtain ⟨x, y, -, rfl | rfl⟩ := hu <;> rfl
    · unfold maxLen; omega
    · omega
    · intro v' w' h1 h2 _
      rw [show opsC [] ++ opsC l = opsC l from rfl, Nat.zero_add] at h1
      rcases h1.2 with ⟨rfl, h4⟩ | ⟨g', cap, cur, rfl, h5⟩
      · have h4 : len = 0 := h4
        subst h4
        exact hK none 0 w' ⟨hlen, h1⟩ h2
      · exact hK _ cap w' ⟨hlen, h1⟩ h2
set_option maxRecDepth 100000 in
set_option maxHeartbeats 8000000 in
theorem applies_any (A : Option Addr) (len cap : Nat) (l : List (Nat × Nat)) (s : ByteArray) (c : Ed.Cst) (w : World) (hl : l.length = len) (hby : ∀ o, o ∈ l → o.2 < 256) (hA : A = none → cap = 0) (hrd : RdO w A l) (hn : len ≤ 130) :
    Calls Try.prog 4 #[.string s, .slice A len cap, cstV c] w (PostB true w) := by
  have hA0 : A = none → len = 0 ∧ cap = 0 := fun h => by
    refine ⟨?_, hA h⟩
    rcases Nat.eq_zero_or_pos len with h0 | h0
    · exact h0
    · obtain ⟨_, _, e, _⟩ := hrd (by omega)
      rw [h] at e
      cases e
  obtain ⟨RS, hRS⟩ : ∃ x, appS l s = x := ⟨_, rfl⟩
  obtain ⟨RE, hRE⟩ : ∃ x, appE l s = x := ⟨_, rfl⟩
  obtain ⟨CR, hCR⟩ : ∃ x, costR c l = x := ⟨_, rfl⟩
  obtain ⟨CE, hCE⟩ : ∃ x, costE c l = x := ⟨_, rfl⟩
  have ap := fun A5 c5 V (h : RdO V A5 l) => apply_any A5 len c5 l s V hl hby h
  have ra := fun A5 c5 V (h : RdO V A5 l) => refApply_any A5 len c5 l s V hl hby h
  have co := fun A5 c5 V (h : RdO V A5 l) => cost_any A5 len c5 l c V hl h
  have rc := fun A5 c5 V (h : RdO V A5 l) => refCost_any A5 len c5 l c V hl h
  have cs := fun V => costs_any c V
  have op : ∀ V, RdO V A l → Calls Try.prog 8 #[.slice A len cap] V fun e w' => ∃ A' c', e = .returned (.slice A' len c') ∧ RdO w' A' l ∧ Below V.heap.size V w' := fun V h => (ops_any A len cap l V hl (by omega) h).mono fun e w' ⟨A', n', c', e1, e2, e3⟩ => by
    have hnl := e2.1
    rw [hl] at hnl
    subst hnl
    exact ⟨A', c', e1, e2.rd, e3⟩
  have sm : ∀ A5 c5 V, RdO V A5 l → RdO V A l → Calls Try.prog 12 #[.slice A5 len c5, .slice A len cap] V fun e w' => e = .returned (.bool true) ∧ Below V.heap.size V w' := fun A5 c5 V h1 h2 => (same_any A5 A len len c5 cap l l V hl hl (by omega) (by omega) h1 h2).mono fun e w' ⟨e1, e2⟩ => ⟨by rw [e1]; simp, e2⟩
  obtain ⟨W1, hW1, hb1, hq1, hcb⟩ := cbox w c
  unfold PostA at ap ra
  unfold PostC at co rc
  unfold cstV at co rc cs ⊢
  simp only [hRS, hRE] at ap ra
  simp only [hCR, hCE] at co rc
  have L0 := Lib.hid (show LS w W1 w.heap.size c from ⟨hb1, hcb⟩)
  have hs1 : w.heap.size + 1 = W1.heap.size := by rw [hW1]; simp
  have hown : OwnO W1.heap.size 52 (W1.alloc (.cells #[] 52)) (some ⟨w.heap.size + 1, 0, none⟩) 0 0 [] := by
    rw [hs1]
    exact own_noneO W1 _ (Nat.le_refl _)
  have HOW := Lib.hid hown
  have HS1 := Lib.hid hs1
  clear hown hs1
  have RD := Lib.hid hrd
  have RD0 := Lib.hid (hrd.below hb1)
  have HA := Lib.hid hA0; have HL := Lib.hid hl
  have AP := Lib.hid ap; have RA := Lib.hid ra; have CO := Lib.hid co; have RC := Lib.hid rc; have CS := Lib.hid cs; have OP := Lib.hid op; have SM := Lib.hid sm
  obtain ⟨q0, q1, q2, q3⟩ := hcb
  clear ap ra co rc cs op sm hb1 hrd hA hA0 hRS hRE hCR hCE hby hl
  go_enter Try.func4, Try.ntmps4
  go_wp2_with (first
    | (at_builtin; go_loud (rw [← hW1]); go_loud (refine wpList_appOs _ rfl _ _ rfl W1.heap.size _ _ rfl HOW.out A len cap l HL.out rfl HA.out (RD0.out.below (below_new _ _)) (by omega) (by simp) ?_); go_loud (intro A5 c5 w5 ho5 hg5; have hb : Below W1.heap.size W1 w5 := (below_new W1 _).grown hg5 (by simp) (fun k e => by cases e; show W1.heap.size ≤ w.heap.size + 1; have := HS1.out; omega); have L1 := Lib.hid (L0.out.next hb); have R5 := Lib.hid ho5.rd; have RD := Lib.hid (RD0.out.below hb); clear q0 q1 q2 q3; obtain ⟨q0, q1, q2, q3⟩ := L1.out.cb; clear hb ho5 hg5))
    | (go_at_call 6; (with_reducible refine (AP.out _ _ _ R5.out).mono ?_); rintro e V ⟨rfl, hb⟩; have L1 := Lib.hid (L1.out.next hb); have R5 := Lib.hid (R5.out.below hb); have RD := Lib.hid (RD.out.below hb); clear q0 q1 q2 q3; obtain ⟨q0, q1, q2, q3⟩ := L1.out.cb; clear hb)
    | (go_at_call 8; (with_reducible refine (OP.out _ RD.out).mono ?_); rintro e V ⟨A6, c6, rfl, h6, hb⟩; have L1 := Lib.hid (L1.out.next hb); have R5 := Lib.hid (R5.out.below hb); have RD := Lib.hid (RD.out.below hb); have R6 := Lib.hid h6; clear q0 q1 q2 q3; obtain ⟨q0, q1, q2, q3⟩ := L1.out.cb; clear hb h6)
    | (go_at_call 7; (with_reducible refine (RA.out _ _ _ R6.out).mono ?_); rintro e V ⟨rfl, hb⟩; have L1 := Lib.hid (L1.out.next hb); have R5 := Lib.hid (R5.out.below hb); have RD := Lib.hid (RD.out.below hb); clear q0 q1 q2 q3; obtain ⟨q0, q1, q2, q3⟩ := L1.out.cb; clear hb)
    | (go_at_call 9; (with_reducible refine (CO.out _ _ _ R5.out).mono ?_); rintro e V ⟨rfl, hb⟩; have L1 := Lib.hid (L1.out.next hb); have R5 := Lib.hid (R5.out.below hb); have RD := Lib.hid (RD.out.below hb); clear q0 q1 q2 q3; obtain ⟨q0, q1, q2, q3⟩ := L1.out.cb; clear hb))
  have hbd : Below V.heap.size V V.drew := below_drewN (Below.refl _ _) 1
  have LD := Lib.hid (L1.out.next hbd)
  have R5d := Lib.hid (R5.out.below hbd)
  have RDd := Lib.hid (RD.out.below hbd)
  clear hbd
  obtain ⟨y0, y1, y2, y3⟩ := LD.out.cb
  clear L0 R6
  go_region_held3 (fun W => W.cell? ⟨w.heap.size, 0, none⟩ = some (.int .i64 c.ins) ∧ W.cell? ⟨w.heap.size, 1, none⟩ = some (.int .i64 c.del) ∧ W.cell? ⟨w.heap.size, 2, none⟩ = some (.int .i64 c.chg) ∧ W.cell? ⟨w.heap.size, 3, none⟩ = some (.int .i64 c.swp))
    (first | exact ⟨q0, q1, q2, q3⟩ | exact ⟨y0, y1, y2, y3⟩)
    (first
      | (go_at_call 8; (with_reducible refine (OP.out _ RDd.out).mono ?_); rintro e V6 ⟨A6, c6, rfl, h6, hb⟩; have LD := Lib.hid (LD.out.next hb); have R5d := Lib.hid (R5d.out.below hb); have RDd := Lib.hid (RDd.out.below hb); clear q0 q1 q2 q3; obtain ⟨q0, q1, q2, q3⟩ := LD.out.cb; have R6 := Lib.hid h6; clear hb h6)
      | (go_at_call 11; (with_reducible refine (CS.out _).mono ?_); rintro e V7 ⟨rfl, hb⟩; have LD := Lib.hid (LD.out.next hb); have R5d := Lib.hid (R5d.out.below hb); have RDd := Lib.hid (RDd.out.below hb); clear q0 q1 q2 q3; obtain ⟨q0, q1, q2, q3⟩ := LD.out.cb; have R6 := Lib.hid (R6.out.below hb); clear hb)
      | (go_at_call 10; (with_reducible refine (RC.out _ _ _ R6.out).mono ?_); rintro e V8 ⟨rfl, hb⟩; have LD := Lib.hid (LD.out.next hb); have R5d := Lib.hid (R5d.out.below hb); have RDd := Lib.hid (RDd.out.below hb); clear q0 q1 q2 q3; obtain ⟨q0, q1, q2, q3⟩ := LD.out.cb; clear hb))
  go_wp2_with (go_at_call 12; (with_reducible refine (SM.out _ _ _ R5d.out RDd.out).mono ?_); rintro e V9 ⟨rfl, hb⟩; have LD := Lib.hid (LD.out.next hb); have R5d := Lib.hid (R5d.out.below hb); have RDd := Lib.hid (RDd.out.below hb); clear q0 q1 q2 q3; obtain ⟨q0, q1, q2, q3⟩ := LD.out.cb; clear hb)
  go_ret
  exact ⟨rfl, LD.out.bel⟩
set_option maxRecDepth 100000 in
set_option maxHeartbeats 4000000 in
theorem walk_editApplies (w : World) (s : ByteArray) (_ws : s.size ≤ maxLen) (A : Option Addr) (len cap : Nat) (l : List (Nat × Nat)) (hl : l.length = len) (hbA : (∀ o, o ∈ l → o.2 < 256) ∧ (A = none → cap = 0)) (hrd : RdO w A l) (hmx : len ≤ maxLen) (c : Ed.Cst) :
    Calls Try.prog 3 #[.string s, .slice A len cap, .agg #[.int .i64 c.ins, .int .i64 c.del, .int .i64 c.chg, .int .i64 c.swp]] w (PostB true w) := by
  have aw := fun V => awake_any V
  unfold PostB at aw ⊢
  have AW := Lib.hid aw
  obtain ⟨W1, hW1, hb1, hq1, hcb⟩ := cbox w c
  have L0 := Lib.hid (show LS w W1 w.heap.size c from ⟨hb1, hcb⟩)
  by_cases h1 : 130 < s.size
  · have g1 : decide ((130 : Int) < (s.size : Int)) = true := decide_eq_true (by omega)
    clear aw hcb hrd
    go_enter Try.func3, Try.ntmps3
    go_wp2_with fail
    rw [← hW1]
    go_wp2_with (go_at_call 5; (with_reducible refine (AW.out _).mono ?_); rintro e V ⟨rfl, hb⟩; have L1 := Lib.hid (L0.out.next hb); clear hb)
    go_ret
    exact ⟨rfl, L1.out.bel⟩
  · have g1 : decide ((130 : Int) < (s.size : Int)) = false := decide_eq_false (by omega)
    by_cases h2 : 130 < len
    · have g2 : decide ((130 : Int) < (len : Int)) = true := decide_eq_true (by omega)
      clear aw hcb hrd
      go_enter Try.func3, Try.ntmps3
      go_wp2_with fail
      rw [← hW1]
      go_wp2_with (go_at_call 5; (with_reducible refine (AW.out _).mono ?_); rintro e V ⟨rfl, hb⟩; have L1 := Lib.hid (L0.out.next hb); clear hb)
      go_ret
      exact ⟨rfl, L1.out.bel⟩
    · have g2 : decide ((130 : Int) < (len : Int)) = false := decide_eq_false (by omega)
      have ap := applies_any A len cap l s c W1 hl hbA.1 hbA.2 (hrd.below hb1) (by omega)
      unfold cstV PostB at ap
      have AP := Lib.hid ap
      obtain ⟨q0, q1, q2, q3⟩ := hcb
      clear aw hrd ap
      go_enter Try.func3, Try.ntmps3
      go_wp2_with fail
      rw [← hW1]
      clear hW1
      go_wp2_with (first
        | (go_at_call 4; (with_reducible refine AP.out.mono ?_); rintro e V ⟨rfl, hb⟩; have L1 := Lib.hid (L0.out.next hb); clear hb q0 q1 q2 q3)
        | (go_at_call 5; (with_reducible refine (AW.out _).mono ?_); rintro e V2 ⟨rfl, hb⟩; have L2 := Lib.hid (L1.out.next hb); clear hb))
      go_ret
      exact ⟨rfl, L2.out.bel⟩
end Go.Proofs.Ytdbkgchekhgbkaa
