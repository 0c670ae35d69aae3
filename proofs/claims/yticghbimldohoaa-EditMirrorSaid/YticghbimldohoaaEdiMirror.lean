/-
  EditMirror at any arguments.
-/
import Derived.Test.YticghbimldohoaaEdiJoined
import Derived.Deep.RegionHeld3
namespace Go.Proofs.Yticghbimldohoaa
open Go.RowKit Go.Shelf
set_option linter.unusedVariables false
set_option linter.unusedSimpArgs false

theorem wpList_appB {ops : Array Oper} {rest : List Oper} {o : Oper} {a : Act} {Q : Exit → Act → World → Prop} (w : World) (hg : o.guard = none) (s x : Operand)
    (hop : o.op = .call { callee := .builtin .append, args := #[s, x], argTypes := #[37, 37] }) (base n c : Nat) (A : Option Addr) (l : List UInt8) (hv : a.eval s = .slice A n c)
    (hown : OwnU base w A n c l) (g : Nat) (p : UInt8) (hx : a.eval x = .slice (some ⟨g, 0, none⟩) 1 1) (hc : w.cell? ⟨g, 0, none⟩ = some (.int .u8 p.toNat)) (hl : n + 1 ≤ 1000000000) (hb : base ≤ w.heap.size)
    (hK : ∀ A' n' c' w', n' = n + 1 → OwnU base w' A' n' c' (l ++ [p]) → w.grownBy w' (Value.slice A n c).ownBlock → wpList Try.prog ops Q rest (a.put o.dst (.slice A' n' c')) w') :
    wpList Try.prog ops Q (o :: rest) a w := by
  obtain ⟨i0, hi, hz0, hz1, hz2⟩ := info_parts infoU8
  refine wpList_append_own _ hg _ _ 37 hop base 5 i0 (.int .u8 0) 1 1 Try.underlying37 hi hz0 hz1 hz2 rfl (by decide) _ _ _ hv hown.2 ⟨g, 0, none⟩ 1 1 [.int .u8 p.toNat] hx rfl ?_ ?_ ?_ ?_ hb ?_
  · intro j u hj
    match j, hj with
    | 0, hj => simp at hj; subst hj; simpa [Addr.add] using hc
  · intro u hu; simp at hu; subst hu; rfl
  · unfold maxLen; omega
  · omega
  · intro v' w' h1 h2 _
    have hl1 := hown.1
    rcases h1.2 with ⟨rfl, h4⟩ | ⟨g', cap, cur, rfl, h5, h6, h7⟩
    · omega
    · exact hK _ _ cap w' rfl ⟨by simp [hl1], by rw [Lib.byteCells_append]; exact h1⟩ h2
/-- a text written backwards -/
def rev (s : ByteArray) : ByteArray := ⟨(tx s).reverse.toArray⟩
theorem tx_rev (s : ByteArray) : tx (rev s) = (tx s).reverse := by simp [rev, tx]
theorem rev_size (s : ByteArray) : (rev s).size = s.size := by rw [← tx_len, tx_rev, List.length_reverse, tx_len]
structure BS (s : ByteArray) (w W : World) (A : Option Addr) (n c : Nat) (j : Nat) : Prop where
  bel : Below w.heap.size w W
  own : OwnU w.heap.size W A n c ((tx s).drop j).reverse
set_option maxHeartbeats 4000000 in
theorem back_any (s : ByteArray) (hs : s.size ≤ 60) (w : World) : Calls Try.prog 23 #[.string s] w fun e w' => e = .returned (.string (rev s)) ∧ Below w.heap.size w w' := by
  have HS0 : Hid (BS s w w none 0 0 s.size) := Lib.hid ⟨Below.refl _ _, by rw [List.drop_of_length_le (by rw [tx_len]; exact Nat.le_refl _)]; exact OwnU.nil _ _⟩
  have hsi : (s.size : Int) ≤ 60 := by omega
  go_enter Try.func23, Try.ntmps23
  go_wp2
  go_loopw [3, 4] (fun s3 s4 wr => ∃ (j : Nat) (q : Int) (P : Option Addr) (n c : Nat), s4 = .int .i64 q ∧ q = (j : Int) - 1 ∧ s3 = .slice P n c ∧ j ≤ s.size ∧ Hid (BS s w wr P n c j)) (fun _ s4 _ => (intOf s4 + 1).toNat)
  case atStart => exact ⟨s.size, _, none, 0, 0, rfl, by go_num, rfl, Nat.le_refl _, HS0⟩
  case round =>
    obtain ⟨j, q, P, n, c, rfl, hq, rfl, hj, HS⟩ := hrel
    clear HS0
    by_cases hlt : 0 < j
    · obtain ⟨m, rfl⟩ : ∃ m, j = m + 1 := ⟨j - 1, by omega⟩
      obtain rfl : q = (m : Int) := by omega
      clear hq
      have hm0 : (0 : Int) ≤ (m : Int) := by omega
      have hm1 : (m : Int) < (s.size : Int) := by omega
      have hm : m < s.size := by omega
      have hge : decide ((m : Int) ≥ 0) = true := decide_eq_true hm0
      obtain ⟨x, hx⟩ : ∃ x, s[m] = x := ⟨_, rfl⟩
      have hd := tx_drop s m hm
      rw [hx] at hd
      have HD := Lib.hid hd
      have hn := HS.out.own.1
      rw [List.length_reverse, List.length_drop, tx_len] at hn
      have HN := Lib.hid hn
      clear hd hn
      go_wp2_with (at_builtin; refine wpList_appB _ rfl (.tmp 12) (.tmp 16) rfl w.heap.size n c P _ rfl (HS.out.own.below (below_new wr _)) _ x rfl (by go_simp) (by have := HN.out; omega) (by have := HS.out.bel.size; simp; omega) ?_; intro P2 n2 c2 w5 hn2 ho5 hg5; have HO5 := Lib.hid ho5; have HB5 := Lib.hid (Below.grown (HS.out.bel.trans ((below_new wr _).mono HS.out.bel.size)) hg5 (by have := HS.out.bel.size; simp; omega) (fun q hq => (HS.out.own.2.lt q hq).1)); clear hn2 ho5 hg5)
      go_roundw
      case rel =>
        refine ⟨m, _, P2, n2, c2, rfl, by go_num, rfl, by omega, Lib.hid ⟨HB5.out, ?_⟩⟩
        rw [HD.out, List.reverse_cons]; exact HO5.out
      case measure => simp [intOf]
    · obtain rfl : j = 0 := by omega
      obtain rfl : q = -1 := by omega
      clear hq hlt hj hsi
      have hcv := conv_ownU HS.out.own
      rw [List.drop_zero] at hcv
      have HB := Lib.hid HS.out.bel
      go_wp2
      go_ret
      exact ⟨rfl, HB.out⟩
theorem LS.drew {w W : World} {q : Nat} {c : Ed.Cst} (h : LS w W q c) : LS w W.drew q c := ⟨h.bel.drew, h.cb⟩
theorem tx_eq {a b : ByteArray} : a = b ↔ tx a = tx b := ⟨fun h => by rw [h], tx_inj⟩
set_option maxRecDepth 100000 in
set_option maxHeartbeats 8000000 in
theorem walk_editMirror (a : ByteArray) (wa : a.size ≤ maxLen) (b : ByteArray) (wb : b.size ≤ maxLen) (c : Ed.Cst) (w : World) :
    Calls Try.prog 7 #[.string a, .string b, cstV c] w (PostB true w) := by
  obtain ⟨W1, hW1, hb1, hq1, hcb⟩ := cbox w c
  have aw := awake_any W1
  have rt := fun V => right_any c V
  unfold cstV at rt ⊢
  have AW := Lib.hid aw; have RT := Lib.hid rt; have L0 := Lib.hid (show LS w W1 w.heap.size c from ⟨hb1, hcb⟩)
  by_cases h1 : a.size ≤ 60
  · have g1 : decide ((60 : Int) < (a.size : Int)) = false := decide_eq_false (by omega)
    by_cases h2 : b.size ≤ 60
    · have g2 : decide ((60 : Int) < (b.size : Int)) = false := decide_eq_false (by omega)
      by_cases hc : c.ok
      · have hr : ∀ V, Calls Try.prog 18 #[.agg #[.int .i64 c.ins, .int .i64 c.del, .int .i64 c.chg, .int .i64 c.swp]] V fun e w' => e = .returned (.bool true) ∧ Below V.heap.size V w' := fun V => (rt V).mono fun e w' ⟨h1, h2⟩ => ⟨by rw [h1, decide_eq_true hc], h2⟩
        obtain ⟨n, hn⟩ : ∃ n, Ed.D c (tx a) (tx b) = n := ⟨_, rfl⟩
        have d1 := fun V => dist_in hc a b h1 h2 hn V
        have d2 := fun V => dist_in (Ed.Cst.flip_ok hc) b a h2 h1 (n := n) (by rw [Ed.D_flip, hn]) V
        have d3 := fun V => dist_in hc (rev a) (rev b) (by rw [rev_size]; exact h1) (by rw [rev_size]; exact h2) (n := n) (by rw [tx_rev, tx_rev, Ed.D_back hc, hn]) V
        have d4 := fun V => dist_in hc a a h1 h1 (n := 0) (Ed.D_self hc _) V
        have e3 : (n == 0) = (a.toList == b.toList) := by
          by_cases h : a = b
          · subst h; rw [beq_self_eq_true, ← hn, Ed.D_self hc]; rfl
          · have hne : n ≠ 0 := fun h0 => h (tx_inj (Ed.D_zero hc _ _ _ (Nat.le_refl _) (by rw [hn, h0])))
            have hl : a.toList ≠ b.toList := fun h0 => h (by
              rw [ByteArray.toList_eq, ByteArray.toList_eq] at h0
              apply ByteArray.ext; apply Array.ext'; exact h0)
            rw [beq_eq_false_iff_ne.2 hne, beq_eq_false_iff_ne.2 hl]
        unfold cstV at d1 d2 d3 d4
        unfold Ed.Cst.flip at d2
        simp only at d2
        have BA := Lib.hid (fun V => back_any a h1 V); have BB := Lib.hid (fun V => back_any b h2 V)
        have HR := Lib.hid hr; have D1 := Lib.hid d1; have D2 := Lib.hid d2; have D3 := Lib.hid d3; have D4 := Lib.hid d4
        clear hr rt aw hcb hb1 RT d1 d2 d3 d4 hn hc h1 h2
        go_enter Try.func7, Try.ntmps7
        go_wp2_with fail
        rw [← hW1]
        clear hW1
        go_wp2_with (first
          | (go_at_call 11; (with_reducible refine AW.out.mono ?_); rintro e V ⟨rfl, hb⟩; have h1 := L0.out.next hb; have L1 := Lib.hid h1; obtain ⟨q0, q1, q2, q3⟩ := h1.cb; clear hb h1)
          | (go_at_call 18; (with_reducible refine (HR.out _).mono ?_); rintro e V2 ⟨rfl, hb⟩; have h1 := L1.out.next hb; have L2 := Lib.hid h1; obtain ⟨u0, u1, u2, u3⟩ := h1.cb; clear hb h1 q0 q1 q2 q3)
          | (go_at_call 16; (with_reducible refine (D1.out _).mono ?_); rintro e V3 ⟨rfl, hb⟩; have h1 := L2.out.next hb; have L3 := Lib.hid h1; obtain ⟨q0, q1, q2, q3⟩ := h1.cb; have z0 := fun o => cell_keep q0 (below_new V3 o); have z1 := fun o => cell_keep q1 (below_new V3 o); have z2 := fun o => cell_keep q2 (below_new V3 o); have z3 := fun o => cell_keep q3 (below_new V3 o); clear hb h1 u0 u1 u2 u3)
          | (go_at_call 16; (with_reducible refine (D2.out _).mono ?_); rintro e V4 ⟨rfl, hb⟩; have h1 := (L3.out.next (below_new V3 _)).next hb; have L4 := Lib.hid h1; obtain ⟨u0, u1, u2, u3⟩ := h1.cb; clear hb h1 q0 q1 q2 q3 z0 z1 z2 z3))
        have L5 := Lib.hid L4.out.drew
        have y0 : V4.drew.cell? ⟨w.heap.size, 0, none⟩ = some (.int .i64 c.ins) := u0
        have y1 : V4.drew.cell? ⟨w.heap.size, 1, none⟩ = some (.int .i64 c.del) := u1
        have y2 : V4.drew.cell? ⟨w.heap.size, 2, none⟩ = some (.int .i64 c.chg) := u2
        have y3 : V4.drew.cell? ⟨w.heap.size, 3, none⟩ = some (.int .i64 c.swp) := u3
        go_region_held3 (fun V => V.cell? ⟨w.heap.size, 0, none⟩ = some (.int .i64 c.ins) ∧ V.cell? ⟨w.heap.size, 1, none⟩ = some (.int .i64 c.del) ∧ V.cell? ⟨w.heap.size, 2, none⟩ = some (.int .i64 c.chg) ∧ V.cell? ⟨w.heap.size, 3, none⟩ = some (.int .i64 c.swp))
          (first | exact ⟨u0, u1, u2, u3⟩ | exact ⟨y0, y1, y2, y3⟩)
          (first
            | (go_at_call 23; (with_reducible refine (BA.out _).mono ?_); rintro e V ⟨rfl, hb⟩; have L5 := Lib.hid (L5.out.next hb); clear u0 u1 u2 u3; obtain ⟨u0, u1, u2, u3⟩ := L5.out.cb; clear hb)
            | (go_at_call 23; (with_reducible refine (BB.out _).mono ?_); rintro e V ⟨rfl, hb⟩; have L5 := Lib.hid (L5.out.next hb); clear u0 u1 u2 u3; obtain ⟨u0, u1, u2, u3⟩ := L5.out.cb; clear hb)
            | (go_at_call 16; (with_reducible refine (D3.out _).mono ?_); rintro e V ⟨rfl, hb⟩; have L5 := Lib.hid (L5.out.next hb); clear u0 u1 u2 u3; obtain ⟨u0, u1, u2, u3⟩ := L5.out.cb; clear hb))
        go_wp2_with (go_at_call 16; (with_reducible refine (D4.out _).mono ?_); rintro e V6 ⟨rfl, hb⟩; have L6 := Lib.hid (L5.out.next hb); clear u0 u1 u2 u3 hb)
        go_ret
        exact ⟨rfl, L6.out.bel⟩
      · have hr : ∀ V, Calls Try.prog 18 #[.agg #[.int .i64 c.ins, .int .i64 c.del, .int .i64 c.chg, .int .i64 c.swp]] V fun e w' => e = .returned (.bool false) ∧ Below V.heap.size V w' := fun V => (rt V).mono fun e w' ⟨h1, h2⟩ => ⟨by rw [h1, decide_eq_false hc], h2⟩
        have HR := Lib.hid hr
        clear hr rt aw hcb hc hb1 RT
        go_enter Try.func7, Try.ntmps7
        go_wp2_with fail
        rw [← hW1]
        clear hW1
        go_wp2_with (first
          | (go_at_call 11; (with_reducible refine AW.out.mono ?_); rintro e V ⟨rfl, hb⟩; have h1 := L0.out.next hb; have L1 := Lib.hid h1; obtain ⟨q0, q1, q2, q3⟩ := h1.cb; clear hb h1)
          | (go_at_call 18; (with_reducible refine (HR.out _).mono ?_); rintro e V2 ⟨rfl, hb⟩; have L2 := Lib.hid (L1.out.next hb); clear hb))
        go_ret
        exact ⟨rfl, L2.out.bel⟩
    · have g2 : decide ((60 : Int) < (b.size : Int)) = true := decide_eq_true (by omega)
      clear rt aw hcb hb1 RT
      go_enter Try.func7, Try.ntmps7
      go_wp2_with fail
      rw [← hW1]
      clear hW1
      go_wp2_with (go_at_call 11; (with_reducible refine AW.out.mono ?_); rintro e V ⟨rfl, hb⟩; have L1 := Lib.hid (L0.out.next hb); clear hb)
      go_ret
      exact ⟨rfl, L1.out.bel⟩
  · have g1 : decide ((60 : Int) < (a.size : Int)) = true := decide_eq_true (by omega)
    clear rt aw hcb hb1 RT
    go_enter Try.func7, Try.ntmps7
    go_wp2_with fail
    rw [← hW1]
    clear hW1
    go_wp2_with (go_at_call 11; (with_reducible refine AW.out.mono ?_); rintro e V ⟨rfl, hb⟩; have L1 := Lib.hid (L0.out.next hb); clear hb)
    go_ret
    exact ⟨rfl, L1.out.bel⟩
end Go.Proofs.Yticghbimldohoaa
