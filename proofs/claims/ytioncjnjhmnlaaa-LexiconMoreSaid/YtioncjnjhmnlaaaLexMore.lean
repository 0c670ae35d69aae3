/-
  The law: a greater limit, and the limit 0.
-/
import Derived.Test.YtioncjnjhmnlaaaLexLaw2
namespace Go.Proofs.Ytioncjnjhmnlaaa
open Go.RowKit Lx
set_option linter.unusedVariables false
set_option linter.unusedSimpArgs false

set_option maxRecDepth 100000 in
set_option maxHeartbeats 8000000 in
theorem walk_lexiconMore (w : World) (A : Option Addr) (len cap : Nat) (ws : List ByteArray) (hlen : ws.length = len) (_h : len ≤ cap) (hrd : RdW w 0 A ws) (hmx : len ≤ maxLen) (s : ByteArray) (_h2 : s.size ≤ maxLen) (c : Ed.Cst) (most : Int) (wm : (Lit.int .i64 most).wf = true) (more : Int) (wo : (Lit.int .u8 more).wf = true) :
    Calls Try.prog 4 #[.slice A len cap, .string s, .agg #[.int .i64 c.ins, .int .i64 c.del, .int .i64 c.chg, .int .i64 c.swp], .int .i64 most, .int .u8 more] w (PostB true w) := by
  subst hlen
  obtain ⟨m1, m2⟩ := int_bd wm
  obtain ⟨o1, o2⟩ := u8_bd wo
  have HL : Hid (ws.length ≤ 9223372036854775807) := Lib.hid (by unfold maxLen at hmx; omega)
  have LS := Lib.hid (LS7.start w c A ws hrd)
  clear hrd hmx wm wo _h _h2
  by_cases f : fewOf ws
  · have HF : Hid (decide (fewOf ws) = true) := Lib.hid (decide_eq_true f)
    have HL2 : Hid (ws.length ≤ 1000000000) := Lib.hid (by have := f.2; omega)
    have hwl : ws.length ≤ 200 := f.2
    clear f
    by_cases h6 : s.size ≤ 60
    · have d1 : decide ((60 : Int) < (s.size : Int)) = false := decide_eq_false (by omega)
      by_cases hc : c.ok
      · have HC : Hid (decide c.ok = true) := Lib.hid (decide_eq_true hc)
        by_cases g1 : most ≤ 100000
        · have d2 : decide ((100000 : Int) < most) = false := decide_eq_false (by omega)
          by_cases g2 : -1000 ≤ most
          · have d3 : decide (most < (-1000 : Int)) = false := decide_eq_false (by omega)
            by_cases e0 : errNew ws = 0
            · have HE := Lib.hid e0
              have HOK := Lib.hid hc
              clear e0 hc m1 m2
              go_enter Try.func4, Try.ntmps4
              go_wp2_with fail
              have L0 := LS
              obtain ⟨q0, q1, q2, q3⟩ := L0.out.cb
              go_wp2_with (first
                | (go_at_call 7; (with_reducible refine (awake_any _).mono ?_); rintro e V ⟨rfl, hb⟩; have L0 := Lib.hid (L0.out.next hb); clear q0 q1 q2 q3; obtain ⟨q0, q1, q2, q3⟩ := L0.out.cb; (first | (have LX := Lib.hid (LX.out.below hb)) | skip); (first | (have R1 := Lib.hid (R1.out.below hb)) | skip); (first | (have R2 := Lib.hid (R2.out.below hb)) | skip); (first | (have R3 := Lib.hid (R3.out.below hb)) | skip); clear hb)
                | (go_at_call 8; (with_reducible refine (few_bool HF.out HL.out _ L0.out.rd).mono ?_); rintro e V ⟨rfl, hb⟩; have L0 := Lib.hid (L0.out.next hb); clear q0 q1 q2 q3; obtain ⟨q0, q1, q2, q3⟩ := L0.out.cb; (first | (have LX := Lib.hid (LX.out.below hb)) | skip); (first | (have R1 := Lib.hid (R1.out.below hb)) | skip); (first | (have R2 := Lib.hid (R2.out.below hb)) | skip); (first | (have R3 := Lib.hid (R3.out.below hb)) | skip); clear hb)
                | (go_at_call 9; (with_reducible refine (right_bool HC.out _).mono ?_); rintro e V ⟨rfl, hb⟩; have L0 := Lib.hid (L0.out.next hb); clear q0 q1 q2 q3; obtain ⟨q0, q1, q2, q3⟩ := L0.out.cb; (first | (have LX := Lib.hid (LX.out.below hb)) | skip); (first | (have R1 := Lib.hid (R1.out.below hb)) | skip); (first | (have R2 := Lib.hid (R2.out.below hb)) | skip); (first | (have R3 := Lib.hid (R3.out.below hb)) | skip); clear hb)
                | (go_at_call 10; (with_reducible refine (new_yes HE.out HL2.out _ L0.out.rd).mono ?_); rintro e V ⟨x, b, rfl, hx, hb⟩; have L0 := Lib.hid (L0.out.next hb); clear q0 q1 q2 q3; obtain ⟨q0, q1, q2, q3⟩ := L0.out.cb; (first | (have LX := Lib.hid (LX.out.below hb)) | skip); (first | (have R1 := Lib.hid (R1.out.below hb)) | skip); (first | (have R2 := Lib.hid (R2.out.below hb)) | skip); (first | (have R3 := Lib.hid (R3.out.below hb)) | skip); have LX := Lib.hid hx; clear hx; clear hb)
                | (go_at_call 11; (with_reducible refine (near_two most LX.out HOK.out h6).mono ?_); rintro e V ⟨A1, n1, k1, rfl, hr, hb⟩; have L0 := Lib.hid (L0.out.next hb); clear q0 q1 q2 q3; obtain ⟨q0, q1, q2, q3⟩ := L0.out.cb; (first | (have LX := Lib.hid (LX.out.below hb)) | skip); (first | (have R1 := Lib.hid (R1.out.below hb)) | skip); (first | (have R2 := Lib.hid (R2.out.below hb)) | skip); (first | (have R3 := Lib.hid (R3.out.below hb)) | skip); have R1 := Lib.hid hr; clear hr; clear hb)
                | (go_at_call 11; (with_reducible refine (near_two (most + more) LX.out HOK.out h6).mono ?_); rintro e V ⟨A2, n2, k2, rfl, hr, hb⟩; have L0 := Lib.hid (L0.out.next hb); clear q0 q1 q2 q3; obtain ⟨q0, q1, q2, q3⟩ := L0.out.cb; (first | (have LX := Lib.hid (LX.out.below hb)) | skip); (first | (have R1 := Lib.hid (R1.out.below hb)) | skip); (first | (have R2 := Lib.hid (R2.out.below hb)) | skip); (first | (have R3 := Lib.hid (R3.out.below hb)) | skip); have R2 := Lib.hid hr; clear hr; have sp := more_spec c ws s most (most + more) (by omega); have hn1 : n1 ≤ 1000000 := (by have := R1.out.1; have := near_len c ws s most; omega); have hle : (n1 : Int) ≤ (k2 : Int) := (by have := R1.out.1; have := R2.out.1; have := R2.out.2.1; have := sp.1; omega); have h21 : (n1 : Int) ≤ (n2 : Int) := (by have := R1.out.1; have := R2.out.1; have := sp.1; omega); have d4 : decide ((n2 : Int) < (n1 : Int)) = false := (decide_eq_false (by omega)); have RT := Lib.hid (show RdH V A2 (nearOf c ws s most) by have h := R2.out.2.2.2.1.take n1; rwa [R1.out.1, sp.2.1] at h); have SP := Lib.hid sp; clear sp; clear hb)
                | (go_at_call 14; refine (same_true R1.out.1 hn1 R1.out.2.2.2.1 RT.out).mono ?_; rintro e V ⟨rfl, hb⟩; have L0 := Lib.hid (L0.out.next hb); clear q0 q1 q2 q3; obtain ⟨q0, q1, q2, q3⟩ := L0.out.cb; (first | (have LX := Lib.hid (LX.out.below hb)) | skip); (first | (have R1 := Lib.hid (R1.out.below hb)) | skip); (first | (have R2 := Lib.hid (R2.out.below hb)) | skip); (first | (have R3 := Lib.hid (R3.out.below hb)) | skip); clear hb))
              have SP2 := Lib.hid (show ∀ k (hk : k < (nearOf c ws s (most + more)).length), n1 ≤ k → most < ((nearOf c ws s (most + more))[k]).2 from fun k hk h => SP.out.2.2 k hk (by have := R1.out.1; omega))
              clear SP RT d4 hle
              go_loopw [17] (fun j wr => ∃ k : Nat, n1 ≤ k ∧ k ≤ n2 ∧ j = .int .i64 (k : Int) ∧ Hid (V = wr)) (fun j _ => n2 - (intOf j).toNat)
              case atStart => exact ⟨n1, Nat.le_refl _, by omega, rfl, Lib.hid rfl⟩
              case round =>
                obtain ⟨k, hk1, hk2, rfl, hV⟩ := hrel
                have hV2 := hV.out
                subst hV2
                clear hV
                by_cases hlt : k < n2
                · have i1 : decide ((k : Int) < (n2 : Int)) = true := decide_eq_true (by omega)
                  have hkl : k < (nearOf c ws s (most + more)).length := by have := R2.out.1; omega
                  have hk9 : k < 1000000 := by have := near_len c ws s (most + more); omega
                  obtain ⟨b2, off, eA, hbl, hcl⟩ := R2.out.2.2.2.1 (by omega)
                  obtain ⟨-, z1⟩ := hcl k hkl
                  have hmo := SP2.out k hkl hk1
                  obtain ⟨d, hd⟩ : ∃ d, ((nearOf c ws s (most + more))[k]).2 = d := ⟨_, rfl⟩
                  rw [hd] at z1 hmo
                  have i2 : decide (d ≤ most) = false := decide_eq_false (by omega)
                  have hmo2 : ¬ d ≤ most := by omega
                  subst eA
                  clear hd hcl
                  go_wp2
                  go_roundw
                  case rel => exact ⟨k + 1, by omega, by omega, by go_num, Lib.hid (by first | rfl | trivial)⟩
                  case measure => simp [intOf]; omega
                · obtain rfl : k = n2 := by omega
                  have i1 : decide ((k : Int) < (k : Int)) = false := decide_eq_false (by omega)
                  have hw : Wds ws := by obtain ⟨_, _, _, _, _, _, _, _, _, _, h5⟩ := LX.out; exact h5
                  have nz := near_zero HOK.out hw s
                  have fd := fun V h => find_any b x ws s V h (by omega)
                  cases hf : fnd (txs ws) (tx s) with
                  | none =>
                    rw [hf] at nz fd
                    have NZ := Lib.hid nz; have FD := Lib.hid fd
                    clear nz fd hf hw
                    go_wp2_with (first
                      | (go_at_call 11; refine (near_two 0 LX.out HOK.out h6).mono ?_; rintro e V ⟨A3, n3, k3, rfl, hr, hb⟩; rw [NZ.out] at hr; obtain rfl : n3 = 0 := hr.1; have L0 := Lib.hid (L0.out.next hb); clear q0 q1 q2 q3; obtain ⟨q0, q1, q2, q3⟩ := L0.out.cb; (first | (have LX := Lib.hid (LX.out.below hb)) | skip); (first | (have R1 := Lib.hid (R1.out.below hb)) | skip); (first | (have R2 := Lib.hid (R2.out.below hb)) | skip); (first | (have R3 := Lib.hid (R3.out.below hb)) | skip); clear hb)
                      | (go_at_call 15; refine (FD.out _ LX.out).mono ?_; rintro e V ⟨rfl, hb⟩; simp only [Option.getD_none, Option.isSome_none]; have L0 := Lib.hid (L0.out.next hb); clear q0 q1 q2 q3; obtain ⟨q0, q1, q2, q3⟩ := L0.out.cb; (first | (have LX := Lib.hid (LX.out.below hb)) | skip); (first | (have R1 := Lib.hid (R1.out.below hb)) | skip); (first | (have R2 := Lib.hid (R2.out.below hb)) | skip); (first | (have R3 := Lib.hid (R3.out.below hb)) | skip); clear hb))
                    go_ret
                    exact ⟨rfl, L0.out.bel⟩
                  | some i =>
                    rw [hf] at nz fd
                    have NZ := Lib.hid nz; have FD := Lib.hid fd
                    clear nz fd hf hw
                    go_wp2_with (first
                      | (go_at_call 11; refine (near_two 0 LX.out HOK.out h6).mono ?_; rintro e V ⟨A3, n3, k3, rfl, hr, hb⟩; rw [NZ.out] at hr; obtain rfl : n3 = 1 := hr.1; have L0 := Lib.hid (L0.out.next hb); clear q0 q1 q2 q3; obtain ⟨q0, q1, q2, q3⟩ := L0.out.cb; (first | (have LX := Lib.hid (LX.out.below hb)) | skip); (first | (have R1 := Lib.hid (R1.out.below hb)) | skip); (first | (have R2 := Lib.hid (R2.out.below hb)) | skip); (first | (have R3 := Lib.hid (R3.out.below hb)) | skip); have R3 := Lib.hid hr; clear hr; clear hb)
                      | (go_at_call 15; refine (FD.out _ LX.out).mono ?_; rintro e V ⟨rfl, hb⟩; simp only [Option.getD_some, Option.isSome_some]; have L0 := Lib.hid (L0.out.next hb); clear q0 q1 q2 q3; obtain ⟨q0, q1, q2, q3⟩ := L0.out.cb; (first | (have LX := Lib.hid (LX.out.below hb)) | skip); (first | (have R1 := Lib.hid (R1.out.below hb)) | skip); (first | (have R2 := Lib.hid (R2.out.below hb)) | skip); (first | (have R3 := Lib.hid (R3.out.below hb)) | skip); clear hb)
                      | (go_at_call 14; refine (same_lit R3.out.2.2.2.1).mono ?_; rintro e V ⟨rfl, hb⟩; have L0 := Lib.hid (L0.out.next hb); clear q0 q1 q2 q3; obtain ⟨q0, q1, q2, q3⟩ := L0.out.cb; (first | (have LX := Lib.hid (LX.out.below hb)) | skip); (first | (have R1 := Lib.hid (R1.out.below hb)) | skip); (first | (have R2 := Lib.hid (R2.out.below hb)) | skip); (first | (have R3 := Lib.hid (R3.out.below hb)) | skip); clear hb))
                    go_ret
                    exact ⟨rfl, L0.out.bel⟩
            · have HE := Lib.hid e0
              clear e0 hc
              go_enter Try.func4, Try.ntmps4
              go_wp2_with fail
              have L0 := LS
              obtain ⟨q0, q1, q2, q3⟩ := L0.out.cb
              go_wp2_with (first
                | (go_at_call 7; (with_reducible refine (awake_any _).mono ?_); rintro e V ⟨rfl, hb⟩; have L0 := Lib.hid (L0.out.next hb); clear q0 q1 q2 q3; obtain ⟨q0, q1, q2, q3⟩ := L0.out.cb; (first | (have LX := Lib.hid (LX.out.below hb)) | skip); (first | (have R1 := Lib.hid (R1.out.below hb)) | skip); (first | (have R2 := Lib.hid (R2.out.below hb)) | skip); (first | (have R3 := Lib.hid (R3.out.below hb)) | skip); clear hb)
                | (go_at_call 8; (with_reducible refine (few_bool HF.out HL.out _ L0.out.rd).mono ?_); rintro e V ⟨rfl, hb⟩; have L0 := Lib.hid (L0.out.next hb); clear q0 q1 q2 q3; obtain ⟨q0, q1, q2, q3⟩ := L0.out.cb; (first | (have LX := Lib.hid (LX.out.below hb)) | skip); (first | (have R1 := Lib.hid (R1.out.below hb)) | skip); (first | (have R2 := Lib.hid (R2.out.below hb)) | skip); (first | (have R3 := Lib.hid (R3.out.below hb)) | skip); clear hb)
                | (go_at_call 9; (with_reducible refine (right_bool HC.out _).mono ?_); rintro e V ⟨rfl, hb⟩; have L0 := Lib.hid (L0.out.next hb); clear q0 q1 q2 q3; obtain ⟨q0, q1, q2, q3⟩ := L0.out.cb; (first | (have LX := Lib.hid (LX.out.below hb)) | skip); (first | (have R1 := Lib.hid (R1.out.below hb)) | skip); (first | (have R2 := Lib.hid (R2.out.below hb)) | skip); (first | (have R3 := Lib.hid (R3.out.below hb)) | skip); clear hb)
                | (go_at_call 10; (with_reducible refine (new_no HE.out HL2.out _ L0.out.rd).mono ?_); rintro e V ⟨en, hen, rfl, hb⟩; have hne : ((en : Int) != 0) = true := (by rw [bne_iff_ne]; omega); have L0 := Lib.hid (L0.out.next hb); clear q0 q1 q2 q3; obtain ⟨q0, q1, q2, q3⟩ := L0.out.cb; (first | (have LX := Lib.hid (LX.out.below hb)) | skip); (first | (have R1 := Lib.hid (R1.out.below hb)) | skip); (first | (have R2 := Lib.hid (R2.out.below hb)) | skip); (first | (have R3 := Lib.hid (R3.out.below hb)) | skip); clear hb))
              go_ret
              exact ⟨rfl, L0.out.bel⟩
          · have d3 : decide (most < (-1000 : Int)) = true := decide_eq_true (by omega)
            clear hc
            go_enter Try.func4, Try.ntmps4
            go_wp2_with fail
            have L0 := LS
            obtain ⟨q0, q1, q2, q3⟩ := L0.out.cb
            go_wp2_with (first
              | (go_at_call 7; (with_reducible refine (awake_any _).mono ?_); rintro e V ⟨rfl, hb⟩; have L0 := Lib.hid (L0.out.next hb); clear q0 q1 q2 q3; obtain ⟨q0, q1, q2, q3⟩ := L0.out.cb; (first | (have LX := Lib.hid (LX.out.below hb)) | skip); (first | (have R1 := Lib.hid (R1.out.below hb)) | skip); (first | (have R2 := Lib.hid (R2.out.below hb)) | skip); (first | (have R3 := Lib.hid (R3.out.below hb)) | skip); clear hb)
              | (go_at_call 8; (with_reducible refine (few_bool HF.out HL.out _ L0.out.rd).mono ?_); rintro e V ⟨rfl, hb⟩; have L0 := Lib.hid (L0.out.next hb); clear q0 q1 q2 q3; obtain ⟨q0, q1, q2, q3⟩ := L0.out.cb; (first | (have LX := Lib.hid (LX.out.below hb)) | skip); (first | (have R1 := Lib.hid (R1.out.below hb)) | skip); (first | (have R2 := Lib.hid (R2.out.below hb)) | skip); (first | (have R3 := Lib.hid (R3.out.below hb)) | skip); clear hb)
              | (go_at_call 9; (with_reducible refine (right_bool HC.out _).mono ?_); rintro e V ⟨rfl, hb⟩; have L0 := Lib.hid (L0.out.next hb); clear q0 q1 q2 q3; obtain ⟨q0, q1, q2, q3⟩ := L0.out.cb; (first | (have LX := Lib.hid (LX.out.below hb)) | skip); (first | (have R1 := Lib.hid (R1.out.below hb)) | skip); (first | (have R2 := Lib.hid (R2.out.below hb)) | skip); (first | (have R3 := Lib.hid (R3.out.below hb)) | skip); clear hb))
            go_ret
            exact ⟨rfl, L0.out.bel⟩
        · have d2 : decide ((100000 : Int) < most) = true := decide_eq_true (by omega)
          clear hc
          go_enter Try.func4, Try.ntmps4
          go_wp2_with fail
          have L0 := LS
          obtain ⟨q0, q1, q2, q3⟩ := L0.out.cb
          go_wp2_with (first
            | (go_at_call 7; (with_reducible refine (awake_any _).mono ?_); rintro e V ⟨rfl, hb⟩; have L0 := Lib.hid (L0.out.next hb); clear q0 q1 q2 q3; obtain ⟨q0, q1, q2, q3⟩ := L0.out.cb; (first | (have LX := Lib.hid (LX.out.below hb)) | skip); (first | (have R1 := Lib.hid (R1.out.below hb)) | skip); (first | (have R2 := Lib.hid (R2.out.below hb)) | skip); (first | (have R3 := Lib.hid (R3.out.below hb)) | skip); clear hb)
            | (go_at_call 8; (with_reducible refine (few_bool HF.out HL.out _ L0.out.rd).mono ?_); rintro e V ⟨rfl, hb⟩; have L0 := Lib.hid (L0.out.next hb); clear q0 q1 q2 q3; obtain ⟨q0, q1, q2, q3⟩ := L0.out.cb; (first | (have LX := Lib.hid (LX.out.below hb)) | skip); (first | (have R1 := Lib.hid (R1.out.below hb)) | skip); (first | (have R2 := Lib.hid (R2.out.below hb)) | skip); (first | (have R3 := Lib.hid (R3.out.below hb)) | skip); clear hb)
            | (go_at_call 9; (with_reducible refine (right_bool HC.out _).mono ?_); rintro e V ⟨rfl, hb⟩; have L0 := Lib.hid (L0.out.next hb); clear q0 q1 q2 q3; obtain ⟨q0, q1, q2, q3⟩ := L0.out.cb; (first | (have LX := Lib.hid (LX.out.below hb)) | skip); (first | (have R1 := Lib.hid (R1.out.below hb)) | skip); (first | (have R2 := Lib.hid (R2.out.below hb)) | skip); (first | (have R3 := Lib.hid (R3.out.below hb)) | skip); clear hb))
          go_ret
          exact ⟨rfl, L0.out.bel⟩
      · have HC : Hid (decide c.ok = false) := Lib.hid (decide_eq_false hc)
        clear hc
        go_enter Try.func4, Try.ntmps4
        go_wp2_with fail
        have L0 := LS
        obtain ⟨q0, q1, q2, q3⟩ := L0.out.cb
        go_wp2_with (first
          | (go_at_call 7; (with_reducible refine (awake_any _).mono ?_); rintro e V ⟨rfl, hb⟩; have L0 := Lib.hid (L0.out.next hb); clear q0 q1 q2 q3; obtain ⟨q0, q1, q2, q3⟩ := L0.out.cb; (first | (have LX := Lib.hid (LX.out.below hb)) | skip); (first | (have R1 := Lib.hid (R1.out.below hb)) | skip); (first | (have R2 := Lib.hid (R2.out.below hb)) | skip); (first | (have R3 := Lib.hid (R3.out.below hb)) | skip); clear hb)
          | (go_at_call 8; (with_reducible refine (few_bool HF.out HL.out _ L0.out.rd).mono ?_); rintro e V ⟨rfl, hb⟩; have L0 := Lib.hid (L0.out.next hb); clear q0 q1 q2 q3; obtain ⟨q0, q1, q2, q3⟩ := L0.out.cb; (first | (have LX := Lib.hid (LX.out.below hb)) | skip); (first | (have R1 := Lib.hid (R1.out.below hb)) | skip); (first | (have R2 := Lib.hid (R2.out.below hb)) | skip); (first | (have R3 := Lib.hid (R3.out.below hb)) | skip); clear hb)
          | (go_at_call 9; (with_reducible refine (right_bool HC.out _).mono ?_); rintro e V ⟨rfl, hb⟩; have L0 := Lib.hid (L0.out.next hb); clear q0 q1 q2 q3; obtain ⟨q0, q1, q2, q3⟩ := L0.out.cb; (first | (have LX := Lib.hid (LX.out.below hb)) | skip); (first | (have R1 := Lib.hid (R1.out.below hb)) | skip); (first | (have R2 := Lib.hid (R2.out.below hb)) | skip); (first | (have R3 := Lib.hid (R3.out.below hb)) | skip); clear hb))
        go_ret
        exact ⟨rfl, L0.out.bel⟩
    · have d1 : decide ((60 : Int) < (s.size : Int)) = true := decide_eq_true (by omega)
      go_enter Try.func4, Try.ntmps4
      go_wp2_with fail
      have L0 := LS
      obtain ⟨q0, q1, q2, q3⟩ := L0.out.cb
      go_wp2_with (first
        | (go_at_call 7; (with_reducible refine (awake_any _).mono ?_); rintro e V ⟨rfl, hb⟩; have L0 := Lib.hid (L0.out.next hb); clear q0 q1 q2 q3; obtain ⟨q0, q1, q2, q3⟩ := L0.out.cb; (first | (have LX := Lib.hid (LX.out.below hb)) | skip); (first | (have R1 := Lib.hid (R1.out.below hb)) | skip); (first | (have R2 := Lib.hid (R2.out.below hb)) | skip); (first | (have R3 := Lib.hid (R3.out.below hb)) | skip); clear hb)
        | (go_at_call 8; (with_reducible refine (few_bool HF.out HL.out _ L0.out.rd).mono ?_); rintro e V ⟨rfl, hb⟩; have L0 := Lib.hid (L0.out.next hb); clear q0 q1 q2 q3; obtain ⟨q0, q1, q2, q3⟩ := L0.out.cb; (first | (have LX := Lib.hid (LX.out.below hb)) | skip); (first | (have R1 := Lib.hid (R1.out.below hb)) | skip); (first | (have R2 := Lib.hid (R2.out.below hb)) | skip); (first | (have R3 := Lib.hid (R3.out.below hb)) | skip); clear hb))
      go_ret
      exact ⟨rfl, L0.out.bel⟩
  · have HF : Hid (decide (fewOf ws) = false) := Lib.hid (decide_eq_false f)
    clear f
    go_enter Try.func4, Try.ntmps4
    go_wp2_with fail
    have L0 := LS
    obtain ⟨q0, q1, q2, q3⟩ := L0.out.cb
    go_wp2_with (first
      | (go_at_call 7; (with_reducible refine (awake_any _).mono ?_); rintro e V ⟨rfl, hb⟩; have L0 := Lib.hid (L0.out.next hb); clear q0 q1 q2 q3; obtain ⟨q0, q1, q2, q3⟩ := L0.out.cb; (first | (have LX := Lib.hid (LX.out.below hb)) | skip); (first | (have R1 := Lib.hid (R1.out.below hb)) | skip); (first | (have R2 := Lib.hid (R2.out.below hb)) | skip); (first | (have R3 := Lib.hid (R3.out.below hb)) | skip); clear hb)
      | (go_at_call 8; (with_reducible refine (few_bool HF.out HL.out _ L0.out.rd).mono ?_); rintro e V ⟨rfl, hb⟩; have L0 := Lib.hid (L0.out.next hb); clear q0 q1 q2 q3; obtain ⟨q0, q1, q2, q3⟩ := L0.out.cb; (first | (have LX := Lib.hid (LX.out.below hb)) | skip); (first | (have R1 := Lib.hid (R1.out.below hb)) | skip); (first | (have R2 := Lib.hid (R2.out.below hb)) | skip); (first | (have R3 := Lib.hid (R3.out.below hb)) | skip); clear hb))
    go_ret
    exact ⟨rfl, L0.out.bel⟩
end Go.Proofs.Ytioncjnjhmnlaaa
