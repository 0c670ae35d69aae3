/-
  The law: the hits are exactly the words within the limit, in order.
-/
import Derived.Test.YtioncjnjhmnlaaaLexLaw2
import Derived.Test.YtioncjnjhmnlaaaLexAllP
import Derived.Deep.RegionHeld3
import Derived.BigQuiet
namespace Go.Proofs.Ytioncjnjhmnlaaa
open Go.RowKit Lx
set_option linter.unusedVariables false
set_option linter.unusedSimpArgs false

theorem head_at (l : List (Int × Int)) (h : 0 < l.length) : (l[0]).2 = (l.headD (0, 0)).2 := by
  cases l with
  | nil => simp at h
  | cons y l => rfl
theorem dist_two {c : Ed.Cst} (hc : c.ok) {s u : ByteArray} (hs : s.size ≤ 60) (hu : u.size ≤ 40) (V : World) :
    Calls Try.prog 13 #[.string s, .string u, .agg #[.int .i64 c.ins, .int .i64 c.del, .int .i64 c.chg, .int .i64 c.swp]] V fun e w' => e = .returned (.tuple #[.int .i64 (Ed.D c (tx s) (tx u)), .int .i64 0]) ∧ Below V.heap.size V w' := by
  have he : errOf c s u = 0 := by
    unfold errOf
    rw [if_pos hc, if_neg (by omega)]
  refine Calls.mono (distance_any c s u V) ?_
  rintro e w' ⟨rfl, hb⟩
  refine ⟨?_, hb⟩
  unfold distOf
  rw [if_pos he, he]
set_option maxRecDepth 100000 in
set_option maxHeartbeats 8000000 in
theorem walk_lexiconAll (w : World) (A : Option Addr) (len cap : Nat) (ws : List ByteArray) (hlen : ws.length = len) (_h : len ≤ cap) (hrd : RdW w 0 A ws) (hmx : len ≤ maxLen) (s : ByteArray) (_h2 : s.size ≤ maxLen) (c : Ed.Cst) (most : Int) (wm : (Lit.int .i64 most).wf = true) :
    Calls Try.prog 3 #[.slice A len cap, .string s, .agg #[.int .i64 c.ins, .int .i64 c.del, .int .i64 c.chg, .int .i64 c.swp], .int .i64 most] w (PostB true w) := by
  subst hlen
  have HN0 : Hid (ws.length ≤ 9223372036854775807) := Lib.hid (by unfold maxLen at hmx; omega)
  have LS := Lib.hid (LS7.start w c A ws hrd)
  clear hrd hmx wm _h _h2
  by_cases f : fewOf ws
  · have HF : Hid (decide (fewOf ws) = true) := Lib.hid (decide_eq_true f)
    have HL2 : Hid (ws.length ≤ 1000000000) := Lib.hid (by have := f.2; omega)
    have hwl : ws.length ≤ 200 := f.2
    clear f
    by_cases h6 : s.size ≤ 60
    · have d1 : decide ((60 : Int) < (s.size : Int)) = false := decide_eq_false (by omega)
      by_cases hc : c.ok
      · have HC : Hid (decide c.ok = true) := Lib.hid (decide_eq_true hc)
        by_cases e0 : errNew ws = 0
        · have HE := Lib.hid e0
          have HOK := Lib.hid hc
          clear e0 hc
          go_enter Try.func3, Try.ntmps3
          go_wp2_with fail
          have L0 := LS
          obtain ⟨q0, q1, q2, q3⟩ := L0.out.cb
          go_wp2_with (first
            | (go_at_call 7; (with_reducible refine (awake_any _).mono ?_); rintro e V ⟨rfl, hb⟩; have L0 := Lib.hid (L0.out.next hb); clear q0 q1 q2 q3; obtain ⟨q0, q1, q2, q3⟩ := L0.out.cb; (first | (have LX := Lib.hid (LX.out.below hb)) | skip); (first | (have R1 := Lib.hid (R1.out.below hb)) | skip); (first | (have RB := Lib.hid (RB.out.below hb)) | skip); clear hb)
            | (go_at_call 8; (with_reducible refine (few_bool HF.out HN0.out _ L0.out.rd).mono ?_); rintro e V ⟨rfl, hb⟩; have L0 := Lib.hid (L0.out.next hb); clear q0 q1 q2 q3; obtain ⟨q0, q1, q2, q3⟩ := L0.out.cb; (first | (have LX := Lib.hid (LX.out.below hb)) | skip); (first | (have R1 := Lib.hid (R1.out.below hb)) | skip); (first | (have RB := Lib.hid (RB.out.below hb)) | skip); clear hb)
            | (go_at_call 9; (with_reducible refine (right_bool HC.out _).mono ?_); rintro e V ⟨rfl, hb⟩; have L0 := Lib.hid (L0.out.next hb); clear q0 q1 q2 q3; obtain ⟨q0, q1, q2, q3⟩ := L0.out.cb; (first | (have LX := Lib.hid (LX.out.below hb)) | skip); (first | (have R1 := Lib.hid (R1.out.below hb)) | skip); (first | (have RB := Lib.hid (RB.out.below hb)) | skip); clear hb)
            | (go_at_call 10; (with_reducible refine (new_yes HE.out HL2.out _ L0.out.rd).mono ?_); rintro e V ⟨x, b, rfl, hx, hb⟩; have L0 := Lib.hid (L0.out.next hb); clear q0 q1 q2 q3; obtain ⟨q0, q1, q2, q3⟩ := L0.out.cb; (first | (have LX := Lib.hid (LX.out.below hb)) | skip); (first | (have R1 := Lib.hid (R1.out.below hb)) | skip); (first | (have RB := Lib.hid (RB.out.below hb)) | skip); have LX := Lib.hid hx; clear hx; clear hb)
            | (go_at_call 11; (with_reducible refine (near_two most LX.out HOK.out h6).mono ?_); rintro e V ⟨A1, n1, k1, rfl, hr, hb⟩; have L0 := Lib.hid (L0.out.next hb); clear q0 q1 q2 q3; obtain ⟨q0, q1, q2, q3⟩ := L0.out.cb; (first | (have LX := Lib.hid (LX.out.below hb)) | skip); (first | (have R1 := Lib.hid (R1.out.below hb)) | skip); (first | (have RB := Lib.hid (RB.out.below hb)) | skip); have R1 := Lib.hid hr; clear hr; clear hb)
            | (go_at_call 12; (with_reducible refine (best_two most LX.out HOK.out h6).mono ?_); rintro e V ⟨A2, n2, k2, rfl, ⟨hn2, hr⟩, hb⟩; have L0 := Lib.hid (L0.out.next hb); clear q0 q1 q2 q3; obtain ⟨q0, q1, q2, q3⟩ := L0.out.cb; (first | (have LX := Lib.hid (LX.out.below hb)) | skip); (first | (have R1 := Lib.hid (R1.out.below hb)) | skip); (first | (have RB := Lib.hid (RB.out.below hb)) | skip); have RB := Lib.hid hr; have HN2 := Lib.hid hn2; clear hr hn2; clear hb))
          have hw : Wds ws := by obtain ⟨_, _, _, _, _, _, _, _, _, _, h5⟩ := LX.out; exact h5
          have hwk : ∀ i, i < ws.length → (ws.getD i ByteArray.empty).size ≤ 40 := fun i hi => by
            have := (hw.size (tx (ws.getD i ByteArray.empty)) (by have := txs_at ws i hi; exact List.mem_of_getElem? this)).2
            rwa [tx_len] at this
          have HWK := Lib.hid hwk
          have hn1 : n1 ≤ 200 := by have := R1.out.1; have := near_len c ws s most; omega
          have LL := L0
          have RR1 := R1; have RRB := RB
          clear hw hwk LX q0 q1 q2 q3 L0 R1 RB
          go_loopw [15, 14] (fun j15 j14 wr => ∃ i : Nat, i ≤ ws.length ∧ j15 = .int .i64 (i : Int) ∧ j14 = .int .i64 (((HL c ws s most i).length : Nat) : Int) ∧ Hid (LS7 w c A ws wr) ∧ Hid (Two wr A1 n1 k1 (nearOf c ws s most)) ∧ Hid (RdH wr A2 (bestOf (nearOf c ws s most)))) (fun j15 _ _ => ws.length - (intOf j15).toNat)
          case atStart => exact ⟨0, Nat.zero_le _, rfl, rfl, LL, RR1, RRB⟩
          case round =>
            obtain ⟨i, hi, rfl, rfl, L4, R1, RB⟩ := hrel
            clear LL RR1 RRB LS
            by_cases hlt : i < ws.length
            · have i1 : decide ((i : Int) < (ws.length : Int)) = true := decide_eq_true (by omega)
              obtain ⟨b0, off0, eA, -, hbl, hcw⟩ := L4.out.rd (by omega)
              subst eA
              have u4 := hcw i hlt
              obtain ⟨u0, u1, u2, u3⟩ := L4.out.cb
              have hwi := HWK.out i hlt
              have hDI := fun V => dist_two HOK.out h6 hwi V
              have hcost := fun k hk => cost_near c ws s most k hk i
              have hcnt := cnt_near c ws s most i hlt
              have hlen := len_HL c ws s most i
              generalize ws.getD i ByteArray.empty = u at u4 hwi hDI hcost hcnt hlen
              generalize Ed.D c (tx s) (tx u) = d at hDI hcost hcnt hlen
              have hat : (HL c ws s most i).length ≤ 200 := by have := HL_len c ws s most i; omega
              generalize (HL c ws s most i).length = at0 at hlen hat ⊢
              have DI := Lib.hid hDI; have HCOST := Lib.hid hcost; have HCNT := Lib.hid hcnt; have HLEN := Lib.hid hlen
              have L5 := Lib.hid (L4.out.next (below_drew wr))
              have y0 : wr.drew.cell? ⟨w.heap.size, 0, none⟩ = some (.int .i64 c.ins) := u0
              have y1 : wr.drew.cell? ⟨w.heap.size, 1, none⟩ = some (.int .i64 c.del) := u1
              have y2 : wr.drew.cell? ⟨w.heap.size, 2, none⟩ = some (.int .i64 c.chg) := u2
              have y3 : wr.drew.cell? ⟨w.heap.size, 3, none⟩ = some (.int .i64 c.swp) := u3
              have y4 : wr.drew.cell? ⟨b0, off0 + i, none⟩ = some (.string u) := u4
              clear hDI hcost hcnt hlen hcw hwi hbl
              go_wp2
              go_region_held3 (fun V => V.cell? ⟨w.heap.size, 0, none⟩ = some (.int .i64 c.ins) ∧ V.cell? ⟨w.heap.size, 1, none⟩ = some (.int .i64 c.del) ∧ V.cell? ⟨w.heap.size, 2, none⟩ = some (.int .i64 c.chg) ∧ V.cell? ⟨w.heap.size, 3, none⟩ = some (.int .i64 c.swp) ∧ V.cell? ⟨b0, off0 + i, none⟩ = some (.string u))
                (first | exact ⟨u0, u1, u2, u3, u4⟩ | exact ⟨y0, y1, y2, y3, y4⟩)
                (first
                  | (go_at_call 13; (with_reducible refine (DI.out _).mono ?_); rintro e V9 ⟨rfl, hb⟩; have L5 := Lib.hid (L5.out.next hb); have R1 := Lib.hid ((R1.out.below (below_drew wr)).below hb); have RB := Lib.hid ((RB.out.below (below_drew wr)).below hb); have u4 := cell_keep y4 hb; clear u0 u1 u2 u3; obtain ⟨u0, u1, u2, u3⟩ := L5.out.cb; clear hb))
              have LK := L5; have RK1 := R1; have RKB := RB
              clear u0 u1 u2 u3 u4 y0 y1 y2 y3 y4 L5 L4 R1 RB
              go_wp2
              go_loopw [19, 18] (fun j19 j18 wx => ∃ k : Nat, k ≤ n1 ∧ j19 = .int .i64 (k : Int) ∧ j18 = .int .i64 ((cntW ((nearOf c ws s most).take k) i : Nat) : Int) ∧ Hid (LS7 w c (some ⟨b0, off0, none⟩) ws wx) ∧ Hid (Two wx A1 n1 k1 (nearOf c ws s most)) ∧ Hid (RdH wx A2 (bestOf (nearOf c ws s most)))) (fun j19 _ _ => n1 - (intOf j19).toNat)
              case atStart => exact ⟨0, Nat.zero_le _, rfl, rfl, LK, RK1, RKB⟩
              case round =>
                obtain ⟨k, hk, rfl, rfl, L6, R1, RB⟩ := hrel
                clear LK RK1 RKB
                by_cases hkt : k < n1
                · have i2 : decide ((k : Int) < (n1 : Int)) = true := decide_eq_true (by omega)
                  have hkl : k < (nearOf c ws s most).length := by have := R1.out.1; omega
                  obtain ⟨b2, off, eA, hbl, hcl⟩ := R1.out.2.2.2.1 (by omega)
                  obtain ⟨z0, z1⟩ := hcl k hkl
                  have hcs := HCOST.out k hkl
                  have hct := cntW_take (nearOf c ws s most) i k hkl
                  have hc2 : cntW ((nearOf c ws s most).take k) i ≤ 200 := by
                    have h1 : cntW ((nearOf c ws s most).take k) i ≤ ((nearOf c ws s most).take k).length := List.countP_le_length
                    rw [List.length_take] at h1
                    omega
                  generalize cntW ((nearOf c ws s most).take k) i = cn at hct hc2 ⊢
                  obtain ⟨a1, ha1⟩ : ∃ a, ((nearOf c ws s most)[k]).1 = a := ⟨_, rfl⟩
                  obtain ⟨a2, ha2⟩ : ∃ a, ((nearOf c ws s most)[k]).2 = a := ⟨_, rfl⟩
                  rw [ha1] at z0 hcs hct
                  rw [ha2] at z1 hcs
                  subst eA
                  by_cases ha : a1 = (i : Int)
                  · have hd := hcs ha
                    rw [if_pos ha] at hct
                    subst ha
                    subst hd
                    have HCT := Lib.hid hct
                    have e1 : (a2 != a2) = false := by simp
                    clear ha1 ha2 hcs hct hcl
                    go_wp2
                    go_roundw
                    case rel => exact ⟨k + 1, by omega, by go_num, by rw [HCT.out]; go_num, L6, R1, RB⟩
                    case measure => simp [intOf]; omega
                  · rw [if_neg ha] at hct
                    have HCT := Lib.hid hct
                    have e1 : (a1 == (i : Int)) = false := by rw [beq_eq_false_iff_ne]; exact ha
                    clear ha1 ha2 hcs hct hcl
                    go_wp2
                    go_roundw
                    case rel => exact ⟨k + 1, by omega, by go_num, by rw [HCT.out]; rfl, L6, R1, RB⟩
                    case measure => simp [intOf]; omega
                · obtain rfl : k = n1 := by omega
                  have i2 : decide ((k : Int) < (k : Int)) = false := decide_eq_false (by omega)
                  have htk : (nearOf c ws s most).take k = nearOf c ws s most := by rw [R1.out.1]; exact List.take_length
                  rw [htk, HCNT.out]
                  clear htk
                  by_cases hd : d ≤ most
                  · rw [if_pos hd]
                    have hl2 := HLEN.out
                    rw [if_pos hd] at hl2
                    have HLE2 := Lib.hid hl2
                    have e1 : decide (d ≤ most) = true := decide_eq_true hd
                    have e2 : decide (most < d) = false := decide_eq_false (by omega)
                    clear hl2
                    go_wp2
                    go_roundw
                    case rel => exact ⟨i + 1, by omega, by go_num, by rw [HLE2.out]; go_num, L6, R1, RB⟩
                    case measure => simp [intOf]; omega
                  · rw [if_neg hd]
                    have hl2 := HLEN.out
                    rw [if_neg hd] at hl2
                    have HLE2 := Lib.hid hl2
                    have e1 : decide (d ≤ most) = false := decide_eq_false hd
                    have e2 : decide (most < d) = true := decide_eq_true (by omega)
                    clear hl2
                    go_wp2
                    go_roundw
                    case rel => exact ⟨i + 1, by omega, by go_num, by rw [HLE2.out]; go_num, L6, R1, RB⟩
                    case measure => simp [intOf]; omega
            · obtain rfl : i = ws.length := by omega
              have i1 : decide ((ws.length : Int) < (ws.length : Int)) = false := decide_eq_false (by omega)
              have hat : (HL c ws s most ws.length).length = n1 := by rw [R1.out.1]; exact (len_near c ws s most).symm
              rw [hat]
              obtain ⟨d0, hd0⟩ : ∃ d, ((nearOf c ws s most).headD (0, 0)).2 = d := ⟨_, rfl⟩
              have hz : ∀ h : 0 < (nearOf c ws s most).length, ((nearOf c ws s most)[0]).2 = d0 := fun h => by
                rw [← hd0]; exact head_at _ h
              have HZ := Lib.hid hz
              clear hd0 hz hat
              go_wp2
              go_loopw [21, 20] (fun j21 j20 wx => ∃ k : Nat, k ≤ n1 ∧ j21 = .int .i64 (k : Int) ∧ j20 = .int .i64 ((cntC ((nearOf c ws s most).take k) d0 : Nat) : Int) ∧ Hid (Below wr.heap.size wr wx)) (fun j21 _ _ => n1 - (intOf j21).toNat)
              case atStart => exact ⟨0, Nat.zero_le _, rfl, rfl, Lib.hid (Below.refl _ _)⟩
              case round =>
                obtain ⟨k, hk, rfl, rfl, hBX⟩ := hrel
                by_cases hkt : k < n1
                · have i2 : decide ((k : Int) < (n1 : Int)) = true := decide_eq_true (by omega)
                  have hkl : k < (nearOf c ws s most).length := by have := R1.out.1; omega
                  obtain ⟨b2, off, eA, hbl, hcl⟩ := (R1.out.below hBX.out).2.2.2.1 (by omega)
                  obtain ⟨z0, z1⟩ := hcl k hkl
                  obtain ⟨-, z2⟩ := hcl 0 (by omega)
                  rw [show off + 0 * 2 + 1 = off + 1 by omega, HZ.out (by omega)] at z2
                  have hct := cntC_take (nearOf c ws s most) d0 k hkl
                  have hc2 : cntC ((nearOf c ws s most).take k) d0 ≤ 200 := by
                    have h1 : cntC ((nearOf c ws s most).take k) d0 ≤ ((nearOf c ws s most).take k).length := List.countP_le_length
                    rw [List.length_take] at h1
                    omega
                  have i3 : (0 : Int) < (n1 : Int) := by omega
                  by_cases hk0 : k = 0
                  · subst hk0
                    rw [show off + 0 * 2 + 1 = off + 1 by omega] at z1
                    rw [HZ.out (by omega), if_pos rfl] at hct
                    generalize cntC ((nearOf c ws s most).take 0) d0 = cn at hct hc2 ⊢
                    have HCT := Lib.hid hct
                    have e1 : (d0 == d0) = true := by simp
                    subst eA
                    clear hct hcl z0 z1
                    go_wp2_with fail
                    go_quiet (fail)
                    go_wp2_with fail
                    go_quiet (fail)
                    go_wp2
                    go_roundw
                    case rel => exact ⟨1, by omega, by go_num, by rw [HCT.out]; go_num, Lib.hid (below_drewN hBX.out _)⟩
                    case measure => simp [intOf]; omega
                  · obtain ⟨j, rfl⟩ : ∃ j, k = j + 1 := ⟨k - 1, by omega⟩
                    have hup := near_up c ws s most j hkl
                    obtain ⟨p0, p1⟩ := hcl j (by omega)
                    generalize cntC ((nearOf c ws s most).take (j + 1)) d0 = cn at hct hc2 ⊢
                    obtain ⟨a1, ha1⟩ : ∃ a, ((nearOf c ws s most)[j + 1]).1 = a := ⟨_, rfl⟩
                    obtain ⟨a2, ha2⟩ : ∃ a, ((nearOf c ws s most)[j + 1]).2 = a := ⟨_, rfl⟩
                    obtain ⟨b1, hb1⟩ : ∃ a, ((nearOf c ws s most)[j]).1 = a := ⟨_, rfl⟩
                    obtain ⟨b3, hb3⟩ : ∃ a, ((nearOf c ws s most)[j]).2 = a := ⟨_, rfl⟩
                    rw [ha1] at z0 hup; rw [ha2] at z1 hct hup; rw [hb1] at p0 hup; rw [hb3] at p1 hup
                    subst eA
                    have i4 : (0 : Int) < ((j + 1 : Nat) : Int) := by omega
                    have hA : decide (a2 < b3) = false := decide_eq_false (by omega)
                    have hcast : ((j + 1 : Nat) : Int) - 1 = (j : Int) := by omega
                    clear ha1 ha2 hb1 hb3 hcl hk0
                    by_cases ec : b3 = a2
                    · subst ec
                      have hB : (b3 == b3) = true := by simp
                      have hC : decide (a1 ≤ b1) = false := decide_eq_false (by omega)
                      clear hup
                      by_cases ed : b3 = d0
                      · rw [if_pos ed] at hct
                        have HCT := Lib.hid hct
                        subst ed
                        have e9 : (b3 == b3) = true := by simp
                        clear hct
                        go_wp2_with fail
                        go_quiet (fail)
                        go_wp2_with fail
                        go_quiet (fail)
                        go_wp2
                        go_roundw
                        case rel => exact ⟨j + 1 + 1, by omega, by go_num, by rw [HCT.out]; go_num, Lib.hid (below_drewN hBX.out _)⟩
                        case measure => simp [intOf]; omega
                      · rw [if_neg ed] at hct
                        have HCT := Lib.hid hct
                        have e9 : (b3 == d0) = false := by rw [beq_eq_false_iff_ne]; exact ed
                        clear hct
                        go_wp2_with fail
                        go_quiet (fail)
                        go_wp2_with fail
                        go_quiet (fail)
                        go_wp2
                        go_roundw
                        case rel => exact ⟨j + 1 + 1, by omega, by go_num, by rw [HCT.out]; rfl, Lib.hid (below_drewN hBX.out _)⟩
                        case measure => simp [intOf]; omega
                    · have hB : (a2 == b3) = false := by rw [beq_eq_false_iff_ne]; omega
                      clear hup
                      by_cases ed : a2 = d0
                      · rw [if_pos ed] at hct
                        have HCT := Lib.hid hct
                        subst ed
                        have e9 : (a2 == a2) = true := by simp
                        clear hct
                        go_wp2_with fail
                        go_quiet (fail)
                        go_wp2_with fail
                        go_quiet (fail)
                        go_wp2
                        go_roundw
                        case rel => exact ⟨j + 1 + 1, by omega, by go_num, by rw [HCT.out]; go_num, Lib.hid (below_drewN hBX.out _)⟩
                        case measure => simp [intOf]; omega
                      · rw [if_neg ed] at hct
                        have HCT := Lib.hid hct
                        have e9 : (a2 == d0) = false := by rw [beq_eq_false_iff_ne]; exact ed
                        clear hct
                        go_wp2_with fail
                        go_quiet (fail)
                        go_wp2_with fail
                        go_quiet (fail)
                        go_wp2
                        go_roundw
                        case rel => exact ⟨j + 1 + 1, by omega, by go_num, by rw [HCT.out]; rfl, Lib.hid (below_drewN hBX.out _)⟩
                        case measure => simp [intOf]; omega
                · obtain rfl : k = n1 := by omega
                  have i2 : decide ((k : Int) < (k : Int)) = false := decide_eq_false (by omega)
                  have htk : (nearOf c ws s most).take k = nearOf c ws s most := by rw [R1.out.1]; exact List.take_length
                  rw [htk]
                  have hbl : n2 = cntC (nearOf c ws s most) d0 := by
                    rw [HN2.out]
                    cases hL : nearOf c ws s most with
                    | nil => rfl
                    | cons y l =>
                      have h1 := (near_in c ws s most).1
                      have h2 := HZ.out (by rw [hL]; simp)
                      have h3 := best_len (nearOf c ws s most) h1 (by rw [hL]; simp)
                      rw [h2] at h3
                      rw [hL] at h3
                      exact h3
                  rw [← hbl]
                  have hpre := best_prefix (nearOf c ws s most)
                  have hbk : n2 ≤ k := by rw [HN2.out, R1.out.1]; exact hpre.length_le
                  have hk1 : (n2 : Int) ≤ (k1 : Int) := by have := R1.out.2.1; omega
                  have R2 := Lib.hid (R1.out.below hBX.out)
                  have rc := R2.out.2.2.2.1.take n2
                  rw [HN2.out, (List.prefix_iff_eq_take.1 hpre).symm] at rc
                  have RC := Lib.hid rc
                  clear rc
                  have RB2 := Lib.hid (RB.out.below hBX.out)
                  have L7 := Lib.hid (L4.out.next hBX.out)
                  have e1 : ((k : Int) == (k : Int)) = true := by simp
                  have e2 : ((n2 : Int) == (n2 : Int)) = true := by simp
                  clear htk hbl hpre
                  go_wp2_with (go_at_call 14; refine (same_true HN2.out (by omega) RB2.out RC.out).mono ?_; rintro e V8 ⟨rfl, hb⟩; have L8 := Lib.hid (L7.out.next hb); clear hb)
                  go_ret
                  exact ⟨rfl, L8.out.bel⟩
        · have HE := Lib.hid e0
          clear e0 hc
          go_enter Try.func3, Try.ntmps3
          go_wp2_with fail
          have L0 := LS
          obtain ⟨q0, q1, q2, q3⟩ := L0.out.cb
          go_wp2_with (first
            | (go_at_call 7; (with_reducible refine (awake_any _).mono ?_); rintro e V ⟨rfl, hb⟩; have L0 := Lib.hid (L0.out.next hb); clear q0 q1 q2 q3; obtain ⟨q0, q1, q2, q3⟩ := L0.out.cb; (first | (have LX := Lib.hid (LX.out.below hb)) | skip); (first | (have R1 := Lib.hid (R1.out.below hb)) | skip); (first | (have RB := Lib.hid (RB.out.below hb)) | skip); clear hb)
            | (go_at_call 8; (with_reducible refine (few_bool HF.out HN0.out _ L0.out.rd).mono ?_); rintro e V ⟨rfl, hb⟩; have L0 := Lib.hid (L0.out.next hb); clear q0 q1 q2 q3; obtain ⟨q0, q1, q2, q3⟩ := L0.out.cb; (first | (have LX := Lib.hid (LX.out.below hb)) | skip); (first | (have R1 := Lib.hid (R1.out.below hb)) | skip); (first | (have RB := Lib.hid (RB.out.below hb)) | skip); clear hb)
            | (go_at_call 9; (with_reducible refine (right_bool HC.out _).mono ?_); rintro e V ⟨rfl, hb⟩; have L0 := Lib.hid (L0.out.next hb); clear q0 q1 q2 q3; obtain ⟨q0, q1, q2, q3⟩ := L0.out.cb; (first | (have LX := Lib.hid (LX.out.below hb)) | skip); (first | (have R1 := Lib.hid (R1.out.below hb)) | skip); (first | (have RB := Lib.hid (RB.out.below hb)) | skip); clear hb)
            | (go_at_call 10; (with_reducible refine (new_no HE.out HL2.out _ L0.out.rd).mono ?_); rintro e V ⟨en, hen, rfl, hb⟩; have hne : ((en : Int) != 0) = true := (by rw [bne_iff_ne]; omega); have L0 := Lib.hid (L0.out.next hb); clear q0 q1 q2 q3; obtain ⟨q0, q1, q2, q3⟩ := L0.out.cb; (first | (have LX := Lib.hid (LX.out.below hb)) | skip); (first | (have R1 := Lib.hid (R1.out.below hb)) | skip); (first | (have RB := Lib.hid (RB.out.below hb)) | skip); clear hb))
          go_ret
          exact ⟨rfl, L0.out.bel⟩
      · have HC : Hid (decide c.ok = false) := Lib.hid (decide_eq_false hc)
        clear hc
        go_enter Try.func3, Try.ntmps3
        go_wp2_with fail
        have L0 := LS
        obtain ⟨q0, q1, q2, q3⟩ := L0.out.cb
        go_wp2_with (first
          | (go_at_call 7; (with_reducible refine (awake_any _).mono ?_); rintro e V ⟨rfl, hb⟩; have L0 := Lib.hid (L0.out.next hb); clear q0 q1 q2 q3; obtain ⟨q0, q1, q2, q3⟩ := L0.out.cb; (first | (have LX := Lib.hid (LX.out.below hb)) | skip); (first | (have R1 := Lib.hid (R1.out.below hb)) | skip); (first | (have RB := Lib.hid (RB.out.below hb)) | skip); clear hb)
          | (go_at_call 8; (with_reducible refine (few_bool HF.out HN0.out _ L0.out.rd).mono ?_); rintro e V ⟨rfl, hb⟩; have L0 := Lib.hid (L0.out.next hb); clear q0 q1 q2 q3; obtain ⟨q0, q1, q2, q3⟩ := L0.out.cb; (first | (have LX := Lib.hid (LX.out.below hb)) | skip); (first | (have R1 := Lib.hid (R1.out.below hb)) | skip); (first | (have RB := Lib.hid (RB.out.below hb)) | skip); clear hb)
          | (go_at_call 9; (with_reducible refine (right_bool HC.out _).mono ?_); rintro e V ⟨rfl, hb⟩; have L0 := Lib.hid (L0.out.next hb); clear q0 q1 q2 q3; obtain ⟨q0, q1, q2, q3⟩ := L0.out.cb; (first | (have LX := Lib.hid (LX.out.below hb)) | skip); (first | (have R1 := Lib.hid (R1.out.below hb)) | skip); (first | (have RB := Lib.hid (RB.out.below hb)) | skip); clear hb))
        go_ret
        exact ⟨rfl, L0.out.bel⟩
    · have d1 : decide ((60 : Int) < (s.size : Int)) = true := decide_eq_true (by omega)
      go_enter Try.func3, Try.ntmps3
      go_wp2_with fail
      have L0 := LS
      obtain ⟨q0, q1, q2, q3⟩ := L0.out.cb
      go_wp2_with (first
        | (go_at_call 7; (with_reducible refine (awake_any _).mono ?_); rintro e V ⟨rfl, hb⟩; have L0 := Lib.hid (L0.out.next hb); clear q0 q1 q2 q3; obtain ⟨q0, q1, q2, q3⟩ := L0.out.cb; (first | (have LX := Lib.hid (LX.out.below hb)) | skip); (first | (have R1 := Lib.hid (R1.out.below hb)) | skip); (first | (have RB := Lib.hid (RB.out.below hb)) | skip); clear hb)
        | (go_at_call 8; (with_reducible refine (few_bool HF.out HN0.out _ L0.out.rd).mono ?_); rintro e V ⟨rfl, hb⟩; have L0 := Lib.hid (L0.out.next hb); clear q0 q1 q2 q3; obtain ⟨q0, q1, q2, q3⟩ := L0.out.cb; (first | (have LX := Lib.hid (LX.out.below hb)) | skip); (first | (have R1 := Lib.hid (R1.out.below hb)) | skip); (first | (have RB := Lib.hid (RB.out.below hb)) | skip); clear hb))
      go_ret
      exact ⟨rfl, L0.out.bel⟩
  · have HF : Hid (decide (fewOf ws) = false) := Lib.hid (decide_eq_false f)
    clear f
    go_enter Try.func3, Try.ntmps3
    go_wp2_with fail
    have L0 := LS
    obtain ⟨q0, q1, q2, q3⟩ := L0.out.cb
    go_wp2_with (first
      | (go_at_call 7; (with_reducible refine (awake_any _).mono ?_); rintro e V ⟨rfl, hb⟩; have L0 := Lib.hid (L0.out.next hb); clear q0 q1 q2 q3; obtain ⟨q0, q1, q2, q3⟩ := L0.out.cb; (first | (have LX := Lib.hid (LX.out.below hb)) | skip); (first | (have R1 := Lib.hid (R1.out.below hb)) | skip); (first | (have RB := Lib.hid (RB.out.below hb)) | skip); clear hb)
      | (go_at_call 8; (with_reducible refine (few_bool HF.out HN0.out _ L0.out.rd).mono ?_); rintro e V ⟨rfl, hb⟩; have L0 := Lib.hid (L0.out.next hb); clear q0 q1 q2 q3; obtain ⟨q0, q1, q2, q3⟩ := L0.out.cb; (first | (have LX := Lib.hid (LX.out.below hb)) | skip); (first | (have R1 := Lib.hid (R1.out.below hb)) | skip); (first | (have RB := Lib.hid (RB.out.below hb)) | skip); clear hb))
    go_ret
    exact ⟨rfl, L0.out.bel⟩
end Go.Proofs.Ytioncjnjhmnlaaa
