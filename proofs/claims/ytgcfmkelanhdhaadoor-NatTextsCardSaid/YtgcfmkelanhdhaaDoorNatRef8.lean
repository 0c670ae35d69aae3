/-
  The reference's Text.
-/
import Derived.Test.YtgcfmkelanhdhaaDoorNatRef7
namespace Go.Proofs.YtgcfmkelanhdhaaDoor
open Go.RowKit
set_option linter.unusedVariables false

theorem ten_bn (W : World) : NumB (W.alloc (.cells #[.int .i64 0, .int .i64 1, .int .i64 0, .int .i64 1] 3)) (some ⟨W.heap.size, 0, none⟩) [0, 1, 0, 1] 10 :=
  ⟨rdk_new .i64 W [0, 1, 0, 1] 3, Nb.Can.of_last (by intro z hz; simp at hz; omega) (fun _ => by simp), by simp, by simp [Nb.V]⟩
theorem four_bits {l : List Int} (h : l.length ≤ 4) : Nb.V l = l.getD 0 0 + 2 * l.getD 1 0 + 4 * l.getD 2 0 + 8 * l.getD 3 0 := by
  match l, h with
  | [], _ => rfl
  | [a], _ => simp [Nb.V]
  | [a, b], _ => simp [Nb.V]
  | [a, b, c], _ => simp [Nb.V]; omega
  | [a, b, c, d], _ => simp [Nb.V]; omega
/-- the numeral of a number, none of 0 -/
def dd (n : Nat) : List UInt8 := if n = 0 then [] else Lib.decDigits n
theorem dd_step {n : Nat} (h : 0 < n) : dd n = dd (n / 10) ++ [Na.dig (n % 10)] := by
  unfold dd
  rw [if_neg (by omega)]
  by_cases hs : n < 10
  · rw [if_pos (by omega), Na.dec_small hs, show n % 10 = n by omega]; rfl
  · rw [if_neg (by omega), Na.dec_big (by omega)]
theorem at_four {w : World} {B : Option Addr} {r : List Int} {z : Int} (h : NumB w B r z) (hz : z < 16) (d : Nat) : ∃ b0 b1 b2 b3 : Int, (0 ≤ b0 ∧ b0 ≤ 1 ∧ 0 ≤ b1 ∧ b1 ≤ 1 ∧ 0 ≤ b2 ∧ b2 ≤ 1 ∧ 0 ≤ b3 ∧ b3 ≤ 1) ∧ b0 + 2 * b1 + 4 * b2 + 8 * b3 = z ∧
    Calls Tryd.prog 54 #[.slice B r.length d, .int .i64 0] w (fun e w' => e = .returned (.int .i64 b0) ∧ w = w') ∧
    Calls Tryd.prog 54 #[.slice B r.length d, .int .i64 1] w (fun e w' => e = .returned (.int .i64 b1) ∧ w = w') ∧
    Calls Tryd.prog 54 #[.slice B r.length d, .int .i64 2] w (fun e w' => e = .returned (.int .i64 b2) ∧ w = w') ∧
    Calls Tryd.prog 54 #[.slice B r.length d, .int .i64 3] w (fun e w' => e = .returned (.int .i64 b3) ∧ w = w') := by
  have hl : r.length ≤ 4 := by rw [h.can.len_iff, h.val, show Nb.Bp 4 = 16 by decide]; exact hz
  have a0 := h.can.dg.at 0
  have a1 := h.can.dg.at 1
  have a2 := h.can.dg.at 2
  have a3 := h.can.dg.at 3
  refine ⟨r.getD 0 0, r.getD 1 0, r.getD 2 0, r.getD 3 0, ⟨by omega, by omega, by omega, by omega, by omega, by omega, by omega, by omega⟩, by rw [← four_bits hl, h.val], ?_, ?_, ?_, ?_⟩
  · exact at_any B d r 0 w h.rd (by omega)
  · exact at_any B d r 1 w h.rd (by omega)
  · exact at_any B d r 2 w h.rd (by omega)
  · exact at_any B d r 3 w h.rd (by omega)
theorem conv_dig (W : World) (n : Int) (d : Nat) (hd : d < 10) (hn : n = 48 + (d : Int)) : (convert 72 9 (.slice (some ⟨W.heap.size, 0, none⟩) 1 1)).run Tryd.prog (W.alloc (.cells #[.int .u8 n] 5)) = .ok (.string ⟨#[Na.dig d]⟩) (W.alloc (.cells #[.int .u8 n] 5)) := by
  refine run_convert_bytes_back (P := Tryd.prog) _ 72 9 5 ⟨W.heap.size, 0, none⟩ 1 [Na.dig d] Tryd.underlying72 Tryd.underlying5 Tryd.underlying9 (fun j hj => ?_)
  have : j = 0 := by simpa using hj
  subst this
  have := cell_one_new W (.int .u8 n) 5 0 (.int .u8 n) rfl
  rw [this]
  simp [Na.dig_nat hd, hn]
theorem dec_bits {x : Int} {N : Nat} (h0 : 0 ≤ x) (h : x < Nb.Bp N) (hN : 0 < N) : (Lib.decDigits x.toNat).length ≤ N := by
  refine Na.dec_len_pow ?_ hN
  rw [bp_two] at h
  have h4 : ((2 ^ N : Nat) : Int) = (2 : Int) ^ N := by rw [Int.natCast_pow]; rfl
  have h5 : x.toNat < 2 ^ N := by omega
  exact Nat.lt_of_lt_of_le h5 (Nat.pow_le_pow_left (by omega) _)
theorem rtext_no (A : Option Addr) (ca : Nat) (l : List Int) (w : World) (hr : RdK .u32 w A l) (hl : l.length ≤ 9223372036854775807) (h : Na.rgt l = false) :
    Calls Tryd.prog 28 #[.slice A l.length ca] w fun e w' => e = .returned (.tuple #[.string ⟨#[]⟩, .int .i64 2]) ∧ w = w' := by
  have hp := rright_any A ca l w hr hl
  rw [h] at hp
  have HP := Lib.hid hp; clear hp hr
  go_enter Tryd.func28, Tryd.ntmps28
  go_wp2_with (go_at_call 51; (with_reducible refine HP.out.mono ?_); rintro e w' ⟨rfl, rfl⟩)
  go_ret2
  exact ⟨rfl, rfl⟩
theorem rtext_zero (A : Option Addr) (ca : Nat) (w : World) :
    Calls Tryd.prog 28 #[.slice A 0 ca] w fun e w' => e = .returned (.tuple #[.string ⟨#[48]⟩, .int .i64 0]) ∧ w = w' := by
  have hp : Calls Tryd.prog 51 #[.slice A 0 ca] w fun e w' => e = .returned (.bool true) ∧ w = w' := rright_any A ca [] w (RdK.nil _ _ _) (by simp)
  have HP := Lib.hid hp; clear hp
  go_enter Tryd.func28, Tryd.ntmps28
  go_wp2_with (go_at_call 51; (with_reducible refine HP.out.mono ?_); rintro e w' ⟨rfl, rfl⟩)
  go_ret2
  exact ⟨rfl, rfl⟩
set_option maxRecDepth 100000 in
set_option maxHeartbeats 8000000 in
theorem rtext_yes (A : Option Addr) (ca : Nat) (l : List Int) (x : Int) (w : World) (hr : Num w A l x) (hl : l.length ≤ 40) (hx : 0 < x) :
    Calls Tryd.prog 28 #[.slice A l.length ca] w fun e w' => e = .returned (.tuple #[.string ⟨(Lib.decDigits x.toNat).toArray⟩, .int .i64 0]) ∧ Below w.heap.size w w' := by
  have hq := rright_any A ca l w hr.rd (by omega)
  rw [hr.rgt] at hq
  have hb := rbits_any A ca l w hr.rd hr.can.dg (by omega)
  rw [hr.val] at hb
  have hlp : ((l.length : Int) == 0) = false := hr.ne (by omega)
  have hbd : ∀ y q A' w', NumB w' A' q y → y ≤ x → q.length ≤ 1280 := by
    intro y q A' w' h hy
    rw [h.can.len_iff, h.val]
    have h1 := Na.V_lt hr.can.dg
    rw [hr.val] at h1
    have h2 := Na.Bp_le hl
    have h3 : Nb.Bp 1280 = Na.Bp 40 := bp32 40
    omega
  have hdl : (Lib.decDigits x.toNat).length ≤ 1280 := by
    have h1 := Na.V_lt hr.can.dg
    rw [hr.val] at h1
    have h2 := Na.Bp_le hl
    have h3 : Nb.Bp 1280 = Na.Bp 40 := bp32 40
    exact dec_bits (by omega) (by omega) (by omega)
  have HDL := Lib.hid hdl
  have HQ := Lib.hid hq; have HB := Lib.hid hb; have HBD := Lib.hid hbd
  clear hq hb hbd hr hdl
  go_enter Tryd.func28, Tryd.ntmps28
  go_wp2_with (first
    | (go_at_call 51; (with_reducible refine HQ.out.mono ?_); rintro e w' ⟨rfl, rfl⟩)
    | (go_at_call 52; (with_reducible refine HB.out.mono ?_); rintro e x2 ⟨A2, c2, q2, rfl, h1, -, -, -, h5⟩; have HN := Lib.hid h1; have B2 := Lib.hid h5; clear h1 h5))
  go_loopw [4, 5] (fun s b wr => ∃ (y : Int) (A' : Option Addr) (c' : Nat) (q : List Int) (S : List UInt8), b = .slice A' q.length c' ∧ s = .string ⟨S.toArray⟩ ∧ Hid (NumB wr A' q y) ∧ Hid (y ≤ x) ∧ Hid (Lib.decDigits x.toNat = dd y.toNat ++ S) ∧ Hid (Below w.heap.size w wr)) (fun _ b _ => lenOf b)
  case atStart => exact ⟨x, A2, c2, q2, [], rfl, rfl, HN, Lib.hid (Int.le_refl _), Lib.hid (by rw [dd, if_neg (by omega), List.append_nil]), B2⟩
  case round =>
    obtain ⟨y, A', c', q, S, rfl, rfl, HY, HYX, HD, HBW⟩ := hrel
    by_cases h0 : q.length = 0
    · have hy : y = 0 := by
        rw [← HY.out.val, List.eq_nil_of_length_eq_zero h0]; rfl
      have hd := HD.out
      rw [hy, show dd (Int.toNat 0) = [] from rfl, List.nil_append] at hd
      have HDD := Lib.hid hd
      rw [h0]
      clear hy hd
      go_wp2_with fail
      go_ret2
      exact ⟨ret_si (by rw [HDD.out]) rfl, HBW.out⟩
    · have hy : 0 < y := by
        rw [← HY.out.val]; exact HY.out.can.pos (fun e => h0 (by rw [e]; rfl))
      have i1 : 0 < q.length := by omega
      have hyl := HBD.out y q A' _ HY.out HYX.out
      have hdv : Calls Tryd.prog 53 #[.slice A' q.length c', .slice (some ⟨wr.heap.size, 0, none⟩) 4 4] (wr.alloc (.cells #[.int .i64 0, .int .i64 1, .int .i64 0, .int .i64 1] 3)) (PostDivB y 10 (wr.alloc (.cells #[.int .i64 0, .int .i64 1, .int .i64 0, .int .i64 1] 3))) := rdivmod_any A' (some ⟨wr.heap.size, 0, none⟩) c' 4 q [0, 1, 0, 1] y 10 (wr.alloc (.cells #[.int .i64 0, .int .i64 1, .int .i64 0, .int .i64 1] 3)) (HY.out.below ((Below.refl _ _).alloc (Nat.le_refl _) _)) (ten_bn wr) (by omega) (by omega) (by simp)
      have HDV := Lib.hid hdv
      have hSl : 1 + S.length ≤ 9223372036854775807 := by
        have h1 := HDL.out
        rw [HD.out, List.length_append] at h1
        omega
      have HY0 := Lib.hid hy
      clear hdv h0
      go_wp2_with (first
        | (go_at_call 53; (with_reducible refine HDV.out.mono ?_); rintro e x3 ⟨A3, c3, q3, B3, d3, r3, rfl, h1, h2, h3⟩; have HQ3 := Lib.hid h1; obtain ⟨b0, b1, b2, b3, ⟨u0, u1, u2, u3, u4, u5, u6, u7⟩, hsum, a0, a1, a2, a3⟩ := at_four h2 (by omega) d3; have hcv := conv_dig x3 (48 + b0 + 2 * b1 + 4 * b2 + 8 * b3) (y.toNat % 10) (by omega) (by omega); have HSUM := Lib.hid hsum; have K0 := Lib.hid a0; have K1 := Lib.hid a1; have K2 := Lib.hid a2; have K3 := Lib.hid a3; have HB3 := Lib.hid h3; clear h1 h2 h3 hsum a0 a1 a2 a3)
        | (go_at_call 54; (with_reducible refine K0.out.mono ?_); rintro e w' ⟨rfl, rfl⟩)
        | (go_at_call 54; (with_reducible refine K1.out.mono ?_); rintro e w' ⟨rfl, rfl⟩)
        | (go_at_call 54; (with_reducible refine K2.out.mono ?_); rintro e w' ⟨rfl, rfl⟩)
        | (go_at_call 54; (with_reducible refine K3.out.mono ?_); rintro e w' ⟨rfl, rfl⟩))
      have hqn := HQ3.out.below ((Below.refl _ _).alloc (Nat.le_refl _) (.cells #[.int .u8 (48 + b0 + 2 * b1 + 4 * b2 + 8 * b3)] 5))
      refine ⟨⟨y / 10, A3, c3, q3, Na.dig (y.toNat % 10) :: S, rfl, by rw [bytes_append [Na.dig (y.toNat % 10)] S]; rfl, Lib.hid hqn, Lib.hid ?_, Lib.hid ?_, Lib.hid ?_⟩, ?_⟩
      · have := HYX.out; have := HY0.out; omega
      · rw [HD.out, dd_step (n := y.toNat) (by have := HY0.out; omega), show (y / 10).toNat = y.toNat / 10 by have := HY0.out; omega]
        simp
      · have h1 := HBW.out.alloc HBW.out.size (.cells #[.int .i64 0, .int .i64 1, .int .i64 0, .int .i64 1] 3)
        have h2 := h1.trans (HB3.out.mono h1.size)
        exact h2.alloc h2.size _
      · show q3.length < q.length
        have h1 := HQ3.out.can.len_iff (q.length - 1)
        have h2 := Nb.V_lt HY.out.can.dg
        obtain ⟨n, hn⟩ : ∃ n, q.length = n + 1 := ⟨q.length - 1, by omega⟩
        rw [hn, HY.out.val, show Nb.Bp (n + 1) = 2 * Nb.Bp n from rfl] at h2
        rw [hn, Nat.add_sub_cancel, HQ3.out.val] at h1
        have h3 := HY0.out
        have := h1.2 (by omega)
        omega
theorem rtext_any (A : Option Addr) (ca : Nat) (l : List Int) (x : Int) (w : World) (hr : Num w A l x) (hl : l.length ≤ 40) :
    Calls Tryd.prog 28 #[.slice A l.length ca] w fun e w' => e = .returned (.tuple #[.string ⟨(Lib.decDigits x.toNat).toArray⟩, .int .i64 0]) ∧ Below w.heap.size w w' := by
  have h0 := hr.nn
  by_cases hx : x = 0
  · have hl : l = [] := hr.can.nil_iff.2 (by rw [hr.val]; exact hx)
    subst hl hx
    have e : Lib.decDigits (Int.toNat 0) = [48] := Na.dec_small (n := 0) (by omega)
    refine (rtext_zero A ca w).mono ?_
    rintro e' w' ⟨rfl, rfl⟩
    exact ⟨ret_si (by rw [e]) rfl, Below.refl _ _⟩
  · exact rtext_yes A ca l x w hr hl (by omega)

end Go.Proofs.YtgcfmkelanhdhaaDoor
