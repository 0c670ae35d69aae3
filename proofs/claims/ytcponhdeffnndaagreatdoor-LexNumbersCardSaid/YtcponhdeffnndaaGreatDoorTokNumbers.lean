/-
  LexNumbers: the law.
-/
import Derived.Test.YtcponhdeffnndaaGreatDoorTokNumA
import Derived.Test.YtcponhdeffnndaaGreatDoorTokRdy
namespace Go.Proofs.YtcponhdeffnndaaGreatDoor
open Go.RowKit
set_option linter.unusedVariables false
set_option linter.unusedSimpArgs false

set_option maxRecDepth 100000 in
set_option maxHeartbeats 2000000 in
theorem numbers_digitf (x : Int) (hx : (Lit.int .i64 x).wf = true) (c : Nat) (hc : c < 256) (hl : 48 ≤ c ∧ c ≤ 57) (hn : ¬ x % 999999 + 1 < 100000) (w : World) (hw : Rdy w) :
    Calls Tryz.prog 10 #[.int .i64 x, .int .u8 c] w (PostB true w) := by
  obtain ⟨x0, x1⟩ := int_bd hx
  obtain ⟨m, hm⟩ : ∃ m : Nat, x % 999999 = m := ⟨(x % 999999).toNat, by omega⟩
  have hm9 : m ≤ 999998 := by omega
  have qp : ∀ V, Calls Tryz.prog 34 #[.int .i64 x, .int .i64 999999] V fun e w' => e = .returned (.int .i64 m) ∧ V = w' := fun V => by
    have := pick_any x 999999 V (by omega) (by omega)
    rw [hm] at this
    exact this
  have hdg := Tk.dg_facts 6 (m + 1) (by omega)
  have hd : Tk.Dg (Tk.dg (m + 1)) (m + 1) := hdg
  have h0 : 1 ≤ m + 1 := by omega
  have h9 : m + 1 ≤ 999999 := by omega
  obtain ⟨n1, n2, n3⟩ := Tk.number_self hd h0 h9
  have nz := Tk.number_zero hd
  have nf := Tk.number_far hd
  have hc8 : (UInt8.ofNat c).toNat = c := by rw [UInt8.toNat_ofNat']; omega
  have hmn : ¬ m + 1 < 100000 := by omega
  have hlet : Tk.isD (UInt8.ofNat c) = true := by unfold Tk.isD; rw [hc8]; exact decide_eq_true hl
  obtain ⟨b3', b1', b2⟩ := Tk.number_digit hd h0 h9 hlet
  have b3 : Tk.isNum (Tk.dg (m + 1) ++ [UInt8.ofNat c]) = false := by rw [b3']; exact decide_eq_false hmn
  have b1 : Tk.numV (Tk.dg (m + 1) ++ [UInt8.ofNat c]) = 0 := by unfold Tk.numV; rw [b3]; rfl
  clear b1' b3'

  have hl7 := Tk.dg_le (m + 1)
  have qd : ∀ V, Calls Tryz.prog 35 #[.int .i64 (1 + (m : Int))] V (PostStr (Tk.dg (m + 1)) V) := fun V => by
    have := digits_any (m + 1) (by omega) V
    rwa [show (((m + 1 : Nat)) : Int) = 1 + (m : Int) by omega] at this
  obtain ⟨SB, hSB⟩ : ∃ SB : ByteArray, SB = ⟨(Tk.dg (m + 1)).toArray⟩ := ⟨_, rfl⟩
  obtain ⟨CB, hCB⟩ : ∃ CB : ByteArray, CB = ⟨[UInt8.ofNat c].toArray⟩ := ⟨_, rfl⟩
  have hSd : SB.data.toList = Tk.dg (m + 1) := by rw [hSB]
  have hSs : SB.size ≤ 7 := by rw [hSB, size_of]; exact hl7
  have hCs : CB.size = 1 := by rw [hCB]; rfl
  have hCd : CB.data.toList = [UInt8.ofNat c] := by rw [hCB]
  unfold PostStr at qd
  rw [← hSB] at qd
  have qa := fun V => number_at SB ⟨#[]⟩ _ (m + 1) [] true hSd (by omega) n1 n2 n3 rfl V
  have qa2 : ∀ V, Calls Tryz.prog 32 #[.string SB] V fun e w' => e = .returned (.tuple #[.int .i64 (1 + (m : Int)), .string ⟨#[]⟩, .bool true]) ∧ Below V.heap.size V w' := fun V => by
    have := qa V
    rwa [show (((m + 1 : Nat)) : Int) = 1 + (m : Int) by omega] at this
  have qb := fun V => number_at (SB ++ CB) ⟨#[]⟩ _ 0 [] false (by rw [cat_data, hSd, hCd]) (by rw [cat_size]; omega) b1 b2 b3 rfl V

  have qc := fun V => number_no (⟨#[48]⟩ ++ SB) (48 :: Tk.dg (m + 1)) (by rw [cat_data, hSd]; rfl) (by rw [cat_size]; show 1 + SB.size ≤ 100; omega) nz V
  have qf := fun V => number_no (SB ++ ⟨#[48, 48, 48, 48, 48, 48]⟩) _ (by rw [cat_data, hSd]) (by rw [cat_size]; show SB.size + 6 ≤ 100; omega) nf V
  have hcv := fun X : World => conv_one8 X.heap.size (X.alloc (.cells #[.int .u8 (c : Int)] 5)) c hc (cell_of_row _ _ 0 _ _ _ (heap_alloc_new X _))
  have hcv2 : ∀ X : World, (convert 35 9 (.slice (some ⟨X.heap.size, 0, none⟩) 1 1)).run Tryz.prog (X.alloc (.cells #[.int .u8 (c : Int)] 5)) = .ok (.string CB) (X.alloc (.cells #[.int .u8 (c : Int)] 5)) := fun X => by rw [hCB]; exact hcv X
  have s1 : ¬ 9223372036854775807 < SB.size + CB.size := by omega
  have s2 : ¬ 9223372036854775807 < 1 + SB.size := by omega
  have s3 : ¬ 9223372036854775807 < SB.size + 6 := by omega
  have hCC : (CB.toList == CB.toList) = true := beq_self_eq_true _
  have QA := Lib.hid (fun V (h : Rdy V) => awake_any V h); have QP := Lib.hid qp; have QD := Lib.hid qd; have Q1 := Lib.hid qa2; have Q2 := Lib.hid qb; have Q3 := Lib.hid qc; have Q4 := Lib.hid qf
  have R0 := Lib.hid hw
  have hm9b : (m : Int) ≤ 999998 := by omega
  have c0 : (c : Int) < 65 := by omega
  have c1 : (48 : Int) ≤ c := by omega
  have c2 : (c : Int) ≤ 57 := by omega
  have c3 : (100000 : Int) ≤ 1 + (m : Int) := by omega
  clear qp qd qa qa2 qb qc qf hcv hdg hd hSB hCB hSd hCd hw n1 n2 n3 nz nf b1 b2 b3 hm x0 x1 hl7 h0 h9 hc8 hCs hSs hl hlet hmn
  go_enter Tryz.func10, Tryz.ntmps10
  go_wp2_with (first
    | (go_at_call 12; (with_reducible refine (QA.out w R0.out).mono ?_); rintro e w1 ⟨rfl, hb⟩; have B1 := Lib.hid hb; clear hb)
    | (go_at_call 34; (with_reducible refine (QP.out _).mono ?_); rintro e w' ⟨rfl, rfl⟩)
    | (go_at_call 35; (with_reducible refine (QD.out _).mono ?_); rintro e w2 ⟨rfl, hb⟩; have B2 := Lib.hid (below_next B1.out hb); clear hb)
    | (go_at_call 32; (with_reducible refine (Q1.out _).mono ?_); rintro e w3 ⟨rfl, hb⟩; have B3 := Lib.hid (below_next (below_next B2.out hb) (below_new _ (.cells #[.int .u8 (c : Int)] 5))); have hv3 := hcv2 w3; clear hb)
    | (go_at_call 32; (with_reducible refine (Q2.out _).mono ?_); rintro e w4 ⟨rfl, hb⟩; have B4 := Lib.hid (below_next B3.out hb); clear hb)
    | (go_at_call 32; (with_reducible refine (Q3.out _).mono ?_); rintro e w5 ⟨rfl, hb⟩; have B5 := Lib.hid (below_next B4.out hb); clear hb)
    | (go_at_call 32; (with_reducible refine (Q4.out _).mono ?_); rintro e w6 ⟨rfl, hb⟩; have B6 := Lib.hid (below_next B5.out hb); have hv6 := hcv2 w6; clear hb))
  all_goals go_ret
  all_goals first
    | (exfalso; omega)
    | exact ⟨ret_bool (by first | (simp; done) | (simp; omega) | (rw [decide_eq_true (by omega)]; rfl) | (rw [decide_eq_false (by omega)]; rfl) | rfl), by first | exact B6.out | exact below_next B6.out (below_new _ _)⟩
set_option maxRecDepth 100000 in
set_option maxHeartbeats 2000000 in
theorem numbers_digit (x : Int) (hx : (Lit.int .i64 x).wf = true) (c : Nat) (hc : c < 256) (hl : 48 ≤ c ∧ c ≤ 57) (hn : x % 999999 + 1 < 100000) (w : World) (hw : Rdy w) :
    Calls Tryz.prog 10 #[.int .i64 x, .int .u8 c] w (PostB true w) := by
  obtain ⟨x0, x1⟩ := int_bd hx
  obtain ⟨m, hm⟩ : ∃ m : Nat, x % 999999 = m := ⟨(x % 999999).toNat, by omega⟩
  have hm9 : m ≤ 999998 := by omega
  have qp : ∀ V, Calls Tryz.prog 34 #[.int .i64 x, .int .i64 999999] V fun e w' => e = .returned (.int .i64 m) ∧ V = w' := fun V => by
    have := pick_any x 999999 V (by omega) (by omega)
    rw [hm] at this
    exact this
  have hdg := Tk.dg_facts 6 (m + 1) (by omega)
  have hd : Tk.Dg (Tk.dg (m + 1)) (m + 1) := hdg
  have h0 : 1 ≤ m + 1 := by omega
  have h9 : m + 1 ≤ 999999 := by omega
  obtain ⟨n1, n2, n3⟩ := Tk.number_self hd h0 h9
  have nz := Tk.number_zero hd
  have nf := Tk.number_far hd
  have hc8 : (UInt8.ofNat c).toNat = c := by rw [UInt8.toNat_ofNat']; omega
  have hmn : m + 1 < 100000 := by omega
  have hlet : Tk.isD (UInt8.ofNat c) = true := by unfold Tk.isD; rw [hc8]; exact decide_eq_true hl
  obtain ⟨b3', b1', b2⟩ := Tk.number_digit hd h0 h9 hlet
  rw [hc8] at b1'
  have b1 := b1' hmn
  have b3 : Tk.isNum (Tk.dg (m + 1) ++ [UInt8.ofNat c]) = true := by rw [b3']; exact decide_eq_true hmn
  clear b1' b3'

  have hl7 := Tk.dg_le (m + 1)
  obtain ⟨N, hN⟩ : ∃ N : Int, 1 + (m : Int) = N := ⟨_, rfl⟩
  obtain ⟨E, hE⟩ : ∃ E : Int, (c : Int) - 48 = E := ⟨_, rfl⟩
  obtain ⟨K, hK⟩ : ∃ K : Int, 10 * N + E = K := ⟨_, rfl⟩
  have qd : ∀ V, Calls Tryz.prog 35 #[.int .i64 N] V (PostStr (Tk.dg (m + 1)) V) := fun V => by
    have := digits_any (m + 1) (by omega) V
    rwa [show (((m + 1 : Nat)) : Int) = N by omega] at this
  obtain ⟨SB, hSB⟩ : ∃ SB : ByteArray, SB = ⟨(Tk.dg (m + 1)).toArray⟩ := ⟨_, rfl⟩
  obtain ⟨CB, hCB⟩ : ∃ CB : ByteArray, CB = ⟨[UInt8.ofNat c].toArray⟩ := ⟨_, rfl⟩
  have hSd : SB.data.toList = Tk.dg (m + 1) := by rw [hSB]
  have hSs : SB.size ≤ 7 := by rw [hSB, size_of]; exact hl7
  have hCs : CB.size = 1 := by rw [hCB]; rfl
  have hCd : CB.data.toList = [UInt8.ofNat c] := by rw [hCB]
  unfold PostStr at qd
  rw [← hSB] at qd
  have qa := fun V => number_at SB ⟨#[]⟩ _ (m + 1) [] true hSd (by omega) n1 n2 n3 rfl V
  have qa2 : ∀ V, Calls Tryz.prog 32 #[.string SB] V fun e w' => e = .returned (.tuple #[.int .i64 N, .string ⟨#[]⟩, .bool true]) ∧ Below V.heap.size V w' := fun V => by
    have := qa V
    rwa [show (((m + 1 : Nat)) : Int) = N by omega] at this
  have qb := fun V => number_at (SB ++ CB) ⟨#[]⟩ _ (10 * (m + 1) + (c - 48)) [] true (by rw [cat_data, hSd, hCd]) (by rw [cat_size]; omega) b1 b2 b3 rfl V
  have qb2 : ∀ V, Calls Tryz.prog 32 #[.string (SB ++ CB)] V fun e w' => e = .returned (.tuple #[.int .i64 K, .string ⟨#[]⟩, .bool true]) ∧ Below V.heap.size V w' := fun V => by
    have := qb V
    rwa [show (((10 * (m + 1) + (c - 48) : Nat)) : Int) = K by omega] at this
  have qc := fun V => number_no (⟨#[48]⟩ ++ SB) (48 :: Tk.dg (m + 1)) (by rw [cat_data, hSd]; rfl) (by rw [cat_size]; show 1 + SB.size ≤ 100; omega) nz V
  have qf := fun V => number_no (SB ++ ⟨#[48, 48, 48, 48, 48, 48]⟩) _ (by rw [cat_data, hSd]) (by rw [cat_size]; show SB.size + 6 ≤ 100; omega) nf V
  have hcv := fun X : World => conv_one8 X.heap.size (X.alloc (.cells #[.int .u8 (c : Int)] 5)) c hc (cell_of_row _ _ 0 _ _ _ (heap_alloc_new X _))
  have hcv2 : ∀ X : World, (convert 35 9 (.slice (some ⟨X.heap.size, 0, none⟩) 1 1)).run Tryz.prog (X.alloc (.cells #[.int .u8 (c : Int)] 5)) = .ok (.string CB) (X.alloc (.cells #[.int .u8 (c : Int)] 5)) := fun X => by rw [hCB]; exact hcv X
  have s1 : ¬ 9223372036854775807 < SB.size + CB.size := by omega
  have s2 : ¬ 9223372036854775807 < 1 + SB.size := by omega
  have s3 : ¬ 9223372036854775807 < SB.size + 6 := by omega
  have hCC : (CB.toList == CB.toList) = true := beq_self_eq_true _
  have QA := Lib.hid (fun V (h : Rdy V) => awake_any V h); have QP := Lib.hid qp; have QD := Lib.hid qd; have Q1 := Lib.hid qa2; have Q2 := Lib.hid qb2; have Q3 := Lib.hid qc; have Q4 := Lib.hid qf
  have R0 := Lib.hid hw
  have hm9b : (m : Int) ≤ 999998 := by omega
  have c0 : (c : Int) < 65 := by omega
  have c1 : (48 : Int) ≤ c := by omega
  have c2 : (c : Int) ≤ 57 := by omega
  have c3 : N < 100000 := by omega
  have c3b : 1 ≤ N := by omega
  have c4 : 0 ≤ E := by omega
  have c5 : E ≤ 9 := by omega
  have c6 : 0 ≤ K := by omega
  have c7 : K ≤ 10000000 := by omega
  have c8 : IntKind.u8.wrap E = E := by rw [IntKind.wrap_u8]; omega
  have c9 : IntKind.i64.wrap (10 * N) = 10 * N := by rw [IntKind.wrap_i64]; omega
  have c10 : IntKind.i64.wrap K = K := by rw [IntKind.wrap_i64]; omega
  have c11 : IntKind.i64.wrap N = N := by rw [IntKind.wrap_i64]; omega
  have c12 : IntKind.i64.wrap E = E := by rw [IntKind.wrap_i64]; omega
  clear qp qd qa qa2 qb qc qf hcv hdg hd hSB hCB hSd hCd hw n1 n2 n3 nz nf b1 b2 b3 hm x0 x1 hl7 h0 h9 hc8 hCs hSs hl qb2 hlet hmn hn hm9b
  go_enter Tryz.func10, Tryz.ntmps10
  go_wp2_with (first
    | (go_at_call 12; (with_reducible refine (QA.out w R0.out).mono ?_); rintro e w1 ⟨rfl, hb⟩; have B1 := Lib.hid hb; clear hb)
    | (go_at_call 34; (with_reducible refine (QP.out _).mono ?_); rintro e w' ⟨rfl, rfl⟩)
    | (go_at_call 35; (with_reducible refine (QD.out _).mono ?_); rintro e w2 ⟨rfl, hb⟩; have B2 := Lib.hid (below_next B1.out hb); clear hb)
    | (go_at_call 32; (with_reducible refine (Q1.out _).mono ?_); rintro e w3 ⟨rfl, hb⟩; have B3 := Lib.hid (below_next (below_next B2.out hb) (below_new _ (.cells #[.int .u8 (c : Int)] 5))); have hv3 := hcv2 w3; clear hb)
    | (go_at_call 32; (with_reducible refine (Q2.out _).mono ?_); rintro e w4 ⟨rfl, hb⟩; have B4 := Lib.hid (below_next B3.out hb); clear hb)
    | (go_at_call 32; (with_reducible refine (Q3.out _).mono ?_); rintro e w5 ⟨rfl, hb⟩; have B5 := Lib.hid (below_next B4.out hb); clear hb)
    | (go_at_call 32; (with_reducible refine (Q4.out _).mono ?_); rintro e w6 ⟨rfl, hb⟩; have B6 := Lib.hid (below_next B5.out hb); have hv6 := hcv2 w6; clear hb))
  all_goals go_ret
  all_goals first
    | (exfalso; omega)
    | exact ⟨ret_bool (by first | (simp; done) | (simp; omega) | (rw [decide_eq_true (by omega)]; rfl) | (rw [decide_eq_false (by omega)]; rfl) | rfl), by first | exact B6.out | exact below_next B6.out (below_new _ _)⟩
theorem walk_lexNumbers (x : Int) (hx : (Lit.int .i64 x).wf = true) (c : Int) (hc : (Lit.int .u8 c).wf = true) (w : World) (hw : Rdy w) :
    Calls Tryz.prog 10 #[.int .i64 x, .int .u8 c] w fun e w' => e = .returned (.bool true) ∧ Below w.heap.size w w' := by
  obtain ⟨c0, c1⟩ := u8_bd hc
  obtain ⟨d, rfl⟩ : ∃ d : Nat, c = d := ⟨c.toNat, by omega⟩
  by_cases h1 : 65 ≤ d ∧ d ≤ 90
  · exact numbers_letter x hx d (by omega) h1 w hw
  · by_cases h2 : 48 ≤ d ∧ d ≤ 57
    · by_cases h3 : x % 999999 + 1 < 100000
      · exact numbers_digit x hx d (by omega) h2 h3 w hw
      · exact numbers_digitf x hx d (by omega) h2 h3 w hw
    · rcases (show d < 48 ∨ (57 < d ∧ d < 65) ∨ 90 < d by omega) with h | h | h
      · exact numbers_low x hx d (by omega) h w hw
      · exact numbers_mid x hx d (by omega) h w hw
      · exact numbers_high x hx d (by omega) h w hw
end Go.Proofs.YtcponhdeffnndaaGreatDoor
