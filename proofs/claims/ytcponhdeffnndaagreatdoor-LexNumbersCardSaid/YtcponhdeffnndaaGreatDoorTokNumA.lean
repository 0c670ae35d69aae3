/-
  LexNumbers: each number from 1 to 999999 is that number, alone or with a letter behind it.
-/
import Derived.Test.YtcponhdeffnndaaGreatDoorTokAwake
import Derived.Test.YtcponhdeffnndaaGreatDoorTokDig
namespace Go.Proofs.YtcponhdeffnndaaGreatDoor
open Go.RowKit
set_option linter.unusedVariables false
set_option linter.unusedSimpArgs false

/-- what Number gives at a text of which all is known -/
theorem number_at (S T : ByteArray) (l : List UInt8) (v : Nat) (t : List UInt8) (b : Bool) (hS : S.data.toList = l) (hs : S.size ≤ 100) (h1 : Tk.numV l = v) (h2 : Tk.numT l = t) (h3 : Tk.isNum l = b) (hT : T = ⟨t.toArray⟩) (w : World) :
    Calls Tryz.prog 32 #[.string S] w fun e w' => e = .returned (.tuple #[.int .i64 v, .string T, .bool b]) ∧ Below w.heap.size w w' := by
  have hq := number_any S w (by omega)
  unfold PostNo at hq
  rw [hS, h1, h2, h3] at hq
  rw [hT]
  exact hq
theorem number_no (S : ByteArray) (l : List UInt8) (hS : S.data.toList = l) (hs : S.size ≤ 100) (h3 : Tk.isNum l = false) (w : World) :
    Calls Tryz.prog 32 #[.string S] w fun e w' => e = .returned (.tuple #[.int .i64 0, .string ⟨#[]⟩, .bool false]) ∧ Below w.heap.size w w' :=
  number_at S ⟨#[]⟩ l 0 [] false hS hs (by unfold Tk.numV; rw [h3]; rfl) (by unfold Tk.numT; rw [h3]; rfl) h3 rfl w
theorem cat_data (a b : ByteArray) : (a ++ b).data.toList = a.data.toList ++ b.data.toList := by
  rw [ByteArray.data_append]; simp
theorem cat_size (a b : ByteArray) : (a ++ b).size = a.size + b.size := by
  rw [ByteArray.size_append]
set_option maxRecDepth 100000 in
set_option maxHeartbeats 2000000 in
theorem numbers_letter (x : Int) (hx : (Lit.int .i64 x).wf = true) (c : Nat) (hc : c < 256) (hl : 65 ≤ c ∧ c ≤ 90) (w : World) (hw : Rdy w) :
    Calls Tryz.prog 10 #[.int .i64 x, .int .u8 c] w (PostB true w) := by
  obtain ⟨x0, x1⟩ := int_bd hx
  obtain ⟨m, hm⟩ : ∃ m : Nat, x % 999999 = m := ⟨(x % 999999).toNat, by omega⟩
  have hm9 : m ≤ 999998 := by omega
  have qp : ∀ V, Calls Tryz.prog 34 #[.int .i64 x, .int .i64 999999] V fun e w' => e = .returned (.int .i64 m) ∧ V = w' := fun V => by
    have := pick_any x 999999 V (by omega) (by omega)
    rw [hm] at this
    exact this
  have hdg := Tk.dg_facts 6 (m + 1) (by omega)
  have hd : Tk.Dg (Tk.dg (m + 1)) (m + 1) := hdg
  have h0 : 1 ≤ m + 1 := by omega
  have h9 : m + 1 ≤ 999999 := by omega
  obtain ⟨n1, n2, n3⟩ := Tk.number_self hd h0 h9
  have nz := Tk.number_zero hd
  have nf := Tk.number_far hd
  have hc8 : (UInt8.ofNat c).toNat = c := by rw [UInt8.toNat_ofNat']; omega
  have hlet : Tk.isL (UInt8.ofNat c) = true := by unfold Tk.isL; rw [hc8]; exact decide_eq_true hl
  obtain ⟨b1, b2, b3⟩ := Tk.number_letter hd h0 h9 hlet
  have hl7 := Tk.dg_le (m + 1)
  have qd : ∀ V, Calls Tryz.prog 35 #[.int .i64 (1 + (m : Int))] V (PostStr (Tk.dg (m + 1)) V) := fun V => by
    have := digits_any (m + 1) (by omega) V
    rwa [show (((m + 1 : Nat)) : Int) = 1 + (m : Int) by omega] at this
  obtain ⟨SB, hSB⟩ : ∃ SB : ByteArray, SB = ⟨(Tk.dg (m + 1)).toArray⟩ := ⟨_, rfl⟩
  obtain ⟨CB, hCB⟩ : ∃ CB : ByteArray, CB = ⟨[UInt8.ofNat c].toArray⟩ := ⟨_, rfl⟩
  have hSd : SB.data.toList = Tk.dg (m + 1) := by rw [hSB]
  have hSs : SB.size ≤ 7 := by rw [hSB, size_of]; exact hl7
  have hCs : CB.size = 1 := by rw [hCB]; rfl
  have hCd : CB.data.toList = [UInt8.ofNat c] := by rw [hCB]
  unfold PostStr at qd
  rw [← hSB] at qd
  have qa := fun V => number_at SB ⟨#[]⟩ _ (m + 1) [] true hSd (by omega) n1 n2 n3 rfl V
  have qa2 : ∀ V, Calls Tryz.prog 32 #[.string SB] V fun e w' => e = .returned (.tuple #[.int .i64 (1 + (m : Int)), .string ⟨#[]⟩, .bool true]) ∧ Below V.heap.size V w' := fun V => by
    have := qa V
    rwa [show (((m + 1 : Nat)) : Int) = 1 + (m : Int) by omega] at this
  have qb := fun V => number_at (SB ++ CB) CB _ (m + 1) [UInt8.ofNat c] true (by rw [cat_data, hSd, hCd]) (by rw [cat_size]; omega) b1 b2 b3 hCB V
  have qb2 : ∀ V, Calls Tryz.prog 32 #[.string (SB ++ CB)] V fun e w' => e = .returned (.tuple #[.int .i64 (1 + (m : Int)), .string CB, .bool true]) ∧ Below V.heap.size V w' := fun V => by
    have := qb V
    rwa [show (((m + 1 : Nat)) : Int) = 1 + (m : Int) by omega] at this
  have qc := fun V => number_no (⟨#[48]⟩ ++ SB) (48 :: Tk.dg (m + 1)) (by rw [cat_data, hSd]; rfl) (by rw [cat_size]; show 1 + SB.size ≤ 100; omega) nz V
  have qf := fun V => number_no (SB ++ ⟨#[48, 48, 48, 48, 48, 48]⟩) _ (by rw [cat_data, hSd]) (by rw [cat_size]; show SB.size + 6 ≤ 100; omega) nf V
  have hcv := fun X : World => conv_one8 X.heap.size (X.alloc (.cells #[.int .u8 (c : Int)] 5)) c hc (cell_of_row _ _ 0 _ _ _ (heap_alloc_new X _))
  have hcv2 : ∀ X : World, (convert 35 9 (.slice (some ⟨X.heap.size, 0, none⟩) 1 1)).run Tryz.prog (X.alloc (.cells #[.int .u8 (c : Int)] 5)) = .ok (.string CB) (X.alloc (.cells #[.int .u8 (c : Int)] 5)) := fun X => by rw [hCB]; exact hcv X
  have s1 : ¬ 9223372036854775807 < SB.size + CB.size := by omega
  have s2 : ¬ 9223372036854775807 < 1 + SB.size := by omega
  have s3 : ¬ 9223372036854775807 < SB.size + 6 := by omega
  have hCC : (CB.toList == CB.toList) = true := beq_self_eq_true _
  have QA := Lib.hid (fun V (h : Rdy V) => awake_any V h); have QP := Lib.hid qp; have QD := Lib.hid qd; have Q1 := Lib.hid qa2; have Q2 := Lib.hid qb2; have Q3 := Lib.hid qc; have Q4 := Lib.hid qf
  have R0 := Lib.hid hw
  have hm9b : (m : Int) ≤ 999998 := by omega
  have c1 : (65 : Int) ≤ c := by omega
  have c2 : (c : Int) ≤ 90 := by omega
  clear qp qd qa qa2 qb qc qf hcv hdg hd hSB hCB hSd hCd hw n1 n2 n3 nz nf b1 b2 b3 hm x0 x1 hl7 h0 h9 hc8 hCs hSs hl qb2
  go_enter Tryz.func10, Tryz.ntmps10
  go_wp2_with (first
    | (go_at_call 12; (with_reducible refine (QA.out w R0.out).mono ?_); rintro e w1 ⟨rfl, hb⟩; have B1 := Lib.hid hb; clear hb)
    | (go_at_call 34; (with_reducible refine (QP.out _).mono ?_); rintro e w' ⟨rfl, rfl⟩)
    | (go_at_call 35; (with_reducible refine (QD.out _).mono ?_); rintro e w2 ⟨rfl, hb⟩; have B2 := Lib.hid (below_next B1.out hb); clear hb)
    | (go_at_call 32; (with_reducible refine (Q1.out _).mono ?_); rintro e w3 ⟨rfl, hb⟩; have B3 := Lib.hid (below_next (below_next B2.out hb) (below_new _ (.cells #[.int .u8 (c : Int)] 5))); have hv3 := hcv2 w3; clear hb)
    | (go_at_call 32; (with_reducible refine (Q2.out _).mono ?_); rintro e w4 ⟨rfl, hb⟩; have B4 := Lib.hid (below_next B3.out hb); clear hb)
    | (go_at_call 32; (with_reducible refine (Q3.out _).mono ?_); rintro e w5 ⟨rfl, hb⟩; have B5 := Lib.hid (below_next B4.out hb); clear hb)
    | (go_at_call 32; (with_reducible refine (Q4.out _).mono ?_); rintro e w6 ⟨rfl, hb⟩; have B6 := Lib.hid (below_next B5.out hb); have hv6 := hcv2 w6; clear hb))
  all_goals go_ret
  all_goals exact ⟨ret_bool (by first | rfl | simp), by first | exact B6.out | exact below_next B6.out (below_new _ _)⟩
set_option maxRecDepth 100000 in
set_option maxHeartbeats 2000000 in
theorem numbers_low (x : Int) (hx : (Lit.int .i64 x).wf = true) (c : Nat) (hc : c < 256) (hl : c < 48) (w : World) (hw : Rdy w) :
    Calls Tryz.prog 10 #[.int .i64 x, .int .u8 c] w (PostB true w) := by
  obtain ⟨x0, x1⟩ := int_bd hx
  obtain ⟨m, hm⟩ : ∃ m : Nat, x % 999999 = m := ⟨(x % 999999).toNat, by omega⟩
  have hm9 : m ≤ 999998 := by omega
  have qp : ∀ V, Calls Tryz.prog 34 #[.int .i64 x, .int .i64 999999] V fun e w' => e = .returned (.int .i64 m) ∧ V = w' := fun V => by
    have := pick_any x 999999 V (by omega) (by omega)
    rw [hm] at this
    exact this
  have hdg := Tk.dg_facts 6 (m + 1) (by omega)
  have hd : Tk.Dg (Tk.dg (m + 1)) (m + 1) := hdg
  have h0 : 1 ≤ m + 1 := by omega
  have h9 : m + 1 ≤ 999999 := by omega
  obtain ⟨n1, n2, n3⟩ := Tk.number_self hd h0 h9
  have nz := Tk.number_zero hd
  have nf := Tk.number_far hd
  have hc8 : (UInt8.ofNat c).toNat = c := by rw [UInt8.toNat_ofNat']; omega
  have hlet : Tk.isL (UInt8.ofNat c) = false := by unfold Tk.isL; rw [hc8]; exact decide_eq_false (by omega)
  have hdig : Tk.isD (UInt8.ofNat c) = false := by unfold Tk.isD; rw [hc8]; exact decide_eq_false (by omega)
  obtain ⟨b1, b2, b3⟩ := Tk.number_other (w := Tk.dg (m + 1)) hlet hdig
  have hl7 := Tk.dg_le (m + 1)
  have qd : ∀ V, Calls Tryz.prog 35 #[.int .i64 (1 + (m : Int))] V (PostStr (Tk.dg (m + 1)) V) := fun V => by
    have := digits_any (m + 1) (by omega) V
    rwa [show (((m + 1 : Nat)) : Int) = 1 + (m : Int) by omega] at this
  obtain ⟨SB, hSB⟩ : ∃ SB : ByteArray, SB = ⟨(Tk.dg (m + 1)).toArray⟩ := ⟨_, rfl⟩
  obtain ⟨CB, hCB⟩ : ∃ CB : ByteArray, CB = ⟨[UInt8.ofNat c].toArray⟩ := ⟨_, rfl⟩
  have hSd : SB.data.toList = Tk.dg (m + 1) := by rw [hSB]
  have hSs : SB.size ≤ 7 := by rw [hSB, size_of]; exact hl7
  have hCs : CB.size = 1 := by rw [hCB]; rfl
  have hCd : CB.data.toList = [UInt8.ofNat c] := by rw [hCB]
  unfold PostStr at qd
  rw [← hSB] at qd
  have qa := fun V => number_at SB ⟨#[]⟩ _ (m + 1) [] true hSd (by omega) n1 n2 n3 rfl V
  have qa2 : ∀ V, Calls Tryz.prog 32 #[.string SB] V fun e w' => e = .returned (.tuple #[.int .i64 (1 + (m : Int)), .string ⟨#[]⟩, .bool true]) ∧ Below V.heap.size V w' := fun V => by
    have := qa V
    rwa [show (((m + 1 : Nat)) : Int) = 1 + (m : Int) by omega] at this
  have qb := fun V => number_at (SB ++ CB) ⟨#[]⟩ _ 0 [] false (by rw [cat_data, hSd, hCd]) (by rw [cat_size]; omega) b1 b2 b3 rfl V

  have qc := fun V => number_no (⟨#[48]⟩ ++ SB) (48 :: Tk.dg (m + 1)) (by rw [cat_data, hSd]; rfl) (by rw [cat_size]; show 1 + SB.size ≤ 100; omega) nz V
  have qf := fun V => number_no (SB ++ ⟨#[48, 48, 48, 48, 48, 48]⟩) _ (by rw [cat_data, hSd]) (by rw [cat_size]; show SB.size + 6 ≤ 100; omega) nf V
  have hcv := fun X : World => conv_one8 X.heap.size (X.alloc (.cells #[.int .u8 (c : Int)] 5)) c hc (cell_of_row _ _ 0 _ _ _ (heap_alloc_new X _))
  have hcv2 : ∀ X : World, (convert 35 9 (.slice (some ⟨X.heap.size, 0, none⟩) 1 1)).run Tryz.prog (X.alloc (.cells #[.int .u8 (c : Int)] 5)) = .ok (.string CB) (X.alloc (.cells #[.int .u8 (c : Int)] 5)) := fun X => by rw [hCB]; exact hcv X
  have s1 : ¬ 9223372036854775807 < SB.size + CB.size := by omega
  have s2 : ¬ 9223372036854775807 < 1 + SB.size := by omega
  have s3 : ¬ 9223372036854775807 < SB.size + 6 := by omega
  have hCC : (CB.toList == CB.toList) = true := beq_self_eq_true _
  have QA := Lib.hid (fun V (h : Rdy V) => awake_any V h); have QP := Lib.hid qp; have QD := Lib.hid qd; have Q1 := Lib.hid qa2; have Q2 := Lib.hid qb; have Q3 := Lib.hid qc; have Q4 := Lib.hid qf
  have R0 := Lib.hid hw
  have hm9b : (m : Int) ≤ 999998 := by omega
  have c1 : (c : Int) < 65 := by omega
  have c2 : (c : Int) < 48 := by omega
  clear qp qd qa qa2 qb qc qf hcv hdg hd hSB hCB hSd hCd hw n1 n2 n3 nz nf b1 b2 b3 hm x0 x1 hl7 h0 h9 hc8 hCs hSs hl hlet hdig
  go_enter Tryz.func10, Tryz.ntmps10
  go_wp2_with (first
    | (go_at_call 12; (with_reducible refine (QA.out w R0.out).mono ?_); rintro e w1 ⟨rfl, hb⟩; have B1 := Lib.hid hb; clear hb)
    | (go_at_call 34; (with_reducible refine (QP.out _).mono ?_); rintro e w' ⟨rfl, rfl⟩)
    | (go_at_call 35; (with_reducible refine (QD.out _).mono ?_); rintro e w2 ⟨rfl, hb⟩; have B2 := Lib.hid (below_next B1.out hb); clear hb)
    | (go_at_call 32; (with_reducible refine (Q1.out _).mono ?_); rintro e w3 ⟨rfl, hb⟩; have B3 := Lib.hid (below_next (below_next B2.out hb) (below_new _ (.cells #[.int .u8 (c : Int)] 5))); have hv3 := hcv2 w3; clear hb)
    | (go_at_call 32; (with_reducible refine (Q2.out _).mono ?_); rintro e w4 ⟨rfl, hb⟩; have B4 := Lib.hid (below_next B3.out hb); clear hb)
    | (go_at_call 32; (with_reducible refine (Q3.out _).mono ?_); rintro e w5 ⟨rfl, hb⟩; have B5 := Lib.hid (below_next B4.out hb); clear hb)
    | (go_at_call 32; (with_reducible refine (Q4.out _).mono ?_); rintro e w6 ⟨rfl, hb⟩; have B6 := Lib.hid (below_next B5.out hb); have hv6 := hcv2 w6; clear hb))
  all_goals go_ret
  all_goals exact ⟨ret_bool (by first | rfl | simp), by first | exact B6.out | exact below_next B6.out (below_new _ _)⟩
set_option maxRecDepth 100000 in
set_option maxHeartbeats 2000000 in
theorem numbers_mid (x : Int) (hx : (Lit.int .i64 x).wf = true) (c : Nat) (hc : c < 256) (hl : 57 < c ∧ c < 65) (w : World) (hw : Rdy w) :
    Calls Tryz.prog 10 #[.int .i64 x, .int .u8 c] w (PostB true w) := by
  obtain ⟨x0, x1⟩ := int_bd hx
  obtain ⟨m, hm⟩ : ∃ m : Nat, x % 999999 = m := ⟨(x % 999999).toNat, by omega⟩
  have hm9 : m ≤ 999998 := by omega
  have qp : ∀ V, Calls Tryz.prog 34 #[.int .i64 x, .int .i64 999999] V fun e w' => e = .returned (.int .i64 m) ∧ V = w' := fun V => by
    have := pick_any x 999999 V (by omega) (by omega)
    rw [hm] at this
    exact this
  have hdg := Tk.dg_facts 6 (m + 1) (by omega)
  have hd : Tk.Dg (Tk.dg (m + 1)) (m + 1) := hdg
  have h0 : 1 ≤ m + 1 := by omega
  have h9 : m + 1 ≤ 999999 := by omega
  obtain ⟨n1, n2, n3⟩ := Tk.number_self hd h0 h9
  have nz := Tk.number_zero hd
  have nf := Tk.number_far hd
  have hc8 : (UInt8.ofNat c).toNat = c := by rw [UInt8.toNat_ofNat']; omega
  have hlet : Tk.isL (UInt8.ofNat c) = false := by unfold Tk.isL; rw [hc8]; exact decide_eq_false (by omega)
  have hdig : Tk.isD (UInt8.ofNat c) = false := by unfold Tk.isD; rw [hc8]; exact decide_eq_false (by omega)
  obtain ⟨b1, b2, b3⟩ := Tk.number_other (w := Tk.dg (m + 1)) hlet hdig
  have hl7 := Tk.dg_le (m + 1)
  have qd : ∀ V, Calls Tryz.prog 35 #[.int .i64 (1 + (m : Int))] V (PostStr (Tk.dg (m + 1)) V) := fun V => by
    have := digits_any (m + 1) (by omega) V
    rwa [show (((m + 1 : Nat)) : Int) = 1 + (m : Int) by omega] at this
  obtain ⟨SB, hSB⟩ : ∃ SB : ByteArray, SB = ⟨(Tk.dg (m + 1)).toArray⟩ := ⟨_, rfl⟩
  obtain ⟨CB, hCB⟩ : ∃ CB : ByteArray, CB = ⟨[UInt8.ofNat c].toArray⟩ := ⟨_, rfl⟩
  have hSd : SB.data.toList = Tk.dg (m + 1) := by rw [hSB]
  have hSs : SB.size ≤ 7 := by rw [hSB, size_of]; exact hl7
  have hCs : CB.size = 1 := by rw [hCB]; rfl
  have hCd : CB.data.toList = [UInt8.ofNat c] := by rw [hCB]
  unfold PostStr at qd
  rw [← hSB] at qd
  have qa := fun V => number_at SB ⟨#[]⟩ _ (m + 1) [] true hSd (by omega) n1 n2 n3 rfl V
  have qa2 : ∀ V, Calls Tryz.prog 32 #[.string SB] V fun e w' => e = .returned (.tuple #[.int .i64 (1 + (m : Int)), .string ⟨#[]⟩, .bool true]) ∧ Below V.heap.size V w' := fun V => by
    have := qa V
    rwa [show (((m + 1 : Nat)) : Int) = 1 + (m : Int) by omega] at this
  have qb := fun V => number_at (SB ++ CB) ⟨#[]⟩ _ 0 [] false (by rw [cat_data, hSd, hCd]) (by rw [cat_size]; omega) b1 b2 b3 rfl V

  have qc := fun V => number_no (⟨#[48]⟩ ++ SB) (48 :: Tk.dg (m + 1)) (by rw [cat_data, hSd]; rfl) (by rw [cat_size]; show 1 + SB.size ≤ 100; omega) nz V
  have qf := fun V => number_no (SB ++ ⟨#[48, 48, 48, 48, 48, 48]⟩) _ (by rw [cat_data, hSd]) (by rw [cat_size]; show SB.size + 6 ≤ 100; omega) nf V
  have hcv := fun X : World => conv_one8 X.heap.size (X.alloc (.cells #[.int .u8 (c : Int)] 5)) c hc (cell_of_row _ _ 0 _ _ _ (heap_alloc_new X _))
  have hcv2 : ∀ X : World, (convert 35 9 (.slice (some ⟨X.heap.size, 0, none⟩) 1 1)).run Tryz.prog (X.alloc (.cells #[.int .u8 (c : Int)] 5)) = .ok (.string CB) (X.alloc (.cells #[.int .u8 (c : Int)] 5)) := fun X => by rw [hCB]; exact hcv X
  have s1 : ¬ 9223372036854775807 < SB.size + CB.size := by omega
  have s2 : ¬ 9223372036854775807 < 1 + SB.size := by omega
  have s3 : ¬ 9223372036854775807 < SB.size + 6 := by omega
  have hCC : (CB.toList == CB.toList) = true := beq_self_eq_true _
  have QA := Lib.hid (fun V (h : Rdy V) => awake_any V h); have QP := Lib.hid qp; have QD := Lib.hid qd; have Q1 := Lib.hid qa2; have Q2 := Lib.hid qb; have Q3 := Lib.hid qc; have Q4 := Lib.hid qf
  have R0 := Lib.hid hw
  have hm9b : (m : Int) ≤ 999998 := by omega
  have c1 : (c : Int) < 65 := by omega
  have c2 : (48 : Int) ≤ c := by omega
  have c3 : (57 : Int) < c := by omega
  clear qp qd qa qa2 qb qc qf hcv hdg hd hSB hCB hSd hCd hw n1 n2 n3 nz nf b1 b2 b3 hm x0 x1 hl7 h0 h9 hc8 hCs hSs hl hlet hdig
  go_enter Tryz.func10, Tryz.ntmps10
  go_wp2_with (first
    | (go_at_call 12; (with_reducible refine (QA.out w R0.out).mono ?_); rintro e w1 ⟨rfl, hb⟩; have B1 := Lib.hid hb; clear hb)
    | (go_at_call 34; (with_reducible refine (QP.out _).mono ?_); rintro e w' ⟨rfl, rfl⟩)
    | (go_at_call 35; (with_reducible refine (QD.out _).mono ?_); rintro e w2 ⟨rfl, hb⟩; have B2 := Lib.hid (below_next B1.out hb); clear hb)
    | (go_at_call 32; (with_reducible refine (Q1.out _).mono ?_); rintro e w3 ⟨rfl, hb⟩; have B3 := Lib.hid (below_next (below_next B2.out hb) (below_new _ (.cells #[.int .u8 (c : Int)] 5))); have hv3 := hcv2 w3; clear hb)
    | (go_at_call 32; (with_reducible refine (Q2.out _).mono ?_); rintro e w4 ⟨rfl, hb⟩; have B4 := Lib.hid (below_next B3.out hb); clear hb)
    | (go_at_call 32; (with_reducible refine (Q3.out _).mono ?_); rintro e w5 ⟨rfl, hb⟩; have B5 := Lib.hid (below_next B4.out hb); clear hb)
    | (go_at_call 32; (with_reducible refine (Q4.out _).mono ?_); rintro e w6 ⟨rfl, hb⟩; have B6 := Lib.hid (below_next B5.out hb); have hv6 := hcv2 w6; clear hb))
  all_goals go_ret
  all_goals exact ⟨ret_bool (by first | rfl | simp), by first | exact B6.out | exact below_next B6.out (below_new _ _)⟩
set_option maxRecDepth 100000 in
set_option maxHeartbeats 2000000 in
theorem numbers_high (x : Int) (hx : (Lit.int .i64 x).wf = true) (c : Nat) (hc : c < 256) (hl : 90 < c) (w : World) (hw : Rdy w) :
    Calls Tryz.prog 10 #[.int .i64 x, .int .u8 c] w (PostB true w) := by
  obtain ⟨x0, x1⟩ := int_bd hx
  obtain ⟨m, hm⟩ : ∃ m : Nat, x % 999999 = m := ⟨(x % 999999).toNat, by omega⟩
  have hm9 : m ≤ 999998 := by omega
  have qp : ∀ V, Calls Tryz.prog 34 #[.int .i64 x, .int .i64 999999] V fun e w' => e = .returned (.int .i64 m) ∧ V = w' := fun V => by
    have := pick_any x 999999 V (by omega) (by omega)
    rw [hm] at this
    exact this
  have hdg := Tk.dg_facts 6 (m + 1) (by omega)
  have hd : Tk.Dg (Tk.dg (m + 1)) (m + 1) := hdg
  have h0 : 1 ≤ m + 1 := by omega
  have h9 : m + 1 ≤ 999999 := by omega
  obtain ⟨n1, n2, n3⟩ := Tk.number_self hd h0 h9
  have nz := Tk.number_zero hd
  have nf := Tk.number_far hd
  have hc8 : (UInt8.ofNat c).toNat = c := by rw [UInt8.toNat_ofNat']; omega
  have hlet : Tk.isL (UInt8.ofNat c) = false := by unfold Tk.isL; rw [hc8]; exact decide_eq_false (by omega)
  have hdig : Tk.isD (UInt8.ofNat c) = false := by unfold Tk.isD; rw [hc8]; exact decide_eq_false (by omega)
  obtain ⟨b1, b2, b3⟩ := Tk.number_other (w := Tk.dg (m + 1)) hlet hdig
  have hl7 := Tk.dg_le (m + 1)
  have qd : ∀ V, Calls Tryz.prog 35 #[.int .i64 (1 + (m : Int))] V (PostStr (Tk.dg (m + 1)) V) := fun V => by
    have := digits_any (m + 1) (by omega) V
    rwa [show (((m + 1 : Nat)) : Int) = 1 + (m : Int) by omega] at this
  obtain ⟨SB, hSB⟩ : ∃ SB : ByteArray, SB = ⟨(Tk.dg (m + 1)).toArray⟩ := ⟨_, rfl⟩
  obtain ⟨CB, hCB⟩ : ∃ CB : ByteArray, CB = ⟨[UInt8.ofNat c].toArray⟩ := ⟨_, rfl⟩
  have hSd : SB.data.toList = Tk.dg (m + 1) := by rw [hSB]
  have hSs : SB.size ≤ 7 := by rw [hSB, size_of]; exact hl7
  have hCs : CB.size = 1 := by rw [hCB]; rfl
  have hCd : CB.data.toList = [UInt8.ofNat c] := by rw [hCB]
  unfold PostStr at qd
  rw [← hSB] at qd
  have qa := fun V => number_at SB ⟨#[]⟩ _ (m + 1) [] true hSd (by omega) n1 n2 n3 rfl V
  have qa2 : ∀ V, Calls Tryz.prog 32 #[.string SB] V fun e w' => e = .returned (.tuple #[.int .i64 (1 + (m : Int)), .string ⟨#[]⟩, .bool true]) ∧ Below V.heap.size V w' := fun V => by
    have := qa V
    rwa [show (((m + 1 : Nat)) : Int) = 1 + (m : Int) by omega] at this
  have qb := fun V => number_at (SB ++ CB) ⟨#[]⟩ _ 0 [] false (by rw [cat_data, hSd, hCd]) (by rw [cat_size]; omega) b1 b2 b3 rfl V

  have qc := fun V => number_no (⟨#[48]⟩ ++ SB) (48 :: Tk.dg (m + 1)) (by rw [cat_data, hSd]; rfl) (by rw [cat_size]; show 1 + SB.size ≤ 100; omega) nz V
  have qf := fun V => number_no (SB ++ ⟨#[48, 48, 48, 48, 48, 48]⟩) _ (by rw [cat_data, hSd]) (by rw [cat_size]; show SB.size + 6 ≤ 100; omega) nf V
  have hcv := fun X : World => conv_one8 X.heap.size (X.alloc (.cells #[.int .u8 (c : Int)] 5)) c hc (cell_of_row _ _ 0 _ _ _ (heap_alloc_new X _))
  have hcv2 : ∀ X : World, (convert 35 9 (.slice (some ⟨X.heap.size, 0, none⟩) 1 1)).run Tryz.prog (X.alloc (.cells #[.int .u8 (c : Int)] 5)) = .ok (.string CB) (X.alloc (.cells #[.int .u8 (c : Int)] 5)) := fun X => by rw [hCB]; exact hcv X
  have s1 : ¬ 9223372036854775807 < SB.size + CB.size := by omega
  have s2 : ¬ 9223372036854775807 < 1 + SB.size := by omega
  have s3 : ¬ 9223372036854775807 < SB.size + 6 := by omega
  have hCC : (CB.toList == CB.toList) = true := beq_self_eq_true _
  have QA := Lib.hid (fun V (h : Rdy V) => awake_any V h); have QP := Lib.hid qp; have QD := Lib.hid qd; have Q1 := Lib.hid qa2; have Q2 := Lib.hid qb; have Q3 := Lib.hid qc; have Q4 := Lib.hid qf
  have R0 := Lib.hid hw
  have hm9b : (m : Int) ≤ 999998 := by omega
  have c0 : (65 : Int) ≤ c := by omega
  have c1 : (90 : Int) < c := by omega
  have c2 : (48 : Int) ≤ c := by omega
  have c3 : (57 : Int) < c := by omega
  clear qp qd qa qa2 qb qc qf hcv hdg hd hSB hCB hSd hCd hw n1 n2 n3 nz nf b1 b2 b3 hm x0 x1 hl7 h0 h9 hc8 hCs hSs hl hlet hdig
  go_enter Tryz.func10, Tryz.ntmps10
  go_wp2_with (first
    | (go_at_call 12; (with_reducible refine (QA.out w R0.out).mono ?_); rintro e w1 ⟨rfl, hb⟩; have B1 := Lib.hid hb; clear hb)
    | (go_at_call 34; (with_reducible refine (QP.out _).mono ?_); rintro e w' ⟨rfl, rfl⟩)
    | (go_at_call 35; (with_reducible refine (QD.out _).mono ?_); rintro e w2 ⟨rfl, hb⟩; have B2 := Lib.hid (below_next B1.out hb); clear hb)
    | (go_at_call 32; (with_reducible refine (Q1.out _).mono ?_); rintro e w3 ⟨rfl, hb⟩; have B3 := Lib.hid (below_next (below_next B2.out hb) (below_new _ (.cells #[.int .u8 (c : Int)] 5))); have hv3 := hcv2 w3; clear hb)
    | (go_at_call 32; (with_reducible refine (Q2.out _).mono ?_); rintro e w4 ⟨rfl, hb⟩; have B4 := Lib.hid (below_next B3.out hb); clear hb)
    | (go_at_call 32; (with_reducible refine (Q3.out _).mono ?_); rintro e w5 ⟨rfl, hb⟩; have B5 := Lib.hid (below_next B4.out hb); clear hb)
    | (go_at_call 32; (with_reducible refine (Q4.out _).mono ?_); rintro e w6 ⟨rfl, hb⟩; have B6 := Lib.hid (below_next B5.out hb); have hv6 := hcv2 w6; clear hb))
  all_goals go_ret
  all_goals exact ⟨ret_bool (by first | rfl | simp), by first | exact B6.out | exact below_next B6.out (below_new _ _)⟩
end Go.Proofs.YtcponhdeffnndaaGreatDoor
