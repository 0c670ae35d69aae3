/-
  The walk of the reference's text.
-/
import Derived.Test.YtbbmpjndalkgbaaDoorMonRef3
import Derived.Test.YtbbmpjndalkgbaaDoorMonWalk4
namespace Go.Proofs.YtbbmpjndalkgbaaDoor
open Go.RowKit
set_option linter.unusedVariables false

theorem dgt_int' (m : Nat) : ((Mo.dgt m).toNat : Int) = 48 + (m : Int) % 10 := by rw [Mo.dgt_nat]; omega
theorem conv_dig (W : World) (m : Nat) : (convert 77 9 (.slice (some ⟨W.heap.size, 0, none⟩) 1 1)).run Tryd.prog (W.alloc (.cells #[.int .u8 (48 + (m : Int) % 10)] 5)) = .ok (.string ⟨#[Mo.dgt m]⟩) (W.alloc (.cells #[.int .u8 (48 + (m : Int) % 10)] 5)) := by
  refine run_convert_bytes_back (P := Tryd.prog) _ 77 9 5 ⟨W.heap.size, 0, none⟩ 1 [Mo.dgt m] Tryd.underlying77 Tryd.underlying5 Tryd.underlying9 (fun j hj => ?_)
  obtain rfl : j = 0 := by simpa using hj
  simp only [List.getElem_cons_zero]
  rw [dgt_int']
  show (W.alloc _).cell? ⟨W.heap.size, 0, none⟩ = _
  go_simp
theorem conv_top (W : World) (m : Nat) (h : m ≤ 9) : (convert 77 9 (.slice (some ⟨W.heap.size, 0, none⟩) 1 1)).run Tryd.prog (W.alloc (.cells #[.int .u8 (48 + (m : Int))] 5)) = .ok (.string ⟨#[Mo.dgt m]⟩) (W.alloc (.cells #[.int .u8 (48 + (m : Int))] 5)) := by
  have := conv_dig W m
  rwa [show (m : Int) % 10 = m by omega] at this
theorem conv_two (W : World) (m : Nat) : (convert 77 9 (.slice (some ⟨W.heap.size, 0, none⟩) 2 2)).run Tryd.prog (W.alloc (.cells #[.int .u8 (48 + (m : Int) / 10 % 10), .int .u8 (48 + (m : Int) % 10)] 5)) = .ok (.string ⟨#[Mo.dgt (m / 10), Mo.dgt m]⟩) (W.alloc (.cells #[.int .u8 (48 + (m : Int) / 10 % 10), .int .u8 (48 + (m : Int) % 10)] 5)) := by
  refine run_convert_bytes_back (P := Tryd.prog) _ 77 9 5 ⟨W.heap.size, 0, none⟩ 2 [Mo.dgt (m / 10), Mo.dgt m] Tryd.underlying77 Tryd.underlying5 Tryd.underlying9 (fun j hj => ?_)
  have hj2 : j = 0 ∨ j = 1 := by simp at hj; omega
  rcases hj2 with rfl | rfl
  · simp only [List.getElem_cons_zero]
    rw [dgt_int', show (((m / 10 : Nat)) : Int) = (m : Int) / 10 by omega]
    show (W.alloc _).cell? ⟨W.heap.size, 0, none⟩ = _
    go_simp
  · simp only [List.getElem_cons_succ, List.getElem_cons_zero]
    rw [dgt_int']
    show (W.alloc _).cell? ⟨W.heap.size, 0 + 1, none⟩ = _
    go_simp

set_option maxHeartbeats 400000 in
theorem rtext_no (a : Int) (w : World) (h : Mo.rt a = false) : Calls Tryd.prog 30 #[.int .i64 a] w (PostTx a w) := by
  have hrt : ∀ W, Calls Tryd.prog 25 #[.int .i64 a] W fun e w' => e = .returned (.bool false) ∧ W = w' := fun W => h ▸ rRight_any a W
  have HE := Lib.hid (show Mo.txV a = [] ∧ Mo.txE a = 2 by simp [Mo.txV, Mo.txE, h])
  have HR := Lib.hid hrt
  clear hrt h
  go_enter Tryd.func30, Tryd.ntmps30
  go_wp2_with (go_at_call 25; (with_reducible refine (HR.out _).mono ?_); rintro e w' ⟨rfl, rfl⟩)
  go_ret2
  unfold PostTx
  rw [HE.out.1, HE.out.2]
  exact ⟨rfl, Below.refl _ _⟩

set_option maxRecDepth 20000 in
set_option maxHeartbeats 1000000 in
theorem rtext_yes (N : Nat) (a : Int) (w : World) (hN : N ≤ 1000000000000000) (ha : a = (N : Int) ∨ (0 < N ∧ a = -(N : Int))) : Calls Tryd.prog 30 #[.int .i64 a] w (PostTx a w) := by
  have hr : Mo.rt a = true := (Mo.rt_iff a).2 (by omega)
  have hrt : ∀ W, Calls Tryd.prog 25 #[.int .i64 a] W fun e w' => e = .returned (.bool true) ∧ W = w' := fun W => hr ▸ rRight_any a W
  have HE := Lib.hid (show Mo.txV a = Mo.tx a ∧ Mo.txE a = 0 by simp [Mo.txV, Mo.txE, hr])
  have hTX : Mo.tx a = (if a < 0 then [45] else []) ++ Mo.body N := by
    unfold Mo.tx
    rcases ha with rfl | ⟨h0, rfl⟩
    · rw [if_neg (by omega), if_neg (by omega)]; simp
    · rw [if_pos (by omega), if_pos (by omega)]; simp
  have hlen : (Mo.body N).length ≤ 18 := by
    have := Mo.tx_len (N : Int) ((Mo.rt_iff _).2 (by omega))
    unfold Mo.tx at this
    rw [if_neg (by omega)] at this
    simpa using this
  have HR := Lib.hid hrt; have HT := Lib.hid hTX; have HL := Lib.hid hlen
  clear hrt hr hTX hlen
  rcases ha with rfl | ⟨h0, rfl⟩
  all_goals
    go_enter Tryd.func30, Tryd.ntmps30
    have hcv := conv_two w N
    go_wp2_with (go_at_call 25; (with_reducible refine (HR.out _).mono ?_); rintro e w' ⟨rfl, rfl⟩)
    clear hcv
    go_loopw [5, 6] (fun s n wr => ∃ (m : Nat) (l : List UInt8), s = .string ⟨l.toArray⟩ ∧ n = .int .i64 (m : Int) ∧ m ≤ 1000000000000000 ∧ Hid (Lib.decDigits m ++ l = Mo.body N) ∧ Hid (Below w.heap.size w wr)) (fun _ n _ => (intOf n).toNat)
    case atStart =>
      exact ⟨N / 100, [46, Mo.dgt (N / 10), Mo.dgt N], by rw [show (⟨#[46]⟩ : ByteArray) = ⟨[46].toArray⟩ from rfl, show (⟨#[Mo.dgt (N / 10), Mo.dgt N]⟩ : ByteArray) = ⟨[Mo.dgt (N / 10), Mo.dgt N].toArray⟩ from rfl, bytes_append]; rfl, congrArg (Value.int .i64) (by omega), by omega, Lib.hid rfl, Lib.hid ((Below.refl _ _).alloc (Nat.le_refl _) _)⟩
    case round =>
      obtain ⟨m, l, rfl, rfl, hm, HD, HB⟩ := hrel
      have hll : l.length ≤ 18 := by
        have := HL.out
        rw [← HD.out, List.length_append] at this
        omega
      by_cases hm9 : 9 < m
      · have hcv := conv_dig wr m
        have HN := Lib.hid (show Lib.decDigits (m / 10) ++ (Mo.dgt m :: l) = Mo.body N by
          rw [← HD.out, show Lib.decDigits m = Lib.decDigits (m / 10) ++ [UInt8.ofNat (48 + m % 10)] by rw [Lib.decDigits, dif_neg (by omega)]]
          simp [Mo.dgt])
        go_wp2
        exact ⟨⟨m / 10, Mo.dgt m :: l, by rw [show (⟨#[Mo.dgt m]⟩ : ByteArray) = ⟨[Mo.dgt m].toArray⟩ from rfl, bytes_append]; rfl, congrArg (Value.int .i64) (by omega), by omega, HN, Lib.hid (HB.out.alloc HB.out.size _)⟩, by simp [intOf]; omega⟩
      · have hcv := conv_top wr m (by omega)
        have HN := Lib.hid (show Mo.dgt m :: l = Mo.body N by
          rw [← HD.out, show Lib.decDigits m = [UInt8.ofNat (48 + m)] by rw [Lib.decDigits, dif_pos (by omega)]]
          simp [Mo.dgt, show m % 10 = m by omega])
        have hh2 := HT.out
        rw [← HN.out] at hh2
        have HH := Lib.hid hh2
        clear hh2
        go_wp2
        go_ret2
        unfold PostTx
        rw [HE.out.1, HE.out.2, HH.out]
        exact ⟨ret_si (by
          rw [show (⟨#[Mo.dgt m]⟩ : ByteArray) = ⟨[Mo.dgt m].toArray⟩ from rfl]
          first
            | (rw [if_neg (by omega), show (⟨#[]⟩ : ByteArray) = ⟨([] : List UInt8).toArray⟩ from rfl, bytes_append, bytes_append]; rfl)
            | (rw [if_pos (by omega), show (⟨#[45]⟩ : ByteArray) = ⟨([45] : List UInt8).toArray⟩ from rfl, bytes_append, bytes_append]; rfl)) rfl, HB.out.alloc HB.out.size _⟩

end Go.Proofs.YtbbmpjndalkgbaaDoor
