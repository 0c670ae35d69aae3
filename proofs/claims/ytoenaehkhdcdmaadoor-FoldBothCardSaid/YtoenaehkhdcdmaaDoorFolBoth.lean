/-
  The walk of FoldBoth, all kinds.
-/
import Derived.Test.YtoenaehkhdcdmaaDoorFolBothA
import Derived.Test.YtoenaehkhdcdmaaDoorFolBothB
namespace Go.Proofs.YtoenaehkhdcdmaaDoor
open Go.RowKit
set_option linter.unusedVariables false
set_option linter.unusedSimpArgs false

set_option maxRecDepth 100000 in
set_option maxHeartbeats 4000000 in
theorem walk_foldBoth (k : Int) (hk : (Lit.int .u8 k).wf = true) (s : ByteArray) (hsm : s.size ≤ maxLen) (t : ByteArray) (htm : t.size ≤ maxLen) (w : World) (hw : Rdy w) :
    Calls Tryd.prog 7 #[.int .u8 k, .string s, .string t] w fun e w' => e = .returned (.bool true) ∧ Below w.heap.size w w' := by
  obtain ⟨h0, h1⟩ := u8_bd hk
  obtain ⟨n, rfl⟩ : ∃ n : Nat, k = n := ⟨k.toNat, by omega⟩
  by_cases hl : 2000 < s.size ∨ 2000 < t.size
  · have HA := Lib.hid (awake_any w hw)
    clear hw
    by_cases hs : 2000 < s.size
    · have hl2 : (2000 : Int) < s.size := by omega
      go_enter Tryd.func7, Tryd.ntmps7
      go_wp2_with (go_at_call 12; (with_reducible refine HA.out.mono ?_); rintro e w1 ⟨rfl, hb⟩; have B1 := Lib.hid hb; clear hb)
      go_ret
      exact ⟨rfl, B1.out⟩
    · have hl2 : ¬ (2000 : Int) < s.size := by omega
      have hl3 : (2000 : Int) < t.size := by omega
      go_enter Tryd.func7, Tryd.ntmps7
      go_wp2_with (go_at_call 12; (with_reducible refine HA.out.mono ?_); rintro e w1 ⟨rfl, hb⟩; have B1 := Lib.hid hb; clear hb)
      go_ret
      exact ⟨rfl, B1.out⟩
  · have hs : s.size ≤ 2000 := by omega
    have ht : t.size ≤ 2000 := by omega
    rcases Nat.lt_or_ge 5 n with h5 | h5
    · exact both_inB n s t w hw hs ht (by omega) h5
    · exact both_inA n s t w hw hs ht (by omega) h5
end Go.Proofs.YtoenaehkhdcdmaaDoor
