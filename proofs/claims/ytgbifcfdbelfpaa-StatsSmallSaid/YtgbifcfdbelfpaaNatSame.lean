/-
  The kit's SameLimbs.
-/
import Derived.Test.YtgbifcfdbelfpaaNatCmp
import Derived.Laws.AppendOwnNone
namespace Go.Proofs.Ytgbifcfdbelfpaa
open Go.RowKit
set_option linter.unusedVariables false

theorem infoU32 : (Try.prog.info? 55).map (fun i => (i.zero, i.size, i.bytes)) = some (some (.int .u32 0), 1, 4) := by kernel_rfl

set_option maxHeartbeats 1000000 in
theorem same_any (A B : Option Addr) (ca cb : Nat) (l m : List Int) (w : World) (hr : RdK .u32 w A l) (hs : RdK .u32 w B m) (hl : l.length ≤ 9223372036854775807) (hm : m.length ≤ 9223372036854775807) :
    Calls Try.prog 63 #[.slice A l.length ca, .slice B m.length cb] w fun e w' => e = .returned (.bool (decide (l = m))) ∧ Below w.heap.size w w' := by
  by_cases h : l.length = m.length
  · have hne : ((l.length : Int) != (m.length : Int)) = false := by rw [bne_eq_false_iff_eq]; omega
    have Hr := Lib.hid hr; have Hs := Lib.hid hs; have HL := Lib.hid h; clear hr hs h
    go_enter Try.func63, Try.ntmps63
    go_wp2_with fail
    go_loopw [5] (fun i wr => ∃ k : Nat, k ≤ l.length ∧ i = .int .i64 k ∧ Hid (l.take k = m.take k) ∧ Hid (Below w.heap.size w wr)) (fun i _ => l.length - (intOf i).toNat)
    case atStart => exact ⟨0, by omega, rfl, Lib.hid (by simp), Lib.hid (Below.refl _ _)⟩
    case round =>
      obtain ⟨k, hk, rfl, HD, HB⟩ := hrel
      have hl2 := HL.out
      by_cases h0 : k = l.length
      · have hd := HD.out
        rw [h0, List.take_length, hl2, List.take_length] at hd
        have HZ := Lib.hid (decide_eq_true hd)
        clear hd hl2
        subst h0
        go_wp2_with fail
        go_ret
        exact ⟨ret_bool HZ.out.symm, HB.out⟩
      · obtain ⟨b, off, rfl, hbl, hc⟩ := Hr.out.below HB.out (by omega)
        obtain ⟨b2, off2, rfl, hbl2, hc2⟩ := Hs.out.below HB.out (by omega)
        have hc1 := hc k (by omega); clear hc
        have hc3 := hc2 k (by omega); clear hc2
        have hn : l.getD k 0 = m.getD k 0 → l.take (k + 1) = m.take (k + 1) := fun e => by rw [Na.take_snoc l k (by omega), Na.take_snoc m k (by omega), e, HD.out]
        have hn2 : l.getD k 0 ≠ m.getD k 0 → decide (l = m) = false := fun e => decide_eq_false (fun x => e (by rw [x]))
        have HN := Lib.hid hn; have HN2 := Lib.hid hn2
        clear hn hn2
        generalize l.getD k 0 = u at *
        generalize m.getD k 0 = v at *
        have i0 : (0 : Int) ≤ (k : Int) := by omega
        have i1 : (k : Int) < (l.length : Int) := by omega
        have i2 : (k : Int) < (m.length : Int) := by omega
        clear hl2 h0
        by_cases hu : u = v
        · subst hu
          have f1 : (u != u) = false := by rw [bne_eq_false_iff_eq]
          go_wp2_with fail
          go_quiet (fail)
          go_wp2
          exact ⟨⟨k + 1, by omega, by go_num, Lib.hid (HN.out (by simp)), Lib.hid (below_drewN HB.out nq)⟩, by simp [intOf]; omega⟩
        · have f1 : (u != v) = true := by rw [bne_iff_ne]; exact hu
          go_wp2_with fail
          go_quiet (fail)
          go_wp2_with fail
          go_ret
          exact ⟨ret_bool (HN2.out hu).symm, below_drewN HB.out _⟩
  · have hne : ((l.length : Int) != (m.length : Int)) = true := by rw [bne_iff_ne]; omega
    have HZ := Lib.hid (show decide (l = m) = false from decide_eq_false (fun x => h (by rw [x])))
    clear hr hs h
    go_enter Try.func63, Try.ntmps63
    go_wp2_with fail
    go_ret
    exact ⟨ret_bool HZ.out.symm, Below.refl _ _⟩

end Go.Proofs.Ytgbifcfdbelfpaa
