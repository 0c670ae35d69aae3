/-
  The walk of nat.putBack.
-/
import Derived.Test.YtgbifcfdbelfpaaNatShift
namespace Go.Proofs.Ytgbifcfdbelfpaa
open Go.RowKit
set_option linter.unusedVariables false

def PostPut (g : Nat) (p s : List Value) (m l : List Int) (w : World) (e : Ending) (w' : World) : Prop :=
  ∃ q c, e = .returned (.bool (decide (0 < c))) ∧ Blk w' g p q s ∧ q.length = m.length ∧ Na.Dg q ∧ 0 ≤ c ∧ c < 4294967296 ∧ Na.V q + c * Na.Bp m.length = Na.V m + Na.V l ∧ w.grownBy w' (some g)

set_option maxRecDepth 100000 in
set_option maxHeartbeats 2000000 in
theorem putBack_any (A : Option Addr) (g off ca cb : Nat) (p s : List Value) (m l : List Int) (w : World) (hb : Blk w g p m s) (hp : p.length = off) (hd : Na.Dg m) (hs : RdOff w g A l) (hl : Na.Dg l) (hlm : l.length = m.length) (hm : m.length ≤ 1000000) :
    Calls Try.prog 117 #[.slice (some ⟨g, off, none⟩) m.length ca, .slice A l.length cb] w (PostPut g p s m l w) := by
  have hA : AccW w (w.alloc (.cells #[.int .u32 0] 55)) g w.heap.size p s m [] 0 0 := by
    have := AccW.start hb (grown_refl w _) (Nat.le_refl _) 0 (by omega) (Na.Dg.take hd 0) (show (0 : Int) ≤ 0 by omega) (show (0 : Int) < 4294967296 by omega)
    simpa [Na.V] using this
  have hgb : g ≠ w.heap.size := by have := hb.lt; omega
  have HA := Lib.hid hA; have Hs := Lib.hid hs; have HL := Lib.hid hlm; clear hA hs hb hlm
  go_enter Try.func117, Try.ntmps117
  go_wp2_with (go_at_call 60; refine (carrying_any _ _).mono ?_; rintro e w2 ⟨rfl, h2⟩; have H2 := Lib.hid h2; clear h2)
  obtain ⟨b, hb⟩ : ∃ b, w.heap.size = b := ⟨_, rfl⟩
  rw [hb] at hgb ⊢
  have hbw : w.heap.size ≤ b := by omega
  have hA : AccW w w2 g b p s m [] 0 0 := by
    have h2 := H2.out
    subst hb h2
    exact HA.out
  have HA2 := Lib.hid hA; clear hA HA H2 hb
  go_loopw [11] (fun i wr => ∃ (k : Nat) (q : List Int) (c : Int), k ≤ l.length ∧ i = .int .i64 k ∧ Hid (q.length = k) ∧ Hid (AccW w wr g b p s m q c (Na.V (m.take k) + Na.V (l.take k)))) (fun i _ => l.length - (intOf i).toNat)
  case atStart => exact ⟨0, [], 0, by omega, rfl, Lib.hid rfl, Lib.hid (by simpa [Na.V] using HA2.out)⟩
  case round =>
    obtain ⟨k, q, c, hk, rfl, HQ, HS⟩ := hrel
    have hlm := HL.out
    by_cases h0 : k = l.length
    · have hS := HS.out
      have nx := next_any 0 c b wr hS.one (by omega) hS.c0 (by have := hS.c1; omega)
      rw [Int.zero_add, Int.emod_eq_of_lt hS.c0 hS.c1] at nx
      have ls := fun w3 => hS.last (w1 := w3) hgb hbw
      have NX := Lib.hid nx; have LS := Lib.hid ls
      subst h0
      clear nx ls hS hlm
      go_wp2_with (go_at_call 82; (with_reducible refine NX.out.mono ?_); rintro e w3 ⟨rfl, -, hgr⟩; have HG := Lib.hid hgr; clear hgr)
      go_ret
      obtain ⟨f1, f2⟩ := LS.out w3 HG.out
      have hv := HS.out.val
      have hlm := HL.out
      rw [List.drop_of_length_le (by rw [HQ.out]; omega), List.append_nil] at f1
      rw [HQ.out, List.take_length, List.take_of_length_le (by omega), hlm] at hv
      exact ⟨q, c, rfl, f1, by rw [HQ.out]; omega, HS.out.dg, HS.out.c0, HS.out.c1, hv, f2⟩
    · have hS := HS.out
      obtain ⟨b2, off2, rfl, hbl2, hne, hc⟩ := (Hs.out.kept hS.frm) (by omega)
      have hc3 := hc k (by omega); clear hc
      obtain ⟨v0, v1⟩ := hl.at k
      obtain ⟨z0, z1⟩ := hd.at k
      have hvk := Na.V_take l k
      have hzk := Na.V_take m k
      have hc4 := hS.cell (grown_refl wr none) (by simp) k (by rw [HQ.out]; omega) (by omega) (i := off + k) (by omega)
      have hcc := fun w3 (hgr : wr.grownBy w3 (some b)) => hS.cell hgr (by simpa using hgb) k (by rw [HQ.out]; omega) (by omega) (i := off + k) (by omega)
      have hcf := fun w3 (hgr : wr.grownBy w3 (some b)) => hS.free hgr (by simpa using hgb) (off + k)
      generalize l.getD k 0 = v at *
      generalize m.getD k 0 = z at *
      have nx := next_any (z + v) c b wr hS.one (by omega) hS.c0 (by have := hS.c1; omega)
      have st := fun w3 => hS.step (w1 := w3) (x := z + v) (by rw [HQ.out]; omega) (by omega) (by omega) hgb hbw (i := off + k) (hi := by rw [HQ.out, hp])
      have HVK := Lib.hid (And.intro hvk hzk)
      have NX := Lib.hid nx; have ST := Lib.hid st; have HCC := Lib.hid hcc; have HCF := Lib.hid hcf
      have j2 : (0 : Int) ≤ (k : Int) := by omega
      have j3 : (k : Int) < (l.length : Int) := by omega
      have j4 : (k : Int) < (m.length : Int) := by omega
      clear h0 hvk hzk hS nx st hcc hcf hlm
      go_wp2_with (go_at_call 82; (with_reducible refine NX.out.mono ?_); rintro e w3 ⟨rfl, ho, hgr⟩; have hd1 := HCC.out w3 hgr; have hd2 := HCF.out w3 hgr; have HST := Lib.hid (ST.out w3 ho hgr); clear ho hgr)
      have hst := HST.out
      rw [HQ.out, show Na.V (m.take k) + Na.V (l.take k) + Na.Bp k * (z + v) = Na.V (m.take (k + 1)) + Na.V (l.take (k + 1)) by rw [HVK.out.1, HVK.out.2]; grind] at hst
      exact ⟨⟨k + 1, _, _, by omega, by go_num, Lib.hid (by rw [List.length_append, HQ.out]; rfl), Lib.hid hst⟩, by simp [intOf]; omega⟩

end Go.Proofs.Ytgbifcfdbelfpaa
