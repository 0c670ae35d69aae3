/-
  The law's Same at tokens that are the same.
-/
import Derived.Test.YtcponhdeffnndaaGreatDoorTokNumb
import Derived.Test.YtcponhdeffnndaaGreatDoorTokTk2
namespace Go.Proofs.YtcponhdeffnndaaGreatDoor
open Go.RowKit
set_option linter.unusedVariables false
set_option linter.unusedSimpArgs false

abbrev Tv := List UInt8 × Nat × Nat × Nat
def tvC (x : Tv) : List Value := [strV x.1, .int .i64 x.2.1, .int .i64 x.2.2.1, .int .u16 x.2.2.2]
/-- a slice that reads as tokens -/
def RdT (w : World) (A : Option Addr) (l : List Tv) : Prop :=
  0 < l.length → ∃ b off, A = some ⟨b, off, none⟩ ∧ ∀ i, i < l.length → w.cell? ⟨b, off + i * 4, none⟩ = some (strV (l.getD i ([], 0, 0, 0)).1) ∧ w.cell? ⟨b, off + i * 4 + 1, none⟩ = some (.int .i64 (l.getD i ([], 0, 0, 0)).2.1) ∧
    w.cell? ⟨b, off + i * 4 + 2, none⟩ = some (.int .i64 (l.getD i ([], 0, 0, 0)).2.2.1) ∧ w.cell? ⟨b, off + i * 4 + 3, none⟩ = some (.int .u16 (l.getD i ([], 0, 0, 0)).2.2.2)
theorem RdT.below {w w' : World} {A : Option Addr} {l : List Tv} (h : RdT w A l) (hb : Below w.heap.size w w') : RdT w' A l := by
  intro h0
  obtain ⟨b, off, e, hc⟩ := h h0
  exact ⟨b, off, e, fun i hi => by obtain ⟨c0, c1, c2, c3⟩ := hc i hi; exact ⟨cell_keep c0 hb, cell_keep c1 hb, cell_keep c2 hb, cell_keep c3 hb⟩⟩
set_option maxRecDepth 100000 in
set_option maxHeartbeats 2000000 in
theorem sameTok_any (A1 A2 : Option Addr) (n c1 c2 : Nat) (l : List Tv) (w : World) (hl : l.length = n) (hn : n ≤ 1000000) (h1 : RdT w A1 l) (h2 : RdT w A2 l) :
    Calls Tryz.prog 38 #[.slice A1 n c1, .slice A2 n c2] w (PostB true w) := by
  have H1 := Lib.hid h1; have H2 := Lib.hid h2; have HL := Lib.hid hl
  clear h1 h2 hl
  go_enter Tryz.func38, Tryz.ntmps38
  go_wp2
  go_loopw [5] (fun s5 wr => Hid (Below w.heap.size w wr) ∧ ∃ k : Nat, s5 = .int .i64 k ∧ k ≤ n) (fun s5 _ => n - (intOf s5).toNat)
  case atStart => exact ⟨Lib.hid (Below.refl _ _), 0, rfl, by omega⟩
  case round =>
    obtain ⟨HB, k, rfl, hk⟩ := hrel
    by_cases hlt : k < n
    · have hlt2 : (k : Int) < n := by omega
      have hle : ¬ n ≤ k := by omega
      obtain ⟨b1, o1, e1, hc1⟩ := (H1.out.below HB.out) (by rw [HL.out]; omega)
      obtain ⟨b2, o2, e2, hc2⟩ := (H2.out.below HB.out) (by rw [HL.out]; omega)
      subst e1 e2
      obtain ⟨x0, x1, x2, x3⟩ := hc1 k (by rw [HL.out]; exact hlt)
      obtain ⟨y0, y1, y2, y3⟩ := hc2 k (by rw [HL.out]; exact hlt)
      generalize l.getD k ([], 0, 0, 0) = y at x0 x1 x2 x3 y0 y1 y2 y3
      obtain ⟨T, P, Q, C⟩ := y
      dsimp only at x0 x1 x2 x3 y0 y1 y2 y3
      unfold strV at x0 y0
      obtain ⟨TB, hTB⟩ : ∃ TB : ByteArray, TB = ⟨T.toArray⟩ := ⟨_, rfl⟩
      rw [← hTB] at x0 y0
      clear hc1 hc2 hTB
      go_wp2
      go_quiet (fail)
      go_wp2
      go_roundw
      case rel => exact ⟨Lib.hid (belowN HB.out _), k + 1, by go_num, by omega⟩
      case measure => simp [intOf]; omega
    · have hge : ¬ (k : Int) < n := by omega
      go_wp2
      go_ret
      exact ⟨rfl, HB.out⟩
end Go.Proofs.YtcponhdeffnndaaGreatDoor
