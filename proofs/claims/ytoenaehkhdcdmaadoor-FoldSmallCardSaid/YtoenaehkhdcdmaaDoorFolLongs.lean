/-
  The walks of Longs, Short.
-/
import Derived.Test.YtoenaehkhdcdmaaDoorFolSelB
namespace Go.Proofs.YtoenaehkhdcdmaaDoor
open Go.RowKit
set_option linter.unusedVariables false
set_option linter.unusedSimpArgs false

theorem takes_longs (k bk bw : Nat) (z : ByteArray) (w : World) (hk : w.cell? ⟨bk, 0, none⟩ = some (.int .u8 k)) (hz : w.cell? ⟨bw, 0, none⟩ = some (.string z)) :
    TakesS 44 #[.pointer (some ⟨bk, 0, none⟩), .pointer (some ⟨bw, 0, none⟩)] (fun r => r.2.1) (fun r => Fo.ofKind k r && Fo.ofWord z.data.toList r) w := by
  intro V j hj hb
  exact longs1_any (rowAt j).1 k bk bw ⟨(rowAt j).2.1.toArray⟩ ⟨(rowAt j).2.2.toArray⟩ z V (cell_keep hk hb) (cell_keep hz hb)
theorem takes_kinds (bw : Nat) (z : ByteArray) (w : World) (hz : w.cell? ⟨bw, 0, none⟩ = some (.string z)) :
    TakesB 48 #[.pointer (some ⟨bw, 0, none⟩)] (fun r => r.1) (Fo.ofWord z.data.toList) w := by
  intro V j hj hb
  exact kinds1_any (rowAt j).1 bw ⟨(rowAt j).2.1.toArray⟩ ⟨(rowAt j).2.2.toArray⟩ z V (cell_keep hz hb)
theorem tells_short (k bk bw : Nat) (z : ByteArray) (w : World) (hk : w.cell? ⟨bk, 0, none⟩ = some (.int .u8 k)) (hz : w.cell? ⟨bw, 0, none⟩ = some (.string z)) :
    Tells 50 #[.pointer (some ⟨bk, 0, none⟩), .pointer (some ⟨bw, 0, none⟩)] (fun r => Fo.ofKind k r && r.2.1 == z.data.toList) w := by
  intro V j hj hb
  exact short1_any (rowAt j).1 k bk bw ⟨(rowAt j).2.1.toArray⟩ ⟨(rowAt j).2.2.toArray⟩ z V (cell_keep hk hb) (cell_keep hz hb)
/-- two captured variables -/
theorem two_box (w : World) (k : Nat) (z : ByteArray) :
    ((w.alloc (.cells #[.int .u8 k] 5)).alloc (.cells #[.string z] 9)).cell? ⟨w.heap.size, 0, none⟩ = some (.int .u8 k) ∧
    ((w.alloc (.cells #[.int .u8 k] 5)).alloc (.cells #[.string z] 9)).cell? ⟨w.heap.size + 1, 0, none⟩ = some (.string z) ∧
    Below w.heap.size w ((w.alloc (.cells #[.int .u8 k] 5)).alloc (.cells #[.string z] 9)) := by
  have h1 := below_new w (.cells #[.int .u8 k] 5)
  refine ⟨?_, ?_, h1.alloc h1.size _⟩
  · exact cell_keep (by go_simp) (below_new _ _)
  · have : (w.alloc (.cells #[.int .u8 k] 5)).heap.size = w.heap.size + 1 := Array.size_push _
    rw [← this]; go_simp
theorem PostStrs.later {l : List (List UInt8)} {w W : World} (hb : Below w.heap.size w W) : ∀ e w', PostStrs l W e w' → PostStrs l w e w' := by
  rintro e w' ⟨A, n, c, rfl, h1, h2⟩
  exact ⟨A, n, c, rfl, h1.mono hb.size, below_next hb h2⟩
set_option maxHeartbeats 2000000 in
theorem longs_any (k : Nat) (z : ByteArray) (w : World) (hw : Rdy w) : Calls Tryd.prog 22 #[.int .u8 k, .string z] w (PostStrs (Fo.longs k z.data.toList) w) := by
  obtain ⟨h1, h2, h3⟩ := two_box w k z
  have hq := selS_any 44 #[.pointer (some ⟨w.heap.size, 0, none⟩), .pointer (some ⟨w.heap.size + 1, 0, none⟩)] _ _ _ (hw.below h3) (enters_of Tryd.func44 (by kernel_rfl) rfl) (takes_longs k _ _ z _ h1 h2)
  have H := Lib.hid (hq.mono (PostStrs.later h3))
  clear hq h1 h2 h3
  go_enter Tryd.func22, Tryd.ntmps22
  go_wp2_with (go_at_call 43; (with_reducible refine H.out.mono ?_); rintro e w' ⟨A, n, c, rfl, h, hb⟩; have HA := Lib.hid h; have HB := Lib.hid hb; clear h hb)
  go_ret
  exact ⟨A, n, c, rfl, HA.out, HB.out⟩
/-- what Short gives -/
def PostShort (k : Nat) (z : List UInt8) (w : World) (e : Ending) (w' : World) : Prop := e = .returned (.tuple #[.string ⟨(Fo.short k z).toArray⟩, .bool (Fo.hasShort k z)]) ∧ Below w.heap.size w w'
set_option maxRecDepth 100000 in
set_option maxHeartbeats 4000000 in
theorem short_any (k : Nat) (z : ByteArray) (w : World) (hw : Rdy w) : Calls Tryd.prog 24 #[.int .u8 k, .string z] w (PostShort k z.data.toList w) := by
  obtain ⟨h1, h2, h3⟩ := two_box w k z
  have hq := first_any 50 #[.pointer (some ⟨w.heap.size, 0, none⟩), .pointer (some ⟨w.heap.size + 1, 0, none⟩)] _ _ (hw.below h3) (enters_of Tryd.func50 (by kernel_rfl) rfl) (tells_short k _ _ z _ h1 h2)
  have HB0 := Lib.hid h3
  unfold PostShort Fo.short Fo.hasShort Fo.short?
  clear h1 h2 h3
  cases hf : Fo.T.find? (fun r => Fo.ofKind k r && r.2.1 == z.data.toList) with
  | none =>
    rw [hf] at hq
    unfold PostRow foundV zeroV at hq
    have H := Lib.hid hq
    clear hq hf
    go_enter Tryd.func24, Tryd.ntmps24
    go_wp2_with (go_at_call 49; (with_reducible refine H.out.mono ?_); rintro e w' ⟨rfl, hb⟩; have HB := Lib.hid (below_next HB0.out hb); clear hb)
    go_quiet (fail)
    go_wp2
    go_ret2
    exact ⟨rfl, below_drewN (HB.out.alloc HB.out.size _) _⟩
  | some r =>
    rw [hf] at hq
    obtain ⟨a, lx, ly⟩ := r
    have ha : 1 ≤ a := (Fo.T_kind _ (List.mem_of_find?_eq_some hf)).1
    obtain ⟨X, hX⟩ : ∃ X : ByteArray, X = ⟨lx.toArray⟩ := ⟨_, rfl⟩
    obtain ⟨Y, hY⟩ : ∃ Y : ByteArray, Y = ⟨ly.toArray⟩ := ⟨_, rfl⟩
    have hrv : foundV (some (a, lx, ly)) = .agg #[.int .u8 a, .string X, .string Y] := by rw [hX, hY]; rfl
    unfold PostRow at hq
    rw [hrv] at hq
    simp only [Option.isSome_some]
    have HY := Lib.hid hY
    have H := Lib.hid hq
    have ha0 : ((a : Int) == 0) = false := by rw [beq_eq_false_iff_ne]; omega
    clear hq hf hrv hX hY ha
    go_enter Tryd.func24, Tryd.ntmps24
    go_wp2_with (go_at_call 49; (with_reducible refine H.out.mono ?_); rintro e w' ⟨rfl, hb⟩; have HB := Lib.hid (below_next HB0.out hb); clear hb)
    go_quiet (fail)
    go_wp2
    go_ret2
    exact ⟨by rw [HY.out]; rfl, below_drewN (HB.out.alloc HB.out.size _) _⟩
end Go.Proofs.YtoenaehkhdcdmaaDoor
