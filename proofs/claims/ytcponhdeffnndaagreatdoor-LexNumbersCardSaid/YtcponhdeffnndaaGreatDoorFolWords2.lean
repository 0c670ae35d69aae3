/-
  The walks of Words and Right.
-/
import Derived.Test.YtcponhdeffnndaaGreatDoorFolFold
import Derived.Test.YtcponhdeffnndaaGreatDoorFolWords
import Derived.Test.YtcponhdeffnndaaGreatDoorShelf
namespace Go.Proofs.YtcponhdeffnndaaGreatDoor
open Go.RowKit
set_option linter.unusedVariables false
set_option linter.unusedSimpArgs false

/-- texts of one's own -/
def Strs (base : Nat) (w : World) (A : Option Addr) (n c : Nat) (l : List (List UInt8)) : Prop := l.length = n ∧ w.ownsRow base 9 1 (.slice A n c) n (l.map strV)
def PostStrs (l : List (List UInt8)) (w : World) (e : Ending) (w' : World) : Prop := ∃ A n c, e = .returned (.slice A n c) ∧ Strs w.heap.size w' A n c l ∧ Below w.heap.size w w'
theorem infoStr : (Tryz.prog.info? 9).map (fun i => (i.zero, i.size, i.bytes)) = some (some (.string ⟨#[]⟩), 1, 16) := by kernel_rfl
theorem isBlank_any (w : World) : PredAt Tryz.prog 69 #[] encR Fo.isB w := by
  intro W r _
  unfold FnGives
  go_enter Tryz.func69, Tryz.ntmps69
  go_wp2
  all_goals go_ret
  exact ⟨ret_bool (by rw [Bool.eq_iff_iff]; simp [Fo.isB]; omega), 0, rfl⟩
theorem strV_of (s : ByteArray) : Value.string s = strV s.data.toList := rfl
set_option maxHeartbeats 1000000 in
theorem words_any (s : ByteArray) (w : World) (hs : s.size ≤ 100000000) : Calls Tryz.prog 27 #[.string s] w (PostStrs (Fo.words s.data.toList) w) := by
  have hp : Calls Tryz.prog 68 #[.string s, .func (.func 69) #[] #[]] w (PostStrs (Fo.words s.data.toList) w) := by
    refine (Tryz.strings_FieldsFunc 69 #[] (enters_of Tryz.func69 (by kernel_rfl) rfl) Fo.isB s w (by omega) (isBlank_any w)).mono ?_
    rintro e w' ⟨A, rfl, _, ho, hb⟩
    refine ⟨_, _, _, rfl, ⟨by rw [← Fo.words_fields, List.length_map], ?_⟩, hb⟩
    rw [← Fo.words_fields, List.map_map]
    exact ho
  have H := Lib.hid hp
  clear hp
  go_enter Tryz.func27, Tryz.ntmps27
  go_wp2_with (go_at_call 68; (with_reducible refine H.out.mono ?_); rintro e w' ⟨A, n, c, rfl, h, hb⟩; have HA := Lib.hid h; have HB := Lib.hid hb; clear h hb)
  go_ret
  exact ⟨A, n, c, rfl, HA.out, HB.out⟩
def PostB (b : Bool) (w : World) (e : Ending) (w' : World) : Prop := e = .returned (.bool b) ∧ Below w.heap.size w w'
set_option maxHeartbeats 1000000 in
theorem right_any (s : ByteArray) (w : World) (hw : Rdy w) (hs : s.size ≤ 100000000) : Calls Tryz.prog 29 #[.string s] w (PostB (Fo.fold s.data.toList == s.data.toList) w) := by
  have hq := fold_any s w hw hs
  obtain ⟨F, hF⟩ : ∃ F : ByteArray, F = ⟨(Fo.fold s.data.toList).toArray⟩ := ⟨_, rfl⟩
  have hq2 : Calls Tryz.prog 31 #[.string s] w fun e w' => e = .returned (.string F) ∧ Below w.heap.size w w' := by rw [hF]; exact hq
  have hF2 : F.data.toList = Fo.fold s.data.toList := by rw [hF]
  rw [← hF2]
  have H := Lib.hid hq2
  clear hq hq2 hF hF2
  go_enter Tryz.func29, Tryz.ntmps29
  go_wp2_with (go_at_call 31; (with_reducible refine H.out.mono ?_); rintro e w' ⟨rfl, hb⟩; have HB := Lib.hid hb; clear hb)
  go_ret
  exact ⟨ret_bool (by rw [ByteArray.toList_eq, ByteArray.toList_eq]), HB.out⟩
end Go.Proofs.YtcponhdeffnndaaGreatDoor
