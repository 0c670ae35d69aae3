/-
  strings.Replace of the first point by nothing, at every string; and the walk of money.Read.
-/
import Derived.Test.YtbbmpjndalkgbaaDoorMonWalk4
import Derived.Lib.SlicesS
namespace Go.Proofs.YtbbmpjndalkgbaaDoor
open Go.RowKit
set_option linter.unusedVariables false

theorem wstr (B b : Nat) (bs : List Value) (s : ByteArray) (w : World) (h : Lib.IsBuilder 83 5 B b bs w) (hlen : bs.length + s.size ≤ 140737488355328) (hBw : B ≤ w.heap.size) :
    Calls Tryd.prog 51 #[.pointer (some ⟨b, 0, none⟩), .string s] w fun e w' => e = .returned (.tuple #[.int .i64 s.size, .nilIface]) ∧ (Lib.BuilderAt 83 5 B b (.pointer (some ⟨b, 0, none⟩)) (bs ++ Lib.strCells s) w' ∧ Below B w w') :=
  Any.Builder_WriteString { Tryd.lays154 with } Tryd.Builder_Extra_154 B b bs s w h hlen hBw

theorem rm1_index (l : List UInt8) : (Lib.indexByte l 46 = -1 ∧ Lib.countByte l 46 = 0 ∧ Mo.rm1 l = l) ∨ ∃ j : Nat, Lib.indexByte l 46 = j ∧ j < l.length ∧ 1 ≤ Lib.countByte l 46 ∧ Lib.countByte l 46 ≤ l.length ∧ Mo.rm1 l = l.take j ++ l.drop (j + 1) := by
  induction l with
  | nil => exact .inl ⟨rfl, rfl, rfl⟩
  | cons c t ih =>
    by_cases h : c = 46
    · subst h
      refine .inr ⟨0, by simp [Lib.indexByte], by simp, ?_, ?_, by simp [Mo.rm1]⟩
      · simp [Lib.countByte]
      · exact List.count_le_length
    · have hb : (c == 46) = false := by rw [beq_eq_false_iff_ne]; exact h
      rcases ih with ⟨h1, h2, h3⟩ | ⟨j, h1, h2, h3, h4, h5⟩
      · refine .inl ⟨by simp [Lib.indexByte, hb, h1], ?_, by rw [Mo.rm1, if_neg h, h3]⟩
        unfold Lib.countByte at h2 ⊢
        rw [List.count_cons, h2, hb]; rfl
      · refine .inr ⟨j + 1, ?_, by simp; omega, ?_, ?_, by rw [Mo.rm1, if_neg h, h5]; simp⟩
        · have hj : ((j : Int) == -1) = false := by rw [beq_eq_false_iff_ne]; omega
          simp [Lib.indexByte, hb, h1, hj]
        · unfold Lib.countByte at h3 ⊢; rw [List.count_cons]; omega
        · exact List.count_le_length

def PostRep (s : ByteArray) (w : World) (e : Ending) (w' : World) : Prop :=
  e = .returned (.string ⟨(Mo.rm1 s.data.toList).toArray⟩) ∧ Below w.heap.size w w'

set_option maxRecDepth 100000 in
set_option maxHeartbeats 4000000 in
theorem repl_no (s : ByteArray) (w : World) (hc : Lib.countByte s.data.toList 46 = 0) (hr : Mo.rm1 s.data.toList = s.data.toList) :
    Calls Tryd.prog 37 #[.string s, .string ⟨#[46]⟩, .string ⟨#[]⟩, .int .i64 1] w (PostRep s w) := by
  have hq : ∀ W, Calls Tryd.prog 48 #[.string s, .string ⟨#[46]⟩] W fun e w' => e = .returned (.int .i64 0) ∧ W = w' := by
    intro W
    refine (Tryd.strings_Count_one s 46 W).mono ?_
    rintro e w' ⟨rfl, rfl⟩
    rw [hc]; exact ⟨rfl, rfl⟩
  have HQ := Lib.hid hq; clear hq hc
  have HR := Lib.hid hr; clear hr
  go_enter Tryd.func37, Tryd.ntmps37
  go_wp2_with (go_at_call 48; refine (HQ.out _).mono ?_; rintro e w' ⟨rfl, rfl⟩)
  go_ret
  exact ⟨ret_str (by rw [HR.out]), Below.refl _ _⟩

set_option maxRecDepth 100000 in
set_option maxHeartbeats 4000000 in
theorem repl_yes (s : ByteArray) (j c : Nat) (w : World) (hs : s.size ≤ 140737488355328) (hi : Lib.indexByte s.data.toList 46 = j) (hj : j < s.size) (hc : Lib.countByte s.data.toList 46 = c) (c1 : 1 ≤ c) (c2 : c ≤ s.size)
    (hr : Mo.rm1 s.data.toList = s.data.toList.take j ++ s.data.toList.drop (j + 1)) :
    Calls Tryd.prog 37 #[.string s, .string ⟨#[46]⟩, .string ⟨#[]⟩, .int .i64 1] w (PostRep s w) := by
  have hq : ∀ W, Calls Tryd.prog 48 #[.string s, .string ⟨#[46]⟩] W fun e w' => e = .returned (.int .i64 c) ∧ W = w' := by
    intro W
    refine (Tryd.strings_Count_one s 46 W).mono ?_
    rintro e w' ⟨rfl, rfl⟩
    rw [hc]; exact ⟨rfl, rfl⟩
  have hx : ∀ W t, t.data.toList = s.data.toList → Calls Tryd.prog 50 #[.string t, .string ⟨#[46]⟩] W fun e w' => e = .returned (.int .i64 j) ∧ W = w' := by
    intro W t ht
    refine (Tryd.strings_Index_one t 46 W).mono ?_
    rintro e w' ⟨rfl, rfl⟩
    rw [ht, hi]; exact ⟨rfl, rfl⟩
  have HQ := Lib.hid hq; clear hq hc
  have HX := Lib.hid hx; clear hx hi
  have HR := Lib.hid hr; clear hr
  have hcz : ((c : Int) == 0) = false := by rw [beq_eq_false_iff_ne]; omega
  have hc1 : decide ((c : Int) < 1) = false := decide_eq_false (by omega)
  have k1 : (j : Int) < s.size := by omega
  have k2 : (1 : Int) ≤ s.size := by omega
  go_enter Tryd.func37, Tryd.ntmps37
  go_wp2_with (go_at_call 48; refine (HQ.out _).mono ?_; rintro e w' ⟨rfl, rfl⟩)
  have hg := Tryd.Builder_Grow_fresh w.heap.size w.heap.size (s.size - 1) (w.alloc (.cells #[.pointer none, .slice none 0 0] 83)) (Nat.le_refl _) (heap_alloc_new w _) (by simp) (by omega)
  rw [show ((s.size - 1 : Nat) : Int) = (s.size : Int) + -1 by omega] at hg
  refine hg.mono ?_
  rintro e w1 ⟨rfl, hb0, hb1⟩
  have H1 := Lib.hid (Or.inr hb0 : Lib.IsBuilder 83 5 w.heap.size w.heap.size (Lib.byteCells []) w1)
  have B1 := Lib.hid (((Below.refl w.heap.size w).alloc (Nat.le_refl _) _).trans hb1)
  clear hb0 hb1 hg
  go_wp2_with fail
  go_loopw [11, 53] (fun s11 s53 wx => ∃ k : Nat, k ≤ 1 ∧ s53 = .int .i64 k ∧ s11 = .int .i64 (k * ((j : Int) + 1)) ∧ Hid (Lib.IsBuilder 83 5 w.heap.size w.heap.size (Lib.byteCells (s.data.toList.take (k * j))) wx) ∧ Hid (Below w.heap.size w wx)) (fun _ s53 _ => 1 - (intOf s53).toNat)
  case atStart => exact ⟨0, by omega, rfl, by simp, by rw [Nat.zero_mul, List.take_zero]; exact H1, B1⟩
  case round =>
    obtain ⟨k, hk, rfl, rfl, HB, HW⟩ := hrel
    have hBw : w.heap.size ≤ wr.heap.size := HW.out.size
    rcases (show k = 0 ∨ k = 1 by omega) with rfl | rfl
    · simp only [Nat.zero_mul, List.take_zero, Int.zero_mul, Int.natCast_zero] at HB ⊢
      go_wp2_with (first | (go_at_call 50; refine (HX.out _ _ (by simp)).mono ?_; rintro e w' ⟨rfl, rfl⟩))
      have hn1 : Lib.byteCells [] ++ Lib.strCells (s.extract 0 j) ++ Lib.strCells ⟨#[]⟩ = Lib.byteCells (s.data.toList.take (1 * j)) := by
        rw [Lib.strCells_eq, Lib.strCells_eq, Lib.extract_data, ← Lib.byteCells_append, ← Lib.byteCells_append]; simp
      have N1 := Lib.hid hn1; clear hn1
      refine (wstr w.heap.size w.heap.size _ (s.extract 0 j) wr HB.out (by rw [Lib.byteCells_length, ByteArray.size_extract]; simp; omega) hBw).mono ?_
      rintro e w3 ⟨rfl, h3, hb3⟩
      have hBw3 : w.heap.size ≤ w3.heap.size := Nat.le_trans hBw hb3.size
      have H3 := Lib.hid h3
      have B3 := Lib.hid (HW.out.trans hb3)
      clear h3 hb3
      go_wp2_with fail
      refine (wstr w.heap.size w.heap.size _ ⟨#[]⟩ w3 (Or.inr H3.out) (by rw [show (⟨#[]⟩ : ByteArray).size = 0 from rfl, List.length_append, Lib.byteCells_length, Lib.strCells_length, ByteArray.size_extract, List.length_nil]; omega) hBw3).mono ?_
      rintro e w4 ⟨rfl, h4, hb4⟩
      rw [N1.out] at h4
      have H4 := Lib.hid (Or.inr h4 : Lib.IsBuilder 83 5 w.heap.size w.heap.size _ w4)
      have B4 := Lib.hid (B3.out.trans hb4)
      clear h4 hb4
      go_wp2
      exact ⟨⟨1, by omega, rfl, by go_num, H4, B4⟩, by simp [intOf]⟩
    · have e1 : ((1 : Nat) : Int) * ((j : Int) + 1) = (j : Int) + 1 := by omega
      rw [e1, Nat.one_mul] at *
      clear e1
      have k3 : (j : Int) + 1 ≤ s.size := by omega
      have hn1 : Lib.byteCells (s.data.toList.take j) ++ Lib.strCells (s.extract (j + 1) s.size) = Lib.byteCells (Mo.rm1 s.data.toList) := by
        rw [Lib.strCells_eq, Lib.extract_to_end, ← Lib.byteCells_append, HR.out]
      have N1 := Lib.hid hn1; clear hn1
      go_wp2_with fail
      refine (wstr w.heap.size w.heap.size _ _ wr HB.out (by rw [Lib.byteCells_length, ByteArray.size_extract]; simp; omega) hBw).mono ?_
      rintro e w3 ⟨rfl, h3, hb3⟩
      have hBw3 : w.heap.size ≤ w3.heap.size := Nat.le_trans hBw hb3.size
      rw [N1.out] at h3
      have H3 := Lib.hid (Or.inr h3 : Lib.IsBuilder 83 5 w.heap.size w.heap.size _ w3)
      have B3 := Lib.hid (HW.out.trans hb3)
      clear h3 hb3
      go_wp2_with fail
      refine (Tryd.Builder_String_any w.heap.size w.heap.size _ w3 H3.out hBw3).mono ?_
      rintro e w5 ⟨rfl, hb5⟩
      have B5 := Lib.hid (B3.out.trans hb5)
      clear hb5
      go_wp2
      go_ret
      exact ⟨rfl, B5.out⟩

theorem repl_any (s : ByteArray) (w : World) (hs : s.size ≤ 140737488355328) :
    Calls Tryd.prog 37 #[.string s, .string ⟨#[46]⟩, .string ⟨#[]⟩, .int .i64 1] w (PostRep s w) := by
  have hl : s.data.toList.length = s.size := by simp
  rcases rm1_index s.data.toList with ⟨h1, h2, h3⟩ | ⟨j, h1, h2, h3, h4, h5⟩
  · exact repl_no s w h2 h3
  · exact repl_yes s j _ w hs h1 (by omega) rfl h3 (by omega) h5

end Go.Proofs.YtbbmpjndalkgbaaDoor
