/-
  The walk of Table; has.
-/
import Derived.Test.YtoenaehkhdcdmaaDoorFolJoin
import Derived.Deep.WholeRow
namespace Go.Proofs.YtoenaehkhdcdmaaDoor
open Go.RowKit
set_option linter.unusedVariables false
set_option linter.unusedSimpArgs false

set_option maxRecDepth 100000 in
set_option maxHeartbeats 2000000 in
theorem table_any (w : World) (hw : Rdy w) : Calls Tryd.prog 9 #[] w fun e w' => ∃ g, e = .returned (.slice (some ⟨g, 0, none⟩) 40 40) ∧ w'.heap[g]? = some (.cells rowsCells.toArray 45 (0, 0)) ∧ w.heap.size ≤ g ∧ Below w.heap.size w w' := by
  obtain ⟨tt, fr, hg1⟩ := hw.row
  have hsz : rowsCells.toArray.size = 120 := by decide
  have hone : rowsCells.toArray.all (·.oneCell') = true := by decide +kernel
  obtain ⟨AV, hAV⟩ : ∃ AV, AV = rowsCells.toArray := ⟨_, rfl⟩
  rw [← hAV] at hg1 hsz hone ⊢
  have HZ2 := Lib.hid hsz; have HZ1 := Lib.hid hone
  clear hsz hAV hw hone
  go_enter Tryd.func9, Tryd.ntmps9
  go_wp2_with (first
    | (refine wpList_load_row rfl 45 _ rfl 0 rfl tt _ fr _ hg1 Tryd.underlying45 rfl (by rw [HZ2.out]; kernel_rfl) ?_)
    | (refine wpList_store_row rfl 45 _ _ rfl w.heap.size AV rfl rfl _ _ (heap_alloc_new w _) (by rw [HZ2.out]; kernel_rfl) (by rw [HZ2.out]; kernel_rfl) HZ1.out ?_))
  rw [World.setRow_alloc_new]
  go_ret
  exact ⟨w.heap.size, rfl, heap_alloc_new _ _, Nat.le_refl _, below_new _ _⟩

set_option maxHeartbeats 2000000 in
theorem has_any (A : Option Addr) (n c : Nat) (l : List (List UInt8)) (x : ByteArray) (w : World) (hl : l.length = n) (hn : n ≤ 1000000000) (h : RdS w A l) :
    Calls Tryd.prog 21 #[.slice A n c, .string x] w fun e w' => e = .returned (.bool (l.contains x.data.toList)) ∧ w = w' := by
  have hyes : ∀ j, j < n → l.getD j [] = x.data.toList → l.contains x.data.toList = true := by
    intro j hj e
    rw [List.contains_iff_mem, ← e, List.getD_eq_getElem?_getD, List.getElem?_eq_getElem (by omega)]
    exact List.getElem_mem _
  have hno : (∀ j, j < n → l.getD j [] ≠ x.data.toList) → l.contains x.data.toList = false := by
    intro H
    rw [Bool.eq_false_iff]
    intro hc
    obtain ⟨i, hi, he⟩ := List.getElem_of_mem (List.contains_iff_mem.1 hc)
    refine H i (by omega) ?_
    rw [List.getD_eq_getElem?_getD, List.getElem?_eq_getElem hi]
    exact he
  generalize l.contains x.data.toList = R at *
  have HY := Lib.hid hyes; have HNo := Lib.hid hno
  have HL := Lib.hid hl; have HH := Lib.hid h
  have hN : (n : Int) ≤ 1000000000 := by omega
  clear hyes hno hl h
  go_enter Tryd.func21, Tryd.ntmps21
  go_wp2
  go_loopw [5] (fun s5 wr => wr = w ∧ ∃ k : Nat, s5 = .int .i64 k ∧ k ≤ n ∧ Hid (∀ j, j < k → l.getD j [] ≠ x.data.toList)) (fun s5 _ => n - (intOf s5).toNat)
  case atStart => exact ⟨rfl, 0, rfl, by omega, Lib.hid (fun j h => by omega)⟩
  case round =>
    obtain ⟨rfl, k, rfl, hk, HS⟩ := hrel
    by_cases hlt : k < n
    · have hlt2 : (k : Int) < n := by omega
      obtain ⟨b, off, hA, hb, hc⟩ := HH.out (by rw [HL.out]; omega)
      subst hA
      have hc1 := hc k (by rw [HL.out]; omega)
      obtain ⟨Y, hY⟩ : ∃ Y : ByteArray, Y = ⟨(l.getD k []).toArray⟩ := ⟨_, rfl⟩
      rw [← hY] at hc1
      have y1 : Y.toList = l.getD k [] := by rw [ByteArray.toList_eq, hY]
      have Y1 := Lib.hid y1
      have hle : ¬ n ≤ k := by omega
      clear hc hY hb y1
      by_cases hxy : Y.toList = x.toList
      · have he : (Y.toList == x.toList) = true := beq_iff_eq.2 hxy
        have hR : R = true := HY.out k hlt (by rw [← Y1.out, hxy, ByteArray.toList_eq])
        have HR := Lib.hid hR
        clear hxy hR
        go_wp2
        go_ret
        exact ⟨ret_bool HR.out.symm, rfl⟩
      · have he : (Y.toList == x.toList) = false := beq_eq_false_iff_ne.2 hxy
        have HE := Lib.hid hxy
        clear hxy
        go_wp2
        go_roundw
        case rel =>
          refine ⟨trivial, k + 1, by go_num, by omega, Lib.hid (fun j hj => ?_)⟩
          rcases Nat.lt_or_ge j k with h | h
          · exact HS.out j h
          · obtain rfl : j = k := by omega
            rw [← Y1.out, ← ByteArray.toList_eq]; exact HE.out
        case measure => simp [intOf]; omega
    · have hge : ¬ (k : Int) < n := by omega
      have hR : R = false := HNo.out (fun j hj => HS.out j (by omega))
      have HR := Lib.hid hR
      clear hR
      go_wp2
      go_ret
      exact ⟨ret_bool HR.out.symm, rfl⟩

/-- what holds of each row -/
def rowOK (r : Fo.Row) : Bool :=
  (Fo.longs r.1 r.2.2).contains r.2.1 && (Fo.longs r.1 r.2.1).contains r.2.1 && (Fo.longs 0 r.2.2).contains r.2.1 && Fo.same r.1 r.2.1 r.2.2 && Fo.same 0 r.2.2 r.2.1 &&
  Fo.kinds r.2.1 / 2 ^ r.1 % 2 == 1 && Fo.kinds r.2.2 / 2 ^ r.1 % 2 == 1 && Fo.fold r.2.1 == r.2.1 && Fo.fold r.2.2 == r.2.2 && decide (r.2.1.length ≤ 100) && decide (r.2.2.length ≤ 100)
theorem rows_OK : ∀ r ∈ Fo.T, rowOK r = true := by decide +kernel
end Go.Proofs.YtoenaehkhdcdmaaDoor
