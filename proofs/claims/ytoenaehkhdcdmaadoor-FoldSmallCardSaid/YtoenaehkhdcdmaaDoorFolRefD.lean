/-
  The reference's table; of, in, Short.
-/
import Derived.Test.YtoenaehkhdcdmaaDoorFolBoth0
namespace Go.Proofs.YtoenaehkhdcdmaaDoor
open Go.RowKit
set_option linter.unusedVariables false
set_option linter.unusedSimpArgs false

/-- rows in memory, from a block's beginning -/
def Tab (w : World) (g : Nat) : Prop := g < w.heap.size ∧ ∀ k, k < 40 → w.cell? ⟨g, k * 3, none⟩ = some (.int .u8 (rowAt k).1) ∧ w.cell? ⟨g, k * 3 + 1, none⟩ = some (.string ⟨(rowAt k).2.1.toArray⟩) ∧ w.cell? ⟨g, k * 3 + 2, none⟩ = some (.string ⟨(rowAt k).2.2.toArray⟩)
theorem Tab.below {w w' : World} {g : Nat} (h : Tab w g) (hb : Below w.heap.size w w') : Tab w' g :=
  ⟨Nat.lt_of_lt_of_le h.1 hb.size, fun k hk => ⟨cell_keep (h.2 k hk).1 hb, cell_keep (h.2 k hk).2.1 hb, cell_keep (h.2 k hk).2.2 hb⟩⟩
theorem Tab.of_block {w : World} {g t : Nat} {fr : Nat × Nat} (h : w.heap[g]? = some (.cells rowsCells.toArray t fr)) : Tab w g := ⟨lt_of_heap h, fun k hk => tab_cells h k hk⟩
def PostTab (w : World) (e : Ending) (w' : World) : Prop := ∃ g, e = .returned (.slice (some ⟨g, 0, none⟩) 40 40) ∧ w'.heap[g]? = some (.cells rowsCells.toArray 48 (0, 0)) ∧ w.heap.size ≤ g ∧ Below w.heap.size w w'
set_option maxRecDepth 100000 in
set_option maxHeartbeats 8000000 in
theorem tableRef_any (w : World) : Calls Tryd.prog 28 #[] w (PostTab w) := by
  go_enter Tryd.func28, Tryd.ntmps28
  go_wp2
  go_ret
  exact ⟨w.heap.size, rfl, heap_alloc_new _ _, Nat.le_refl _, below_new _ _⟩

set_option maxHeartbeats 2000000 in
theorem in_any (A : Option Addr) (n c : Nat) (l : List (List UInt8)) (x : ByteArray) (w : World) (hl : l.length = n) (hn : n ≤ 1000000000) (h : RdS w A l) :
    Calls Tryd.prog 54 #[.slice A n c, .string x] w fun e w' => e = .returned (.bool (l.contains x.data.toList)) ∧ w = w' := by
  have hyes : ∀ j, j < n → l.getD j [] = x.data.toList → l.contains x.data.toList = true := by
    intro j hj e
    rw [List.contains_iff_mem, ← e, List.getD_eq_getElem?_getD, List.getElem?_eq_getElem (by omega)]
    exact List.getElem_mem _
  have hno : (∀ j, j < n → l.getD j [] ≠ x.data.toList) → l.contains x.data.toList = false := by
    intro H
    rw [Bool.eq_false_iff]
    intro hc
    obtain ⟨i, hi, he⟩ := List.getElem_of_mem (List.contains_iff_mem.1 hc)
    refine H i (by omega) ?_
    rw [List.getD_eq_getElem?_getD, List.getElem?_eq_getElem hi]
    exact he
  generalize l.contains x.data.toList = R at *
  have HY := Lib.hid hyes; have HNo := Lib.hid hno
  have HL := Lib.hid hl; have HH := Lib.hid h
  have hN : (n : Int) ≤ 1000000000 := by omega
  clear hyes hno hl h
  go_enter Tryd.func54, Tryd.ntmps54
  go_wp2
  go_loopw [5] (fun s5 wr => wr = w ∧ ∃ k : Nat, s5 = .int .i64 k ∧ k ≤ n ∧ Hid (∀ j, j < k → l.getD j [] ≠ x.data.toList)) (fun s5 _ => n - (intOf s5).toNat)
  case atStart => exact ⟨rfl, 0, rfl, by omega, Lib.hid (fun j h => by omega)⟩
  case round =>
    obtain ⟨rfl, k, rfl, hk, HS⟩ := hrel
    by_cases hlt : k < n
    · have hlt2 : (k : Int) < n := by omega
      obtain ⟨b, off, hA, hb, hc⟩ := HH.out (by rw [HL.out]; omega)
      subst hA
      have hc1 := hc k (by rw [HL.out]; omega)
      obtain ⟨Y, hY⟩ : ∃ Y : ByteArray, Y = ⟨(l.getD k []).toArray⟩ := ⟨_, rfl⟩
      rw [← hY] at hc1
      have y1 : Y.toList = l.getD k [] := by rw [ByteArray.toList_eq, hY]
      have Y1 := Lib.hid y1
      have hle : ¬ n ≤ k := by omega
      clear hc hY hb y1
      by_cases hxy : Y.toList = x.toList
      · have he : (Y.toList == x.toList) = true := beq_iff_eq.2 hxy
        have hR : R = true := HY.out k hlt (by rw [← Y1.out, hxy, ByteArray.toList_eq])
        have HR := Lib.hid hR
        clear hxy hR
        go_wp2
        go_ret
        exact ⟨ret_bool HR.out.symm, rfl⟩
      · have he : (Y.toList == x.toList) = false := beq_eq_false_iff_ne.2 hxy
        have HE := Lib.hid hxy
        clear hxy
        go_wp2
        go_roundw
        case rel =>
          refine ⟨trivial, k + 1, by go_num, by omega, Lib.hid (fun j hj => ?_)⟩
          rcases Nat.lt_or_ge j k with h | h
          · exact HS.out j h
          · obtain rfl : j = k := by omega
            rw [← Y1.out, ← ByteArray.toList_eq]; exact HE.out
        case measure => simp [intOf]; omega
    · have hge : ¬ (k : Int) < n := by omega
      have hR : R = false := HNo.out (fun j hj => HS.out j (by omega))
      have HR := Lib.hid hR
      clear hR
      go_wp2
      go_ret
      exact ⟨ret_bool HR.out.symm, rfl⟩


set_option maxHeartbeats 4000000 in
theorem of_any (a k : Nat) (x y z : ByteArray) (w : World) : Calls Tryd.prog 53 #[.agg #[.int .u8 a, .string x, .string y], .int .u8 k, .string z] w (PostB ((k == 0 || a == k) && (x.data.toList == z.data.toList || y.data.toList == z.data.toList)) w) := by
  have hb := below_new w (.cells #[.int .u8 a, .string x, .string y] 48)
  have HB := Lib.hid hb; clear hb
  have E1 := Lib.hid (show (z.toList == x.toList) = (x.data.toList == z.data.toList) by rw [ByteArray.toList_eq, ByteArray.toList_eq, beq_sym])
  have E2 := Lib.hid (show (z.toList == y.toList) = (y.data.toList == z.data.toList) by rw [ByteArray.toList_eq, ByteArray.toList_eq, beq_sym])
  generalize (x.data.toList == z.data.toList) = P at *
  generalize (y.data.toList == z.data.toList) = Q at *
  have e1 := E1.out; have e2 := E2.out
  clear E1 E2
  by_cases h0 : k = 0
  · subst h0
    cases P <;> cases Q
    all_goals
      go_enter Tryd.func53, Tryd.ntmps53
      go_wp2
      go_ret
      exact ⟨rfl, HB.out⟩
  · have k0 : ((k : Int) == 0) = false := by rw [beq_eq_false_iff_ne]; omega
    have k1 : (k == 0) = false := by rw [beq_eq_false_iff_ne]; exact h0
    rw [k1, Bool.false_or]
    by_cases hak : a = k
    · subst hak
      rw [show (a == a) = true from beq_self_eq_true _, Bool.true_and]
      clear h0 k1
      cases P <;> cases Q
      all_goals
        go_enter Tryd.func53, Tryd.ntmps53
        go_wp2
        go_ret
        exact ⟨rfl, HB.out⟩
    · have k2 : ((a : Int) == (k : Int)) = false := by rw [beq_eq_false_iff_ne]; omega
      rw [show (a == k) = false from beq_eq_false_iff_ne.2 hak, Bool.false_and]
      clear h0 k1 hak
      go_enter Tryd.func53, Tryd.ntmps53
      go_wp2
      go_ret
      exact ⟨rfl, HB.out⟩

end Go.Proofs.YtoenaehkhdcdmaaDoor
