/-
  joined, the library's Join and Contains at words; the walk of FoldJoined.
-/
import Derived.Test.YtoenaehkhdcdmaaDoorFolAwake
import Derived.Lib.Join
namespace Go.Proofs.YtoenaehkhdcdmaaDoor
open Go.RowKit
set_option linter.unusedVariables false
set_option linter.unusedSimpArgs false

theorem isEmpty_beq (a : ByteArray) : (a.toList == []) = a.data.toList.isEmpty := by
  rw [ByteArray.toList_eq]
  cases a.data.toList <;> rfl
theorem cat_data (a b : ByteArray) : (a ++ b).data.toList = a.data.toList ++ b.data.toList := by
  rw [ByteArray.data_append]; simp
set_option maxHeartbeats 2000000 in
theorem joined_any (a b : ByteArray) (w : World) (ha : a.size ≤ 100000000) (hb : b.size ≤ 100000000) :
    Calls Tryd.prog 16 #[.string a, .string b] w fun e w' => e = .returned (.string ⟨(Fo.joined a.data.toList b.data.toList).toArray⟩) ∧ w = w' := by
  have ea := isEmpty_beq a
  have eb := isEmpty_beq b
  have c1 : a ++ b = ⟨(a.data.toList ++ b.data.toList).toArray⟩ := by
    apply ByteArray.ext; rw [ByteArray.data_append]; simp
  have c2 : a ++ (⟨#[32]⟩ : ByteArray) ++ b = ⟨(a.data.toList ++ 32 :: b.data.toList).toArray⟩ := by
    apply ByteArray.ext; rw [ByteArray.data_append, ByteArray.data_append]; simp
  unfold Fo.joined
  have C1 := Lib.hid c1; have C2 := Lib.hid c2
  clear c1 c2
  cases xa : a.data.toList.isEmpty <;> cases xb : b.data.toList.isEmpty <;> rw [xa] at ea <;> rw [xb] at eb <;> clear xa xb <;> simp only [Bool.or_false, Bool.or_true, Bool.false_eq_true, if_true, if_false]
  all_goals
    go_enter Tryd.func16, Tryd.ntmps16
    go_wp2
    go_ret
    first
      | exact ⟨ret_str C1.out, rfl⟩
      | exact ⟨ret_str C2.out, rfl⟩
theorem Strs.cap {base : Nat} {w : World} {A : Option Addr} {n c : Nat} {l : List (List UInt8)} (h : Strs base w A n c l) : n ≤ c := by
  rcases h.2.2 with ⟨hv, h2⟩ | ⟨g, cap, cur, hv, hb, hh, h3, h4⟩
  · omega
  · have : c = cap := by injection hv
    omega
theorem join_eq : ∀ (l : List (List UInt8)), Lib.join l [32] = Fo.joinW l
  | [] => rfl
  | [x] => Lib.join_one x [32]
  | x :: y :: l => by
    have ih := join_eq (y :: l)
    rw [Lib.join_cons] at ih ⊢
    show x ++ Lib.joinTail [32] (y :: l) = x ++ 32 :: Fo.joinW (y :: l)
    rw [← ih]
    simp [Lib.joinTail]
theorem join_any (base : Nat) (A : Option Addr) (n c : Nat) (l : List (List UInt8)) (w : World) (h : Strs base w A n c l) (hn : n ≤ 1000000000) (hj : (Fo.joinW l).length ≤ 1000000000) :
    Calls Tryd.prog 19 #[.slice A n c, .string ⟨#[32]⟩] w (PostStr (Fo.joinW l) w) := by
  have hl := h.len
  rcases Nat.eq_zero_or_pos n with h0 | h0
  · have hnil : l = [] := List.eq_nil_of_length_eq_zero (by omega)
    subst hnil; subst h0
    refine (Tryd.strings_Join_none A c _ w).mono ?_
    rintro e w' ⟨rfl, rfl⟩
    exact ⟨rfl, Below.refl _ _⟩
  · obtain ⟨b, off, rfl, hlt, hc⟩ := h.rd (by omega)
    have hq := Tryd.strings_Join b off c (l.map fun z => ⟨z.toArray⟩) ⟨#[32]⟩ w (fun j x hx => by
        rw [List.getElem?_map] at hx
        obtain ⟨z, hz, rfl⟩ := Option.map_eq_some_iff.1 hx
        have hj' : j < l.length := (List.getElem?_eq_some_iff.1 hz).1
        rw [hc j hj', List.getD_eq_getElem?_getD, hz]; rfl) hlt (by simp; omega) (by have := h.cap; simp; omega)
    rw [List.map_map, show (fun x : ByteArray => x.data.toList) ∘ (fun z : List UInt8 => (⟨z.toArray⟩ : ByteArray)) = id from rfl, List.map_id, show (⟨#[32]⟩ : ByteArray).data.toList = [32] from rfl, join_eq, List.length_map, hl] at hq
    exact hq (by omega)
theorem index_no : ∀ (l : List UInt8), (∀ x ∈ l, x ≠ 32) → Lib.indexByte l 32 = -1
  | [], _ => rfl
  | x :: l, h => by
    have ih := index_no l (fun y hy => h y (by simp [hy]))
    have hx : (x == 32) = false := beq_eq_false_iff_ne.2 (h x (by simp))
    simp [Lib.indexByte, hx, ih]
theorem noBlank_any (s : ByteArray) (w : World) (h : ∀ x ∈ s.data.toList, x ≠ 32) : Calls Tryd.prog 18 #[.string s, .string ⟨#[32]⟩] w fun e w' => e = .returned (.bool false) ∧ w = w' := by
  refine (Tryd.strings_Contains_one s 32 w).mono ?_
  rintro e w' ⟨rfl, rfl⟩
  rw [index_no _ h]
  exact ⟨rfl, rfl⟩
theorem conv_one8 (W V : World) (c : Nat) (h : c < 256) (hV : V.cell? ⟨W.heap.size, 0, none⟩ = some (.int .u8 (c : Int))) : (convert 23 9 (.slice (some ⟨W.heap.size, 0, none⟩) 1 1)).run Tryd.prog V = .ok (.string ⟨#[UInt8.ofNat c]⟩) V := by
  refine run_convert_bytes_back (P := Tryd.prog) _ 23 9 5 ⟨W.heap.size, 0, none⟩ 1 [UInt8.ofNat c] Tryd.underlying23 Tryd.underlying5 Tryd.underlying9 (fun j hj => ?_)
  obtain rfl : j = 0 := by simpa using hj
  show V.cell? ⟨W.heap.size, 0, none⟩ = _
  rw [hV]
  simp [Nat.mod_eq_of_lt h]
end Go.Proofs.YtoenaehkhdcdmaaDoor
