/-
  The walk of Number; SameTexts.
-/
import Derived.Test.YtcponhdeffnndaaGreatDoorTokCod
import Derived.Test.YtcponhdeffnndaaGreatDoorTokNum
import Derived.Lib.AtoiErrMem
namespace Go.Proofs.YtcponhdeffnndaaGreatDoor
open Go.RowKit
set_option linter.unusedVariables false
set_option linter.unusedSimpArgs false

theorem decFrom_val : ∀ (l : List UInt8) (a : Nat), l.all Tk.isD = true → Lib.decFrom a l = some (l.foldl (fun a c => 10 * a + (c.toNat - 48)) a)
  | [], _, _ => rfl
  | c :: l, a, h => by
    rw [List.all_cons, Bool.and_eq_true] at h
    have hc : 48 ≤ c.toNat ∧ c.toNat ≤ 57 := by have := h.1; simpa [Tk.isD] using this
    unfold Lib.decFrom Lib.digitVal
    rw [if_pos hc]
    show Lib.decFrom (a * 10 + (c.toNat - 48)) l = _
    rw [decFrom_val l _ h.2, List.foldl_cons, Nat.mul_comm a 10]
theorem atoi_num {w : List UInt8} (h : Tk.num w = true) : Lib.atoi w = some (Tk.val w : Int) := by
  obtain ⟨h1, h2, h3, h4⟩ := Tk.num_parts h
  cases w with
  | nil => simp at h1
  | cons c t =>
    have hc : 48 ≤ c.toNat ∧ c.toNat ≤ 57 := by
      rw [List.all_cons, Bool.and_eq_true] at h4
      have := h4.1; simpa [Tk.isD] using this
    have e1 : (c == 45) = false := by rw [beq_eq_false_iff_ne]; rintro rfl; exact absurd hc.1 (by decide)
    have e2 : (c == 43) = false := by rw [beq_eq_false_iff_ne]; rintro rfl; exact absurd hc.1 (by decide)
    unfold Lib.atoi
    simp only [e1, e2]
    unfold Lib.decNat
    rw [if_neg (by simp), decFrom_val _ 0 h4]
    rfl
def PostNo (s : List UInt8) (w : World) (e : Ending) (w' : World) : Prop := e = .returned (.tuple #[.int .i64 (Tk.numV s), strV (Tk.numT s), .bool (Tk.isNum s)]) ∧ Below w.heap.size w w'
set_option maxHeartbeats 1000000 in
theorem number_any (s : ByteArray) (w : World) (hs : s.size ≤ 100000000) : Calls Tryz.prog 32 #[.string s] w (PostNo s.data.toList w) := by
  have hl : s.data.toList.length = s.size := by simp
  obtain ⟨l1, l2⟩ := cut_len s.data.toList
  have q1 := cutLetter_any s w hs
  have q2 : ∀ V, Calls Tryz.prog 73 #[.string ⟨(Tk.cutD s.data.toList).toArray⟩] V (PostB (Tk.num (Tk.cutD s.data.toList)) V) := fun V => isNumber_any ⟨(Tk.cutD s.data.toList).toArray⟩ V (by rw [size_of]; omega)
  have q3 := fun (h : Tk.num (Tk.cutD s.data.toList) = true) V => Tryz.strconv_Atoi ⟨(Tk.cutD s.data.toList).toArray⟩ (Tk.val (Tk.cutD s.data.toList)) (by rw [size_of]; have := (Tk.num_parts h).2.1; omega) (atoi_num h) V
  unfold PostCut strV at q1
  unfold PostNo Tk.numV Tk.numT Tk.isNum strV
  generalize Tk.val (Tk.cutD s.data.toList) = N at *
  obtain ⟨DB, hDB⟩ : ∃ DB : ByteArray, DB = ⟨(Tk.cutD s.data.toList).toArray⟩ := ⟨_, rfl⟩
  obtain ⟨L, hL⟩ : ∃ L, Tk.cutL s.data.toList = L := ⟨_, rfl⟩
  rw [← hDB] at q1 q2 q3
  rw [hL] at q1 ⊢
  generalize Tk.num (Tk.cutD s.data.toList) = M at *
  have Q1 := Lib.hid q1; have Q2 := Lib.hid q2
  cases M with
  | false =>
    clear q1 q2 q3 hDB hL hl l1 l2
    simp only [Bool.false_eq_true, if_false]
    go_enter Tryz.func32, Tryz.ntmps32
    go_wp2_with (first
      | (go_at_call 72; (with_reducible refine Q1.out.mono ?_); rintro e w1 ⟨rfl, hb⟩; have B1 := Lib.hid hb; clear hb)
      | (go_at_call 73; (with_reducible refine (Q2.out w1).mono ?_); rintro e w2 ⟨rfl, hb⟩; have B2 := Lib.hid (below_next B1.out hb); clear hb))
    all_goals go_ret3
    all_goals exact ⟨rfl, B2.out⟩
  | true =>
    have Q3 := Lib.hid (q3 rfl)
    clear q1 q2 q3 hDB hL hl l1 l2
    simp only [if_true]
    go_enter Tryz.func32, Tryz.ntmps32
    go_wp2_with (first
      | (go_at_call 72; (with_reducible refine Q1.out.mono ?_); rintro e w1 ⟨rfl, hb⟩; have B1 := Lib.hid hb; clear hb)
      | (go_at_call 73; (with_reducible refine (Q2.out w1).mono ?_); rintro e w2 ⟨rfl, hb⟩; have B2 := Lib.hid (below_next B1.out hb); clear hb)
      | (go_at_call 74; (with_reducible refine (Q3.out w2).mono ?_); rintro e w3 ⟨rfl, t, hw3⟩; have B3 := Lib.hid (below_next B2.out (show Below w2.heap.size w2 w3 by rw [hw3]; exact Lib.bytesWorld_below _ _ _)); clear hw3))
    all_goals go_ret3
    all_goals exact ⟨rfl, B3.out⟩
theorem rdS_new1 (w : World) (x : ByteArray) : RdS (w.alloc (.cells #[.string x] 9)) (some ⟨w.heap.size, 0, none⟩) [x.data.toList] := by
  intro _
  refine ⟨w.heap.size, 0, rfl, lt_of_heap (heap_alloc_new w _), fun i hi => ?_⟩
  have : i = 0 := by simpa using hi
  subst this
  exact cell_of_row _ _ 0 _ _ _ (heap_alloc_new w _)
theorem rdS_new2 (w : World) (x y : ByteArray) : RdS (w.alloc (.cells #[.string x, .string y] 9)) (some ⟨w.heap.size, 0, none⟩) [x.data.toList, y.data.toList] := by
  intro _
  refine ⟨w.heap.size, 0, rfl, lt_of_heap (heap_alloc_new w _), fun i hi => ?_⟩
  have : i = 0 ∨ i = 1 := by simp at hi; omega
  rcases this with rfl | rfl
  · exact cell_of_row _ _ 0 _ _ _ (heap_alloc_new w _)
  · exact cell_of_row _ _ 1 _ _ _ (heap_alloc_new w _)
set_option maxRecDepth 100000 in
set_option maxHeartbeats 4000000 in
theorem sameTexts_any (A1 A2 : Option Addr) (n1 c1 n2 c2 : Nat) (l1 l2 : List (List UInt8)) (w : World) (hl1 : l1.length = n1) (hl2 : l2.length = n2) (hn : n1 ≤ 1000000000) (h1 : RdS w A1 l1) (h2 : RdS w A2 l2) :
    Calls Tryz.prog 25 #[.slice A1 n1 c1, .slice A2 n2 c2] w (PostB (l1 == l2) w) := by
  by_cases hnn : n1 = n2
  · subst hnn
    have H1 := Lib.hid h1; have H2 := Lib.hid h2; have L1 := Lib.hid hl1; have L2 := Lib.hid hl2
    clear h1 h2 hl1 hl2
    go_enter Tryz.func25, Tryz.ntmps25
    go_wp2
    go_loopw [5] (fun s5 wr => Hid (Below w.heap.size w wr) ∧ ∃ k : Nat, s5 = .int .i64 k ∧ k ≤ n1 ∧ Hid (∀ j, j < k → l1.getD j [] = l2.getD j [])) (fun s5 _ => n1 - (intOf s5).toNat)
    case atStart => exact ⟨Lib.hid (Below.refl _ _), 0, rfl, by omega, Lib.hid (fun j h => by omega)⟩
    case round =>
      obtain ⟨HB, k, rfl, hk, HS⟩ := hrel
      by_cases hlt : k < n1
      · have hlt2 : (k : Int) < n1 := by omega
        have hle : ¬ n1 ≤ k := by omega
        obtain ⟨b1, o1, e1, hb1, hc1⟩ := (H1.out.below HB.out) (by rw [L1.out]; omega)
        obtain ⟨b2, o2, e2, hb2, hc2⟩ := (H2.out.below HB.out) (by rw [L2.out]; omega)
        subst e1 e2
        have d1 := hc1 k (by rw [L1.out]; omega)
        have d2 := hc2 k (by rw [L2.out]; omega)
        obtain ⟨X, hX⟩ : ∃ X : ByteArray, X = ⟨(l1.getD k []).toArray⟩ := ⟨_, rfl⟩
        obtain ⟨Y, hY⟩ : ∃ Y : ByteArray, Y = ⟨(l2.getD k []).toArray⟩ := ⟨_, rfl⟩
        rw [← hX] at d1
        rw [← hY] at d2
        have x1 : X.toList = l1.getD k [] := by rw [ByteArray.toList_eq, hX]
        have y1 : Y.toList = l2.getD k [] := by rw [ByteArray.toList_eq, hY]
        have X1 := Lib.hid x1; have Y1 := Lib.hid y1
        clear hc1 hc2 hX hY hb1 hb2 x1 y1
        by_cases hxy : X.toList = Y.toList
        · have he : (X.toList == Y.toList) = true := beq_iff_eq.2 hxy
          have HE := Lib.hid hxy
          clear hxy
          go_wp2
          go_quiet (fail)
          go_wp2
          go_roundw
          case rel =>
            refine ⟨Lib.hid (belowN HB.out _), k + 1, by go_num, by omega, Lib.hid (fun j hj => ?_)⟩
            rcases Nat.lt_or_ge j k with h | h
            · exact HS.out j h
            · obtain rfl : j = k := by omega
              rw [← X1.out, ← Y1.out]; exact HE.out
          case measure => simp [intOf]; omega
        · have he : (X.toList == Y.toList) = false := beq_eq_false_iff_ne.2 hxy
          have HE := Lib.hid hxy
          clear hxy
          go_wp2
          go_quiet (fail)
          go_wp2
          go_ret
          refine ⟨ret_bool ?_, belowN HB.out _⟩
          symm
          rw [beq_eq_false_iff_ne]
          rintro rfl
          exact HE.out (X1.out.trans Y1.out.symm)
      · have hge : ¬ (k : Int) < n1 := by omega
        go_wp2
        go_ret
        refine ⟨ret_bool ?_, HB.out⟩
        symm
        rw [beq_iff_eq]
        apply List.ext_getElem (by rw [L1.out, L2.out])
        intro i hi1 hi2
        have := HS.out i (by rw [L1.out] at hi1; omega)
        rw [List.getD_eq_getElem?_getD, List.getD_eq_getElem?_getD, List.getElem?_eq_getElem hi1, List.getElem?_eq_getElem hi2] at this
        exact this
  · have hne : ((n1 : Int) == n2) = false := by rw [beq_eq_false_iff_ne]; omega
    have e : (l1 == l2) = false := by
      rw [beq_eq_false_iff_ne]
      rintro rfl
      omega
    rw [e]
    clear h1 h2 hl1 hl2 e
    go_enter Tryz.func25, Tryz.ntmps25
    go_wp2
    go_ret
    exact ⟨rfl, Below.refl _ _⟩
theorem sameT_any (A1 A2 : Option Addr) (n1 c1 n2 c2 : Nat) (l : List (List UInt8)) (w : World) (hl1 : l.length = n1) (hl2 : l.length = n2) (hn : l.length ≤ 1000000000) (h1 : RdS w A1 l) (h2 : RdS w A2 l) :
    Calls Tryz.prog 25 #[.slice A1 n1 c1, .slice A2 n2 c2] w (PostB true w) := by
  have := sameTexts_any A1 A2 n1 c1 n2 c2 l l w hl1 hl2 (by omega) h1 h2
  rwa [show (l == l) = true from beq_self_eq_true l] at this

end Go.Proofs.YtcponhdeffnndaaGreatDoor
