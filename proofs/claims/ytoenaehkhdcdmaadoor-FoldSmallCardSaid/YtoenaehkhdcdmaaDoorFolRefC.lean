/-
  The reference's Fold.
-/
import Derived.Test.YtoenaehkhdcdmaaDoorFolRefA
import Derived.Test.YtoenaehkhdcdmaaDoorFolRefB
namespace Go.Proofs.YtoenaehkhdcdmaaDoor
open Go.RowKit
set_option linter.unusedVariables false
set_option linter.unusedSimpArgs false

theorem pc_twoAt (L : List UInt8) (k : Nat) (hk : k < L.length) :
    Fo.pc (L.drop k) = if Fo.kept (L.getD k 0).toNat then ([L.getD k 0], 1) else if Fo.small (L.getD k 0).toNat then ([L.getD k 0 - 32], 1) else if (twoAt L k).isEmpty then ([32], 1) else (twoAt L k, 2) := by
  unfold twoAt
  rw [List.drop_eq_getElem_cons hk, List.getD_eq_getElem?_getD, List.getElem?_eq_getElem hk]
  by_cases h : k + 1 < L.length
  · rw [List.drop_eq_getElem_cons h, if_pos h, List.getD_eq_getElem?_getD, List.getElem?_eq_getElem h]
    rfl
  · rw [List.drop_of_length_le (by omega), if_neg h]
    rfl
theorem joinW_step (l : List (List UInt8)) (i : Nat) (h : i < l.length) : Fo.joinW (l.take (i + 1)) = if i = 0 then l.getD i [] else Fo.joinW (l.take i) ++ 32 :: l.getD i [] := by
  rw [List.take_add_one, List.getElem?_eq_getElem h, List.getD_eq_getElem?_getD, List.getElem?_eq_getElem h]
  show Fo.joinW (l.take i ++ [l[i]]) = _
  rw [Fo.joinW_snoc]
  by_cases hi : i = 0
  · subst hi; rfl
  · rw [if_neg hi, if_neg (by intro e; have := congrArg List.length e; rw [List.length_take, List.length_nil] at this; omega)]
    rfl
theorem joinW_mono (l : List (List UInt8)) : ∀ (d i : Nat), i + d ≤ l.length → (Fo.joinW (l.take i)).length ≤ (Fo.joinW (l.take (i + d))).length
  | 0, i, _ => Nat.le_refl _
  | d + 1, i, h => by
    have ih := joinW_mono l d i (by omega)
    have hs := joinW_step l (i + d) (by omega)
    rw [show i + (d + 1) = i + d + 1 by omega, hs]
    by_cases h0 : i + d = 0
    · have : i = 0 := by omega
      subst this
      rw [if_pos h0]; simp [Fo.joinW]
    · rw [if_neg h0]; simp; omega
theorem joinW_take_le (l : List (List UInt8)) (i : Nat) (h : i ≤ l.length) : (Fo.joinW (l.take i)).length ≤ (Fo.joinW l).length := by
  have := joinW_mono l (l.length - i) i (by omega)
  rwa [show i + (l.length - i) = l.length by omega, List.take_length] at this

structure ConvS (s : ByteArray) (w wr : World) (B : ByteArray) (k : Nat) : Prop where
  bel : Below w.heap.size w wr
  val : B.data.toList ++ Fo.conv (s.data.toList.drop k) = Fo.conv s.data.toList
  len : B.size ≤ k
structure JoinS (w wr : World) (l : List (List UInt8)) (B : ByteArray) (i : Nat) : Prop where
  bel : Below w.heap.size w wr
  val : B.data.toList = Fo.joinW (l.take i)
theorem ext_sub2 (s : ByteArray) (k : Nat) (h : k < s.size) : s.extract k (k + 1) = ⟨#[s[k]]⟩ := by
  apply ByteArray.ext
  apply Array.ext'
  have h1 := drop_cons s k h
  simp only [ByteArray.data_extract, Array.toList_extract, List.extract_eq_take_drop, Nat.add_sub_cancel_left]
  rw [h1]
  rfl
theorem words_len2 : ∀ (l cur : List UInt8), (Fo.wds cur l).length ≤ l.length + 1
  | [], cur => by unfold Fo.wds; split <;> simp
  | x :: l, cur => by
    have h1 := words_len2 l []
    have h2 := words_len2 l (cur ++ [x])
    unfold Fo.wds
    split
    · split <;> simp <;> omega
    · simp; omega
theorem cat_size (a b : ByteArray) : (a ++ b).size = a.size + b.size := ByteArray.size_append
theorem conv_low (wr : World) (c : UInt8) (h : Fo.small c.toNat = true) : (convert 23 9 (.slice (some ⟨wr.heap.size, 0, none⟩) 1 1)).run Tryd.prog (wr.alloc (.cells #[.int .u8 ((c.toNat : Int) - 32)] 5)) = .ok (.string ⟨#[c - 32]⟩) (wr.alloc (.cells #[.int .u8 ((c.toNat : Int) - 32)] 5)) := by
  have e : ((c - 32).toNat : Int) = (c.toNat : Int) - 32 := by
    rw [UInt8.toNat_sub_of_le]
    · simp [Fo.small] at h; simp; omega
    · rw [UInt8.le_iff_toNat_le]; simp [Fo.small] at h; simp; omega
  refine run_convert_bytes_back (P := Tryd.prog) _ 23 9 5 ⟨wr.heap.size, 0, none⟩ 1 [c - 32] Tryd.underlying23 Tryd.underlying5 Tryd.underlying9 (fun j hj => ?_)
  obtain rfl : j = 0 := by simpa using hj
  show (wr.alloc _).cell? ⟨wr.heap.size, 0, none⟩ = some (.int .u8 ((c - 32).toNat : Int))
  rw [e]; go_simp
set_option maxRecDepth 100000 in
set_option maxHeartbeats 16000000 in
theorem foldRef_any (s : ByteArray) (w : World) (hs : s.size ≤ 100000) : Calls Tryd.prog 25 #[.string s] w (PostStr (Fo.fold s.data.toList) w) := by
  have hl : s.data.toList.length = s.size := by simp
  have HL := Lib.hid hl; clear hl
  have H0 := Lib.hid (show ConvS s w w ⟨#[]⟩ 0 from ⟨Below.refl _ _, rfl, Nat.le_refl _⟩)
  rw [Fo.fold_join]
  have hlen := Fo.fold_len s.data.toList
  rw [Fo.fold_join, HL.out] at hlen
  have HLEN := Lib.hid hlen; clear hlen
  go_enter Tryd.func25, Tryd.ntmps25
  go_wp2
  go_loopw [3, 4] (fun s3 s4 wr => ∃ (k : Nat) (B : ByteArray), s4 = .int .i64 k ∧ s3 = .string B ∧ k ≤ s.size ∧ Hid (ConvS s w wr B k)) (fun _ s4 _ => s.size - (intOf s4).toNat)
  case atStart => exact ⟨0, ⟨#[]⟩, rfl, rfl, Nat.zero_le _, H0⟩
  case round =>
    obtain ⟨k, B, rfl, rfl, hk, HS⟩ := hrel
    by_cases hlt : k < s.size
    · have hlti : (k : Int) < s.size := by omega
      have hkk : k < s.data.toList.length := by rw [HL.out]; exact hlt
      have hpc := pc_twoAt s.data.toList k hkk
      have hne : s.data.toList.drop k ≠ [] := by
        intro e
        have := congrArg List.length e
        rw [List.length_drop] at this
        simp at this; omega
      have hpl := Fo.pc_len _ hne
      have hv := HS.out.val
      rw [Fo.conv_pc _ hne, List.drop_drop] at hv
      have hx := ext_sub2 s k hlt
      have q1 := two_any s k wr (by omega) hlt
      rw [getD_at s k hlt] at hpc
      obtain ⟨c, hc⟩ : ∃ c, s[k]'hlt = c := ⟨_, rfl⟩
      rw [hc] at hpc hx
      have q2 := keptRef_any c.toNat wr
      obtain ⟨T, hT⟩ : ∃ T : ByteArray, T = ⟨(twoAt s.data.toList k).toArray⟩ := ⟨_, rfl⟩
      have hTd : T.data.toList = twoAt s.data.toList k := by rw [hT]
      rw [← hT] at q1
      rw [← hTd] at hpc
      rw [List.length_drop, HL.out] at hpl
      have hBk := HS.out.len
      have hBi : (B.size : Int) ≤ 100000 := by omega
      have HX := Lib.hid hx
      have n8 := UInt8.toNat_lt c
      clear hT hTd hne hx hkk
      by_cases hkp : Fo.kept c.toNat = true
      · rw [if_pos hkp] at hpc
        rw [hpc] at hv hpl
        rw [hkp] at q2
        have HV := Lib.hid hv
        have Q1 := Lib.hid q1; have Q2 := Lib.hid q2
        clear hpc hv hpl q1 q2 hkp
        go_wp2_with (first
          | (go_at_call 51; (with_reducible refine Q1.out.mono ?_); rintro e w' ⟨rfl, rfl⟩)
          | (go_at_call 52; (with_reducible refine Q2.out.mono ?_); rintro e w' ⟨rfl, rfl⟩))
        exact ⟨⟨k + 1, B ++ s.extract k (k + 1), by go_num, rfl, by omega, Lib.hid ⟨HS.out.bel, by rw [HX.out, cat_data, ← HV.out, List.append_assoc]; try rfl, by rw [HX.out, cat_size]; show B.size + 1 ≤ _; omega⟩⟩, by simp [intOf]; omega⟩
      · rw [if_neg hkp] at hpc
        rw [show Fo.kept c.toNat = false by simpa using hkp] at q2
        have Q1 := Lib.hid q1; have Q2 := Lib.hid q2
        clear q1 q2 hkp
        by_cases hsm : Fo.small c.toNat = true
        · rw [if_pos hsm] at hpc
          rw [hpc] at hv hpl
          have HV := Lib.hid hv
          have hcv := conv_low wr c hsm
          simp [Fo.small] at hsm
          obtain ⟨g3, g4⟩ := hsm
          have HB := Lib.hid (HS.out.bel.alloc HS.out.bel.size (.cells #[.int .u8 ((c.toNat : Int) - 32)] 5))
          clear hpc hv hpl
          go_wp2_with (first
          | (go_at_call 51; (with_reducible refine Q1.out.mono ?_); rintro e w' ⟨rfl, rfl⟩)
          | (go_at_call 52; (with_reducible refine Q2.out.mono ?_); rintro e w' ⟨rfl, rfl⟩))
          exact ⟨⟨k + 1, B ++ (⟨#[c - 32]⟩ : ByteArray), by go_num, rfl, by omega, Lib.hid ⟨HB.out, by rw [cat_data, ← HV.out, List.append_assoc]; try rfl, by rw [cat_size]; show B.size + 1 ≤ _; omega⟩⟩, by simp [intOf]; omega⟩
        · rw [if_neg hsm] at hpc
          have hsm2 : c.toNat < 97 ∨ 122 < c.toNat := by simp [Fo.small] at hsm; omega
          clear hsm
          by_cases hT0 : T.data.toList = []
          · have he : (T.toList == []) = true := by rw [ByteArray.toList_eq, hT0]; rfl
            rw [hT0] at hpc
            rw [show (if List.isEmpty ([] : List UInt8) then (([32] : List UInt8), 1) else ([], 2)) = ([32], 1) from rfl] at hpc
            rw [hpc] at hv hpl
            have HV := Lib.hid hv
            clear hpc hv hpl hT0
            rcases hsm2 with g | g
            all_goals
              go_wp2_with (first
          | (go_at_call 51; (with_reducible refine Q1.out.mono ?_); rintro e w' ⟨rfl, rfl⟩)
          | (go_at_call 52; (with_reducible refine Q2.out.mono ?_); rintro e w' ⟨rfl, rfl⟩))
              exact ⟨⟨k + 1, B ++ (⟨#[32]⟩ : ByteArray), by go_num, rfl, by omega, Lib.hid ⟨HS.out.bel, by rw [cat_data, ← HV.out, List.append_assoc]; try rfl, by rw [cat_size]; show B.size + 1 ≤ _; omega⟩⟩, by simp [intOf]; omega⟩
          · have he : (T.toList == []) = false := by rw [ByteArray.toList_eq, beq_eq_false_iff_ne]; exact hT0
            have hT1 : T.data.toList.isEmpty = false := by simpa using hT0
            rw [hT1] at hpc
            simp only [Bool.false_eq_true, if_false] at hpc
            rw [hpc] at hv hpl
            have HV := Lib.hid hv
            have hT2 : T.size ≤ 2 := by
              have h6 := hpl.2.2.2.2.2
              have : T.data.toList.length = T.size := by simp
              simp only at h6
              omega
            have hk2 : k + 2 ≤ s.size := by have h2 := hpl.2.1; simp only at h2; omega
            clear hpc hv hpl hT0 hT1
            rcases hsm2 with g | g
            all_goals
              go_wp2_with (first
          | (go_at_call 51; (with_reducible refine Q1.out.mono ?_); rintro e w' ⟨rfl, rfl⟩)
          | (go_at_call 52; (with_reducible refine Q2.out.mono ?_); rintro e w' ⟨rfl, rfl⟩))
              exact ⟨⟨k + 1 + 1, B ++ T, by go_num, rfl, by omega, Lib.hid ⟨HS.out.bel, by rw [cat_data, ← HV.out, List.append_assoc], by rw [cat_size]; omega⟩⟩, by simp [intOf]; omega⟩
    · have hge : ¬ (k : Int) < s.size := by omega
      have hv := HS.out.val
      rw [List.drop_of_length_le (by rw [HL.out]; omega)] at hv
      have hv2 : B.data.toList = Fo.conv s.data.toList := by rw [← hv]; simp [Fo.conv]
      have qw := wordsRef_any B wr (by have := HS.out.len; omega)
      rw [hv2] at qw
      have hwl := words_len2 (Fo.conv s.data.toList) []
      have hcl := Fo.conv_len _ s.data.toList (Nat.le_refl _)
      rw [HL.out] at hcl
      have hn5 : (Fo.words (Fo.conv s.data.toList)).length ≤ 100001 := by unfold Fo.words; omega
      generalize Fo.words (Fo.conv s.data.toList) = l at *
      have QW := Lib.hid qw; have HN5 := Lib.hid hn5
      have HB0 := Lib.hid HS.out.bel
      clear hv hv2 qw hwl hcl hn5 HS
      go_wp2_with (go_at_call 27; (with_reducible refine QW.out.mono ?_); rintro e w1 ⟨A, n, cc, rfl, h, hb⟩; have SX := Lib.hid h; have BX := Lib.hid (below_next HB0.out hb); clear h hb)
      have hn := SX.out.len
      have hn2 : n ≤ 100001 := by rw [← hn]; exact HN5.out
      have HNn := Lib.hid hn
      have J0 := Lib.hid (show JoinS w w1 l ⟨#[]⟩ 0 from ⟨BX.out, rfl⟩)
      clear hn
      go_loopw [7, 8] (fun s7 s8 wr2 => ∃ (i : Nat) (O : ByteArray), s8 = .int .i64 i ∧ s7 = .string O ∧ i ≤ n ∧ wr2 = w1 ∧ Hid (JoinS w w1 l O i)) (fun _ s8 _ => n - (intOf s8).toNat)
      case atStart => exact ⟨0, ⟨#[]⟩, rfl, rfl, Nat.zero_le _, rfl, J0⟩
      case round =>
        obtain ⟨i, O, rfl, rfl, hi, rfl, HJ⟩ := hrel
        by_cases hin : i < n
        · have hini : (i : Int) < n := by omega
          have hle : ¬ n ≤ i := by omega
          have hil : i < l.length := by rw [HNn.out]; exact hin
          obtain ⟨b, off, hA, hb0, hc0⟩ := SX.out.rd (by rw [HNn.out]; omega)
          subst hA
          have hcell := hc0 i hil
          have hst := joinW_step l i hil
          have hO := HJ.out.val
          have hm1 := joinW_take_le l i (by omega)
          have hm2 := joinW_take_le l (i + 1) (by omega)
          obtain ⟨Z, hZ⟩ : ∃ Z : ByteArray, Z = ⟨(l.getD i []).toArray⟩ := ⟨_, rfl⟩
          have hZd : Z.data.toList = l.getD i [] := by rw [hZ]
          rw [← hZ] at hcell
          rw [← hZd] at hst
          have hOl : O.data.toList.length = O.size := by simp
          have hZl : Z.data.toList.length = Z.size := by simp
          have hO1 : O.size ≤ 100000 := by have := HLEN.out; rw [← hOl, hO]; omega
          have hZ1 : Z.size ≤ 100000 := by
            have h1 := HLEN.out
            rw [hst] at hm2
            split at hm2
            · omega
            · simp at hm2; omega
          have HST := Lib.hid hst; have HO := Lib.hid hO
          clear hc0 hst hO hm1 hm2 hZ hZd hOl hZl hb0 hil
          by_cases h0 : i = 0
          · subst h0
            rw [Nat.add_zero] at hcell
            go_wp2
            refine ⟨⟨1, O ++ Z, rfl, rfl, by omega, trivial, Lib.hid ⟨HJ.out.bel, ?_⟩⟩, by simp [intOf]; omega⟩
            rw [HST.out, if_pos rfl, cat_data, HO.out]; simp [Fo.joinW]
          · have hip : 0 < (i : Int) := by omega
            go_wp2
            refine ⟨⟨i + 1, O ++ (⟨#[32]⟩ : ByteArray) ++ Z, by go_num, rfl, by omega, trivial, Lib.hid ⟨HJ.out.bel, ?_⟩⟩, by simp [intOf]; omega⟩
            rw [HST.out, if_neg h0, cat_data, cat_data, HO.out, List.append_assoc]; rfl
        · have hini : ¬ (i : Int) < n := by omega
          have hO := HJ.out.val
          rw [List.take_of_length_le (by rw [HNn.out]; omega)] at hO
          have hOO : O = ⟨(Fo.joinW l).toArray⟩ := by
            apply ByteArray.ext; apply Array.ext'; rw [hO]
          have HOO := Lib.hid hOO
          clear hO hOO
          go_wp2
          go_ret
          exact ⟨ret_str HOO.out, HJ.out.bel⟩
end Go.Proofs.YtoenaehkhdcdmaaDoor
