/-
  The reference's words.
-/
import Derived.Test.YtoenaehkhdcdmaaDoorFolJoin
import Derived.Test.YtoenaehkhdcdmaaDoorFolWords
namespace Go.Proofs.YtoenaehkhdcdmaaDoor
open Go.RowKit
set_option linter.unusedVariables false
set_option linter.unusedSimpArgs false

theorem sub_list (s : ByteArray) (a b : Nat) : (s.extract a b).data.toList = (s.data.toList.take b).drop a := by
  rw [ByteArray.data_extract, Array.toList_extract, List.extract_eq_take_drop, List.drop_take]
/-- the word under way -/
def und (L : List UInt8) (k fr : Nat) : List UInt8 := (L.take k).drop fr
theorem und_empty (L : List UInt8) (k fr : Nat) (hk : k ≤ L.length) (h : fr ≤ k) : (und L k fr).isEmpty = decide (fr = k) := by
  have hl : (und L k fr).length = k - fr := by unfold und; simp; omega
  rw [Bool.eq_iff_iff, List.isEmpty_iff_length_eq_zero, hl, decide_eq_true_eq]; omega
theorem und_self (L : List UInt8) (k : Nat) : und L k k = [] := by unfold und; apply List.drop_of_length_le; simp; omega
theorem step_end (L : List UInt8) (k fr : Nat) (hk : k = L.length) (h : fr ≤ k) : Fo.wds (und L k fr) (L.drop k) = if fr = k then [] else [und L k fr] := by
  rw [List.drop_of_length_le (by omega)]
  show (if (und L k fr).isEmpty then [] else [und L k fr]) = _
  rw [und_empty L k fr (by omega) h]
  by_cases e : fr = k <;> simp [e]
theorem step_blank (L : List UInt8) (k fr : Nat) (hk : k < L.length) (h : fr ≤ k) (hb : L.getD k 0 = 32) : Fo.wds (und L k fr) (L.drop k) = (if fr = k then [] else [und L k fr]) ++ Fo.wds (und L (k + 1) (k + 1)) (L.drop (k + 1)) := by
  rw [List.getD_eq_getElem?_getD, List.getElem?_eq_getElem hk] at hb
  rw [List.drop_eq_getElem_cons hk, show L[k] = 32 from hb, und_self]
  show (if (und L k fr).isEmpty then _ else _) = _
  rw [und_empty L k fr (by omega) h]
  by_cases e : fr = k <;> simp [e]
theorem step_other (L : List UInt8) (k fr : Nat) (hk : k < L.length) (h : fr ≤ k) (hb : L.getD k 0 ≠ 32) : Fo.wds (und L k fr) (L.drop k) = Fo.wds (und L (k + 1) fr) (L.drop (k + 1)) := by
  rw [List.getD_eq_getElem?_getD, List.getElem?_eq_getElem hk] at hb
  have hb' : ¬L[k] = 32 := hb
  rw [List.drop_eq_getElem_cons hk]
  conv => lhs; unfold Fo.wds
  rw [if_neg hb']
  congr 1
  unfold und
  rw [List.take_add_one, List.getElem?_eq_getElem hk, List.drop_append_of_le_length (by simp; omega)]
  rfl
/-- what the loop keeps: the words so far, the place where the present one begins -/
structure WdS (s : ByteArray) (w wr : World) (A : Option Addr) (n c k fr : Nat) (acc : List (List UInt8)) : Prop where
  own : Strs w.heap.size wr A n c acc
  bel : Below w.heap.size w wr
  val : Fo.words s.data.toList = acc ++ Fo.wds (und s.data.toList k fr) (s.data.toList.drop k)
  len : n ≤ k
  frk : fr ≤ k
/-- behind the end -/
structure WdE (s : ByteArray) (w wr : World) (A : Option Addr) (n c : Nat) : Prop where
  own : Strs w.heap.size wr A n c (Fo.words s.data.toList)
  bel : Below w.heap.size w wr
set_option maxRecDepth 100000 in
set_option maxHeartbeats 8000000 in
theorem wordsRef_any (s : ByteArray) (w : World) (hs : s.size ≤ 1000000) : Calls Tryd.prog 27 #[.string s] w (PostStrs (Fo.words s.data.toList) w) := by
  have hl : s.data.toList.length = s.size := by simp
  have HL := Lib.hid hl; clear hl
  have H0 := Lib.hid (show WdS s w w none 0 0 0 0 [] from ⟨Strs.nil _ _, Below.refl _ _, rfl, Nat.le_refl _, Nat.le_refl _⟩)
  go_enter Tryd.func27, Tryd.ntmps27
  go_wp2
  go_loopw [3, 4, 5] (fun s3 s4 s5 wr => ∃ (k fr n c : Nat) (A : Option Addr) (acc : List (List UInt8)), s5 = .int .i64 k ∧ s4 = .int .i64 fr ∧ s3 = .slice A n c ∧ ((k ≤ s.size ∧ Hid (WdS s w wr A n c k fr acc)) ∨ (k = s.size + 1 ∧ Hid (WdE s w wr A n c)))) (fun _ _ s5 _ => s.size + 1 - (intOf s5).toNat)
  case atStart => exact ⟨0, 0, 0, 0, none, [], rfl, rfl, rfl, .inl ⟨Nat.zero_le _, H0⟩⟩
  case round =>
    obtain ⟨k, fr, n, c, A, acc, rfl, rfl, rfl, hcase⟩ := hrel
    rcases hcase with ⟨hk, HS⟩ | ⟨hk, HS⟩
    · have hki : (k : Int) ≤ s.size := by omega
      have hkn : ¬ s.size < k := by omega
      have hfk := HS.out.frk
      have hfki : (fr : Int) ≤ k := by omega
      have hnl : n + 1 ≤ 1000000000 := by have := HS.out.len; omega
      have hbt : (k : Int) + 1 ≤ 100000000 := by omega
      by_cases hend : k = s.size
      · have hkk : ((k : Int) == s.size) = true := by rw [beq_iff_eq]; omega
        have hv := HS.out.val
        rw [step_end _ k fr (by rw [HL.out]; exact hend) hfk] at hv
        have HE := Lib.hid hend
        clear hend
        by_cases hfr : fr = k
        · have hfi : ¬ (fr : Int) < k := by omega
          rw [if_pos hfr, List.append_nil] at hv
          have HV := Lib.hid hv
          clear hv hfr
          go_wp2
          exact ⟨⟨k + 1, k + 1, n, c, A, acc, by go_num, by go_num, rfl, .inr ⟨by rw [HE.out], Lib.hid ⟨by rw [HV.out]; exact HS.out.own, HS.out.bel⟩⟩⟩, by simp [intOf]; omega⟩
        · have hfi : (fr : Int) < k := by omega
          rw [if_neg hfr] at hv
          have HV := Lib.hid hv
          have hTd : s.extract fr k = ⟨(und s.data.toList k fr).toArray⟩ := by
            apply ByteArray.ext; apply Array.ext'; rw [sub_list]; rfl
          have HTd := Lib.hid hTd
          have HO := Lib.hid (HS.out.own.below (below_new wr (.cells #[.string (s.extract fr k)] 9)))
          have HB := Lib.hid (HS.out.bel.alloc HS.out.bel.size (.cells #[.string (s.extract fr k)] 9))
          clear hv hTd hfr
          go_wp2_with (at_builtin; with_reducible refine wpList_app1s _ rfl _ _ rfl w.heap.size n c A acc rfl HO.out wr.heap.size (und s.data.toList k fr) (s.extract fr k) HTd.out rfl ?_ hnl HB.out.size ?_)
          · go_simp
          · intro A' n' c' w' hn' ho hg
            have hbl := HB.out.grown hg HB.out.size (strs_base HO.out)
            have HN := Lib.hid hn'
            have HOo := Lib.hid ho; have HBl := Lib.hid hbl
            clear hn' ho hg hbl
            go_wp2
            have ho := HOo.out; have hbl := HBl.out; have hn' := HN.out
            exact ⟨⟨k + 1, k + 1, n', c', A', acc ++ [und s.data.toList k fr], by go_num, by go_num, rfl, .inr ⟨by rw [HE.out], Lib.hid ⟨by rw [HV.out]; exact ho, hbl⟩⟩⟩, by simp [intOf]; omega⟩
      · have hkk : ((k : Int) == s.size) = false := by rw [beq_eq_false_iff_ne]; omega
        have hlt : k < s.size := by omega
        have hlti : (k : Int) < s.size := by omega
        have hgd := getD_at s k hlt
        obtain ⟨x, hx⟩ : ∃ x, s[k]'hlt = x := ⟨_, rfl⟩
        rw [hx] at hgd
        by_cases hx32 : x.toNat = 32
        · have hv := HS.out.val
          rw [step_blank _ k fr (by rw [HL.out]; exact hlt) hfk (by rw [hgd]; exact UInt8.toNat_inj.1 hx32)] at hv
          have HLT := Lib.hid hlt
          clear hgd
          by_cases hfr : fr = k
          · have hfi : ¬ (fr : Int) < k := by omega
            rw [if_pos hfr, List.nil_append] at hv
            have HV := Lib.hid hv
            clear hv hfr
            go_wp2
            exact ⟨⟨k + 1, k + 1, n, c, A, acc, by go_num, by go_num, rfl, .inl ⟨by have := HLT.out; omega, Lib.hid ⟨HS.out.own, HS.out.bel, HV.out, by have := HS.out.len; omega, Nat.le_refl _⟩⟩⟩, by simp [intOf]; omega⟩
          · have hfi : (fr : Int) < k := by omega
            rw [if_neg hfr] at hv
            have HV := Lib.hid hv
            have hTd : s.extract fr k = ⟨(und s.data.toList k fr).toArray⟩ := by
              apply ByteArray.ext; apply Array.ext'; rw [sub_list]; rfl
            have HTd := Lib.hid hTd
            have HO := Lib.hid (HS.out.own.below (below_new wr (.cells #[.string (s.extract fr k)] 9)))
            have HB := Lib.hid (HS.out.bel.alloc HS.out.bel.size (.cells #[.string (s.extract fr k)] 9))
            clear hv hTd hfr
            go_wp2_with (at_builtin; with_reducible refine wpList_app1s _ rfl _ _ rfl w.heap.size n c A acc rfl HO.out wr.heap.size (und s.data.toList k fr) (s.extract fr k) HTd.out rfl ?_ hnl HB.out.size ?_)
            · go_simp
            · intro A' n' c' w' hn' ho hg
              have hbl := HB.out.grown hg HB.out.size (strs_base HO.out)
              have HN := Lib.hid hn'
              have HOo := Lib.hid ho; have HBl := Lib.hid hbl
              clear hn' ho hg hbl
              go_wp2
              have ho := HOo.out; have hbl := HBl.out; have hn' := HN.out
              exact ⟨⟨k + 1, k + 1, n', c', A', acc ++ [und s.data.toList k fr], by go_num, by go_num, rfl, .inl ⟨by have := HLT.out; omega, Lib.hid ⟨ho, hbl, by rw [HV.out, List.append_assoc], by have := HS.out.len; omega, Nat.le_refl _⟩⟩⟩, by simp [intOf]; omega⟩
        · have hv := HS.out.val
          rw [step_other _ k fr (by rw [HL.out]; exact hlt) hfk (by rw [hgd]; exact Fo.ne_nat hx32)] at hv
          have HV := Lib.hid hv
          have hxb : ((x.toNat : Int) == 32) = false := by rw [beq_eq_false_iff_ne]; omega
          clear hgd hv
          go_wp2
          exact ⟨⟨k + 1, fr, n, c, A, acc, by go_num, rfl, rfl, .inl ⟨by omega, Lib.hid ⟨HS.out.own, HS.out.bel, HV.out, by have := HS.out.len; omega, by omega⟩⟩⟩, by simp [intOf]; omega⟩
    · have hki : ¬ (k : Int) ≤ s.size := by omega
      go_wp2
      go_ret
      exact ⟨A, n, c, rfl, HS.out.own, HS.out.bel⟩
end Go.Proofs.YtoenaehkhdcdmaaDoor
