/-
  The walk of the reference's Read.
-/
import Derived.Test.YtbbmpjndalkgbaaDoorMonRef4
import Derived.Test.YtbbmpjndalkgbaaDoorMonRead
namespace Go.Proofs.YtbbmpjndalkgbaaDoor
open Go.RowKit
set_option linter.unusedVariables false

theorem tk_snoc (l : List UInt8) (k : Nat) (h : k < l.length) : l.take (k + 1) = l.take k ++ [l.getD k 0] := by
  rw [List.take_add_one, List.getD_eq_getElem?_getD, List.getElem?_eq_getElem h]; rfl
theorem dv_snoc (l : List UInt8) (k : Nat) (h : k < l.length) : Mo.dv 0 (l.take (k + 1)) = if 48 ≤ (l.getD k 0).toNat ∧ (l.getD k 0).toNat ≤ 57 then 10 * Mo.dv 0 (l.take k) + (((l.getD k 0).toNat : Int) - 48) else Mo.dv 0 (l.take k) := by
  rw [tk_snoc l k h, Mo.dv_append]
  rfl
theorem mn_snoc (l : List UInt8) (k : Nat) (h : k < l.length) : Mo.mn (l.take (k + 1)) = (Mo.mn (l.take k) || (l.getD k 0 == 45)) := by
  rw [tk_snoc l k h]; simp [Mo.mn]
theorem dv_bd (l : List UInt8) : ∀ k : Nat, k ≤ l.length → 0 ≤ Mo.dv 0 (l.take k) ∧ Mo.dv 0 (l.take k) < 10 ^ k
  | 0, _ => by simp [Mo.dv]
  | k + 1, hk => by
    have ih := dv_bd l k (by omega)
    rw [dv_snoc l k (by omega), Int.pow_succ]
    split <;> omega
theorem pow17 (k : Nat) (h : k ≤ 17) : (10 : Int) ^ k ≤ 100000000000000000 := by
  have h1 : (10 : Nat) ^ k ≤ 10 ^ 17 := Nat.pow_le_pow_right (by omega) h
  have h2 : ((10 ^ k : Nat) : Int) = (10 : Int) ^ k := by simp
  rw [← h2]; omega
theorem pow18 (k : Nat) (h : k ≤ 18) : (10 : Int) ^ k ≤ 1000000000000000000 := by
  have h1 : (10 : Nat) ^ k ≤ 10 ^ 18 := Nat.pow_le_pow_right (by omega) h
  have h2 : ((10 ^ k : Nat) : Int) = (10 : Int) ^ k := by simp
  rw [← h2]; omega

def PostRR (l : List UInt8) (w : World) (e : Ending) (w' : World) : Prop :=
  ∃ v er, e = .returned (.tuple #[.int .i64 v, .int .i64 er]) ∧ Mo.RdIs l v er ∧ Below w.heap.size w w'
theorem rtext_any (a : Int) (w : World) : Calls Tryd.prog 30 #[.int .i64 a] w (PostTx a w) := by
  cases h : Mo.rt a
  · exact rtext_no a w h
  · have := (Mo.rt_iff a).1 h
    exact rtext_yes a.natAbs a w (by omega) (by omega)

set_option maxRecDepth 20000 in
set_option maxHeartbeats 1500000 in
theorem rread_any (s : ByteArray) (w : World) (hs : s.size ≤ 9223372036854775807) : Calls Tryd.prog 31 #[.string s] w (PostRR s.data.toList w) := by
  by_cases hl : 18 < s.size
  · have HN := Lib.hid (Mo.rdIs_of_long s.data.toList (by simpa using hl))
    go_enter Tryd.func31, Tryd.ntmps31
    go_wp2_with fail
    go_ret2
    exact ⟨_, _, rfl, HN.out, Below.refl _ _⟩
  have hl2 : s.size ≤ 18 := by omega
  have hL : s.data.toList.length = s.size := by simp
  go_enter Tryd.func31, Tryd.ntmps31
  go_wp2_with fail
  go_loop [4, 5, 6] (fun n b i => ∃ (k : Nat), k ≤ s.size ∧ i = .int .i64 k ∧ n = .int .i64 (Mo.dv 0 (s.data.toList.take k)) ∧ b = .bool (Mo.mn (s.data.toList.take k))) (fun _ _ i => s.size - (intOf i).toNat)
  case atStart => exact ⟨0, by omega, rfl, rfl, rfl⟩
  case round =>
    obtain ⟨k, hk, rfl, rfl, rfl⟩ := hrel
    have hbd := dv_bd s.data.toList k (by omega)
    by_cases hlt : k < s.size
    · have h17 := pow17 k (by omega)
      have hsn := dv_snoc s.data.toList k (by omega)
      have hmn := mn_snoc s.data.toList k (by omega)
      rw [getD_at s k hlt] at hsn hmn
      have hmm : ((s[k] == 45) = true ∧ ((s[k].toNat : Int) == 45) = true) ∨ ((s[k] == 45) = false ∧ ((s[k].toNat : Int) == 45) = false) := by
        by_cases c : s[k] = 45
        · exact .inl ⟨beq_iff_eq.2 c, beq_iff_eq.2 (by rw [c]; rfl)⟩
        · refine .inr ⟨beq_eq_false_iff_ne.2 c, beq_eq_false_iff_ne.2 fun z => c ?_⟩
          rw [← UInt8.toNat_inj]
          have : (45 : UInt8).toNat = 45 := rfl
          omega
      have HS := Lib.hid hsn; have HM := Lib.hid hmn
      generalize Mo.dv 0 (s.data.toList.take k) = x at *
      generalize Mo.mn (s.data.toList.take k) = b at *
      obtain ⟨x0, x1⟩ := hbd
      have hx : x ≤ 100000000000000000 := by omega
      clear hsn hmn x1 h17
      have hcs : ((s[k].toNat < 48 ∨ 57 < s[k].toNat) ∨ (48 ≤ s[k].toNat ∧ s[k].toNat ≤ 57)) := by omega
      have hdec : (s[k].toNat < 48 ∧ decide ((48 : Int) ≤ (s[k].toNat : Int)) = false) ∨ (57 < s[k].toNat ∧ decide ((48 : Int) ≤ (s[k].toNat : Int)) = true ∧ decide ((s[k].toNat : Int) ≤ 57) = false) ∨ ((48 ≤ s[k].toNat ∧ s[k].toNat ≤ 57) ∧ decide ((48 : Int) ≤ (s[k].toNat : Int)) = true ∧ decide ((s[k].toNat : Int) ≤ 57) = true) := by
        by_cases c1 : s[k].toNat < 48
        · exact .inl ⟨c1, decide_eq_false (by omega)⟩
        · by_cases c2 : 57 < s[k].toNat
          · exact .inr (.inl ⟨c2, decide_eq_true (by omega), decide_eq_false (by omega)⟩)
          · exact .inr (.inr ⟨⟨by omega, by omega⟩, decide_eq_true (by omega), decide_eq_true (by omega)⟩)
      clear hcs
      rcases hmm with ⟨m1, m2⟩ | ⟨m1, m2⟩
      all_goals
        rcases hdec with ⟨d1, d2⟩ | ⟨d1, d2, d3⟩ | ⟨⟨d0, d1⟩, d2, d3⟩
      all_goals
        have M1 := Lib.hid m1
        clear m1
        go_wp2_with fail
        exact ⟨⟨k + 1, by omega, by go_num, by first | rw [HS.out, if_pos ⟨by omega, by omega⟩] | rw [HS.out, if_neg (by omega)], by first | rw [HM.out, M1.out, Bool.or_true] | rw [HM.out, M1.out, Bool.or_false]⟩, by simp [intOf]; omega⟩
    · have hke : k = s.size := by omega
      subst hke
      have htk : s.data.toList.take s.size = s.data.toList := List.take_of_length_le (by omega)
      have h18 := pow18 s.size (by omega)
      rw [htk] at hbd ⊢
      have hrn : Mo.rn s.data.toList = if Mo.mn s.data.toList = true then - Mo.dv 0 s.data.toList else Mo.dv 0 s.data.toList := rfl
      have hrd := Mo.rdIs_of_ref s.data.toList (by omega)
      have htx := rtext_any (Mo.rn s.data.toList) w
      unfold PostTx at htx
      generalize Mo.rn s.data.toList = N at *
      generalize Mo.dv 0 s.data.toList = x at *
      generalize Mo.mn s.data.toList = b at *
      obtain ⟨x0, x1⟩ := hbd
      have hx : x ≤ 1000000000000000000 := by omega
      clear x1 h18 htk hk
      have HRD := Lib.hid hrd
      clear hrd hL
      cases hrt : Mo.rt N
      · have e1 : Mo.txV N = [] := by simp [Mo.txV, hrt]
        have e2 : Mo.txE N = 2 := by simp [Mo.txE, hrt]
        rw [e1, e2] at htx
        have HN := Lib.hid (HRD.out.2 (fun z => by rw [hrt] at z; cases z.1))
        clear e1 e2 hrt HRD
        have HTX := Lib.hid htx
        clear htx
        cases b
        all_goals
          simp only [Bool.false_eq_true, if_true, if_false] at hrn
          subst hrn
          go_wp2_with (go_at_call 30; (with_reducible refine HTX.out.mono ?_); rintro e w' ⟨rfl, hb⟩; have BB := Lib.hid hb; clear hb)
          go_ret2
          exact ⟨_, _, rfl, HN.out, BB.out⟩
      · have e1 : Mo.txV N = Mo.tx N := by simp [Mo.txV, hrt]
        have e2 : Mo.txE N = 0 := by simp [Mo.txE, hrt]
        rw [e1, e2] at htx
        have HTX := Lib.hid htx
        by_cases hc : Mo.tx N = s.data.toList
        · have HN := Lib.hid (HRD.out.1 ⟨hrt, hc⟩)
          have hse := str_eq _ s hc
          clear e1 e2 hrt HRD htx hc
          cases b
          all_goals
            simp only [Bool.false_eq_true, if_true, if_false] at hrn
            subst hrn
            go_wp2_with (go_at_call 30; (with_reducible refine HTX.out.mono ?_); rintro e w' ⟨rfl, hb⟩; have BB := Lib.hid hb; clear hb)
            go_ret2
            exact ⟨_, _, rfl, HN.out, BB.out⟩
        · have HN := Lib.hid (HRD.out.2 (fun z => hc z.2))
          have hse := str_ne _ s hc
          clear e1 e2 hrt HRD htx hc
          cases b
          all_goals
            simp only [Bool.false_eq_true, if_true, if_false] at hrn
            subst hrn
            go_wp2_with (go_at_call 30; (with_reducible refine HTX.out.mono ?_); rintro e w' ⟨rfl, hb⟩; have BB := Lib.hid hb; clear hb)
            go_ret2
            exact ⟨_, _, rfl, HN.out, BB.out⟩

end Go.Proofs.YtbbmpjndalkgbaaDoor
