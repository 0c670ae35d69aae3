/-
  The reference's bits and Right.
-/
import Derived.Test.YtgcfmkelanhdhaaDoorNatRef4
namespace Go.Proofs.YtgcfmkelanhdhaaDoor
open Go.RowKit
set_option linter.unusedVariables false

theorem bp32 : ∀ k, Nb.Bp (32 * k) = Na.Bp k
  | 0 => rfl
  | k + 1 => by
    rw [Nat.mul_add, Nb.Bp_add, bp32 k, show Nb.Bp (32 * 1) = 4294967296 by decide, show Na.Bp (k + 1) = 4294967296 * Na.Bp k from rfl]
    exact Int.mul_comm _ _
structure BitsB (W w : World) (o : Value) (l q : List Int) (n : Nat) (P : Int) : Prop where
  own : OwnI w W.heap.size o q
  len : q.length = n
  dg : Nb.Dg q
  val : Nb.V q = P
  bel : Below W.heap.size W w
set_option maxRecDepth 100000 in
set_option maxHeartbeats 4000000 in
theorem rbits_any (A : Option Addr) (ca : Nat) (l : List Int) (w : World) (hr : RdK .u32 w A l) (hd : Na.Dg l) (hl : l.length ≤ 1024) :
    Calls Tryd.prog 52 #[.slice A l.length ca] w (PostBn (Na.V l) w) := by
  have Hr := Lib.hid hr; clear hr
  go_enter Tryd.func52, Tryd.ntmps52
  go_wp2_with fail
  go_loopw [3, 4] (fun o i wr => ∃ (k : Nat) (q : List Int), k ≤ l.length ∧ i = .int .i64 k ∧ Hid (BitsB w wr o l q (32 * k) (Na.V (l.take k)))) (fun _ i _ => l.length - (intOf i).toNat)
  case atStart => exact ⟨0, [], by omega, rfl, Lib.hid ⟨OwnI.nil _ _, rfl, Nb.Dg.nil, by simp [Nb.V, Na.V], Below.refl _ _⟩⟩
  case round =>
    obtain ⟨k, q, hk, rfl, HS⟩ := hrel
    by_cases h0 : k = l.length
    · subst h0
      have hv := HS.out.val
      rw [List.take_length] at hv
      have hT := trim_bn HS.out.own HS.out.dg (by rw [HS.out.len]; omega) hv HS.out.bel
      have HT := Lib.hid hT; clear hv hT
      go_wp2_with (go_at_call 69; (with_reducible refine HT.out.mono ?_); rintro e w' ⟨A', c', l', rfl, hp⟩; have HP := Lib.hid hp; clear hp)
      go_ret
      exact ⟨A', c', l', rfl, HP.out⟩
    · have hrw := Hr.out.below HS.out.bel
      obtain ⟨b1, off1, rfl, hbl, hc⟩ := hrw (by omega)
      have hc1 := hc k (by omega); clear hc
      obtain ⟨d10, d11⟩ := hd.at k
      have hvk := Na.V_take l k
      obtain ⟨z, hz⟩ : ∃ z, l.getD k 0 = z := ⟨_, rfl⟩
      rw [hz] at hc1 d10 d11 hvk
      have HVK := Lib.hid hvk
      have i0 : (0 : Int) ≤ (k : Int) := by omega
      have i1 : (k : Int) < (l.length : Int) := by omega
      clear hrw hz hvk h0
      go_wp2_with fail
      go_loopw [3, 5, 6] (fun o x i wi => ∃ (j : Nat) (q' : List Int) (X : Int), j ≤ 32 ∧ i = .int .i64 j ∧ x = .int .u32 X ∧ 0 ≤ X ∧ X ≤ 4294967295 ∧ Hid (X * Nb.Bp j < 4294967296) ∧ Hid (BitsB w wi o l q' (32 * k + j) (Na.V (l.take (k + 1)) - Nb.Bp (32 * k + j) * X))) (fun _ _ i _ => 32 - (intOf i).toNat)
      case atStart => exact ⟨0, q, z, by omega, rfl, rfl, d10, by omega, Lib.hid (by rw [show Nb.Bp 0 = 1 from rfl]; omega), Lib.hid ⟨HS.out.own, HS.out.len, HS.out.dg, by rw [HS.out.val, HVK.out, Nat.add_zero, bp32]; omega, HS.out.bel⟩⟩
      case round =>
        obtain ⟨j, q', X, hj, rfl, rfl, x0, x1, HX, HI⟩ := hrel
        by_cases h0 : j = 32
        · subst h0
          have hX := HX.out
          rw [show Nb.Bp 32 = 4294967296 by decide] at hX
          have e : X = 0 := by omega
          have HI2 := HI.out
          rw [e, Int.mul_zero, Int.sub_zero, show 32 * k + 32 = 32 * (k + 1) by omega] at HI2
          have HI3 := Lib.hid HI2
          clear hX e HI2 HI HX x0 x1
          go_wp2_with fail
          all_goals exact ⟨⟨k + 1, q', by omega, by go_num, HI3⟩, by simp [intOf]; omega⟩
        · have hnx : (X / 2) * Nb.Bp (j + 1) < 4294967296 := by
            have h1 := HX.out
            rw [show Nb.Bp (j + 1) = 2 * Nb.Bp j from rfl]
            have h2 : (2 * (X / 2)) * Nb.Bp j ≤ X * Nb.Bp j := Int.mul_le_mul_of_nonneg_right (by omega) (Int.le_of_lt (Nb.Bp_pos j))
            have h3 : X / 2 * (2 * Nb.Bp j) = (2 * (X / 2)) * Nb.Bp j := by grind
            omega
          have HNX := Lib.hid hnx
          have HST := Lib.hid (fun o' w' (ho : OwnI w' w.heap.size o' (q' ++ [X % 2])) (hb : Below w.heap.size wr w') =>
            (show BitsB w w' o' l (q' ++ [X % 2]) (32 * k + (j + 1)) (Na.V (l.take (k + 1)) - Nb.Bp (32 * k + (j + 1)) * (X / 2)) from
              ⟨ho, by simp [HI.out.len]; omega, HI.out.dg.snoc (by omega) (by omega), by
                rw [Nb.V_snoc, HI.out.len, HI.out.val, ← Nat.add_assoc, show Nb.Bp (32 * k + j + 1) = 2 * Nb.Bp (32 * k + j) from rfl]
                have e : X = X % 2 + 2 * (X / 2) := by omega
                have e2 : Nb.Bp (32 * k + j) * X = Nb.Bp (32 * k + j) * (X % 2) + 2 * Nb.Bp (32 * k + j) * (X / 2) := by
                  calc Nb.Bp (32 * k + j) * X = Nb.Bp (32 * k + j) * (X % 2 + 2 * (X / 2)) := by rw [← e]
                    _ = _ := by grind
                omega, HI.out.bel.trans hb⟩))
          have HSZ := Lib.hid HI.out.bel.size
          have HLN := Lib.hid HI.out.len
          have j1 : (j : Int) < 32 := by omega
          clear hnx h0
          go_wp2_with (at_builtin; refine wpList_app _ rfl _ _ rfl w.heap.size _ q' rfl HI.out.own _ rfl (by rw [HLN.out]; omega) HSZ.out ?_; intro v' w' ho hb'; have HST' := Lib.hid (HST.out v' w' ho hb'); clear ho hb')
          exact ⟨⟨j + 1, _, _, by omega, by go_num, rfl, by omega, by omega, HNX, HST'⟩, by simp [intOf]; omega⟩

set_option maxRecDepth 100000 in
theorem rright_any (A : Option Addr) (cap : Nat) (l : List Int) (w : World) (hr : RdK .u32 w A l) (hl : l.length ≤ 9223372036854775807) :
    Calls Tryd.prog 51 #[.slice A l.length cap] w fun e w' => e = .returned (.bool (Na.rgt l)) ∧ w = w' := by
  by_cases h0 : l.length = 0
  · have hz := Lib.hid (show Na.rgt l = true by rw [Na.rgt, decide_eq_true_eq]; exact .inl h0)
    clear hr
    rw [h0]
    go_enter Tryd.func51, Tryd.ntmps51
    go_wp2
    go_ret
    exact ⟨ret_bool hz.out.symm, rfl⟩
  · obtain ⟨b, off, rfl, hbl, hc⟩ := hr (by omega)
    have hg : Na.rgt l = decide (l.length ≤ 1024 ∧ l.getD (l.length - 1) 0 ≠ 0) := by
      rw [Na.rgt]; simp [h0]
    obtain ⟨j, hj⟩ : ∃ j, l.length = j + 1 := ⟨l.length - 1, by omega⟩
    have hc1 := hc j (by omega); clear hc hr
    rw [hj] at hg ⊢
    rw [Nat.add_sub_cancel] at hg
    generalize l.getD j 0 = z at *
    have HG := Lib.hid hg; clear hg h0
    rw [hj] at hl
    clear hj
    have i0 : (0 : Int) ≤ (j : Int) := by omega
    have i1 : (j : Int) < ((j + 1 : Nat) : Int) := by omega
    have i2 : (((j + 1 : Nat) : Int) == 0) = false := by rw [beq_eq_false_iff_ne]; omega
    by_cases h2 : j + 1 ≤ 1024
    · by_cases hz : z = 0
      · have hz2 : (z != 0) = false := by rw [bne_eq_false_iff_eq]; exact hz
        go_enter Tryd.func51, Tryd.ntmps51
        go_wp2
        go_ret
        exact ⟨ret_bool (by rw [HG.out]; exact (decide_eq_false (fun x => x.2 hz)).symm), rfl⟩
      · have hz2 : (z != 0) = true := by rw [bne_iff_ne]; exact hz
        go_enter Tryd.func51, Tryd.ntmps51
        go_wp2
        go_ret
        exact ⟨ret_bool (by rw [HG.out]; exact (decide_eq_true ⟨h2, hz⟩).symm), rfl⟩
    · go_enter Tryd.func51, Tryd.ntmps51
      go_wp2
      go_ret
      exact ⟨ret_bool (by rw [HG.out]; exact (decide_eq_false (fun x => h2 x.1)).symm), rfl⟩

end Go.Proofs.YtgcfmkelanhdhaaDoor
