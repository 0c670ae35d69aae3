/-
  The law's number, with what it owns; a slice of ones; limbs that are no number.
-/
import Derived.Test.YtgcfmkelanhdhaaDoorNatLaw2
namespace Go.Proofs.YtgcfmkelanhdhaaDoor
open Go.RowKit
set_option linter.unusedVariables false

def PostCopyO (l : List Int) (W : World) (e : Ending) (w' : World) : Prop :=
  ∃ v, e = .returned v ∧ Own w' W.heap.size v l ∧ Below W.heap.size W w'
set_option maxHeartbeats 1000000 in
theorem copy_own (A : Option Addr) (cap : Nat) (l : List Int) (w : World) (hr : RdK .u32 w A l) (hA : A = none → cap = 0) (hl : l.length ≤ 1000000000) :
    Calls Tryd.prog 31 #[.slice A l.length cap] w (PostCopyO l w) := by
  obtain ⟨i0, hi, hz0, hz1, hz2⟩ := info_parts infoU32
  have Hr := Lib.hid hr; clear hr
  cases A with
  | none =>
    have hn : l = [] := by
      cases l with
      | nil => rfl
      | cons x t => obtain ⟨b, off, e, -⟩ := Hr.out (by simp); cases e
    subst hn
    have hc := hA rfl
    subst hc
    go_enter Tryd.func31, Tryd.ntmps31
    go_wp2_with (at_builtin; refine wpList_append_own_none rfl _ _ 22 rfl w.heap.size 48 i0 1 Tryd.underlying22 hi _ 0 [] rfl (World.ownsRow_nil _ _ _ _) rfl ?_)
    go_ret
    exact ⟨_, rfl, .inl ⟨rfl, rfl⟩, Below.refl _ _⟩
  | some ad =>
    have hcells : ∀ j u, (l.map (Value.int .u32))[j]? = some u → w.cell? (ad.add j) = some u := by
      intro j u hu
      have hj : j < l.length := by
        have := (List.getElem?_eq_some_iff.1 hu).1
        simpa using this
      obtain ⟨b, off, e, -, hc⟩ := Hr.out (by omega)
      obtain rfl := Option.some.inj e
      have ea : (⟨b, off, none⟩ : Addr).add j = ⟨b, off + j, none⟩ := by unfold Addr.add; split <;> simp [*]
      rw [ea, hc j hj]
      simpa [List.getD_eq_getElem?_getD, List.getElem?_eq_getElem hj] using hu
    have HC := Lib.hid hcells; clear hcells
    go_enter Tryd.func31, Tryd.ntmps31
    go_wp2_with (at_builtin; refine wpList_append_own _ rfl _ _ 22 rfl w.heap.size 48 i0 (.int .u32 0) 1 4 Tryd.underlying22 hi hz0 hz1 hz2 rfl (by decide) (.slice none 0 0) 0 [] rfl (World.ownsRow_nil _ _ _ _) ad l.length cap (l.map (Value.int .u32)) rfl (by simp) HC.out ?c1 ?c2 ?c3 ?c4 ?_)
    case c1 => intro u hu; obtain ⟨z, -, rfl⟩ := List.mem_map.1 hu; rfl
    case c2 => unfold maxLen; omega
    case c3 => omega
    case c4 => exact Nat.le_refl _
    intro v' w1 h1 h2 h3
    have B1 := Lib.hid ((Below.refl w.heap.size w).grown h2 (Nat.le_refl _) (fun k hk => by cases hk))
    try rw [List.nil_append, Nat.zero_add] at h1
    have HO := Lib.hid (own_of h1)
    clear h1 h2 h3
    go_wp2_with fail
    go_ret
    exact ⟨_, rfl, HO.out, B1.out⟩
def PostNrO (l : List Int) (n : Nat) (W : World) (e : Ending) (w' : World) : Prop :=
  ∃ v, e = .returned v ∧ Own w' W.heap.size v (Na.trm (l.take n)) ∧ Below W.heap.size W w'
set_option maxHeartbeats 2000000 in
theorem number_own (A : Option Addr) (cap n : Nat) (l : List Int) (w : World) (hr : RdK .u32 w A l) (hA : A = none → cap = 0) (hl : l.length ≤ cap) (hm : cap ≤ 9223372036854775807) (hn : n ≤ 1024) :
    Calls Tryd.prog 14 #[.slice A l.length cap, .int .i64 n] w (PostNrO l n w) := by
  obtain ⟨N, hN⟩ : ∃ N, N = min l.length n := ⟨_, rfl⟩
  have e1 : min (l.length : Int) (n : Int) = (N : Int) := by omega
  have e2 : l.take n = l.take N := by rw [hN, List.take_eq_take_iff]; omega
  have hN1 : N ≤ l.length := by omega
  have hN2 : N ≤ 1024 := by omega
  have j1 : (0 : Int) ≤ (N : Int) := by omega
  have j2 : (N : Int) ≤ (cap : Int) := by omega
  have E2 := Lib.hid e2; clear e2 hN
  have Hr := Lib.hid hr; have HA := Lib.hid hA; clear hr hA
  go_enter Tryd.func14, Tryd.ntmps14
  go_wp2_with fail
  go_loop [0] (fun s => ∃ k : Nat, k ≤ N ∧ s = .slice A k cap ∧ Hid (Na.trm (l.take k) = Na.trm (l.take N))) (fun s => lenOf s)
  case atStart => exact ⟨N, Nat.le_refl _, by first | rfl | (simp), Lib.hid rfl⟩
  case round =>
    obtain ⟨k, hk, rfl, hT⟩ := hrel
    by_cases h0 : k = 0
    · subst h0
      have hT := hT.out
      rw [List.take_zero] at hT
      have hz := Lib.hid (show Na.trm (l.take n) = [] by rw [E2.out, ← hT]; rfl)
      have hcp : Calls Tryd.prog 31 #[.slice A 0 cap] w (PostCopyO [] w) := copy_own A cap [] w (RdK.nil _ _ _) HA.out (by simp)
      have HC := Lib.hid hcp
      clear hcp
      clear hT
      go_wp2_with (go_at_call 31; (with_reducible refine HC.out.mono ?_); rintro e w1 ⟨v1, rfl, hr1, hb1⟩; have HR1 := Lib.hid hr1; have HB1 := Lib.hid hb1; clear hr1 hb1)
      go_ret
      exact ⟨v1, rfl, by rw [hz.out]; exact HR1.out, HB1.out⟩
    · obtain ⟨b, off, rfl, hbl, hc⟩ := Hr.out (by omega)
      obtain ⟨j, rfl⟩ : ∃ j, k = j + 1 := ⟨k - 1, by omega⟩
      have hc1 := hc j (by omega); clear hc
      have hs := Na.take_snoc l j (by omega)
      have hT := hT.out
      rw [hs] at hT
      generalize l.getD j 0 = z at *
      have i0 : (0 : Int) ≤ (j : Int) := by omega
      have i1 : (j : Int) < ((j + 1 : Nat) : Int) := by omega
      have i2 : (j : Int) ≤ (cap : Int) := by omega
      by_cases hz : z = 0
      · subst hz
        rw [Na.trm_zero] at hT
        have HT := Lib.hid hT; clear hT hs h0
        go_wp2_with fail
        exact ⟨⟨j, by omega, rfl, HT⟩, by simp [lenOf]⟩
      · rw [Na.trm_last _ _ hz] at hT
        have hlen := Lib.hid (show Na.trm (l.take n) = l.take (j + 1) by rw [E2.out, ← hT, hs])
        have hz2 : (z == 0) = false := by rw [beq_eq_false_iff_ne]; exact hz
        have hll : (l.take (j + 1)).length = j + 1 := by rw [List.length_take]; omega
        have hcp := copy_own _ cap (l.take (j + 1)) w (rdk_take Hr.out (j + 1)) HA.out (by omega)
        rw [hll] at hcp
        have HC := Lib.hid hcp
        clear hcp hT hs h0 hll
        go_wp2_with (go_at_call 31; (with_reducible refine HC.out.mono ?_); rintro e w1 ⟨v1, rfl, hr1, hb1⟩; have HR1 := Lib.hid hr1; have HB1 := Lib.hid hb1; clear hr1 hb1)
        go_ret
        exact ⟨v1, rfl, by rw [hlen.out]; exact HR1.out, HB1.out⟩
theorem numberO_row {w : World} {a : Option Addr} {len cap : Nat} {zs : List Int} (h : IsRow .u32 w a len cap zs) (n : Nat) (N : Int) (hN : (n : Int) = N) (hn : n ≤ 1024) (W : World) (hB : Below w.heap.size w W) :
    Calls Tryd.prog 14 #[.slice a len cap, .int .i64 N] W (PostNrO (zs.take len) n W) := by
  subst hN
  obtain ⟨hl, hr⟩ := row_rd h
  obtain ⟨h1, h2⟩ := row_cap h
  have := number_own a cap n (zs.take len) W (hr.below hB) (fun e => (row_none h e).2) (by omega) h2 hn
  rwa [hl] at this
/-- limbs that are no number -/
structure Bad (w : World) (v : Value) : Prop where
  is : ∃ A c l, v = .slice A l.length c ∧ RdK .u32 w A l ∧ Na.rgt l = false ∧ l.length ≤ 2000
theorem Bad.below {w w' : World} {v : Value} (h : Bad w v) (hb : Below w.heap.size w w') : Bad w' v := by
  obtain ⟨A, c, l, h1, h2, h3, h4⟩ := h.is
  exact ⟨A, c, l, h1, h2.below hb, h3, h4⟩
theorem rgt_zero (l : List Int) : Na.rgt (l ++ [0]) = false := by
  rw [Na.rgt, decide_eq_false_iff_not]
  simp
theorem rgt_long {l : List Int} (h : 1024 < l.length) : Na.rgt l = false := by
  rw [Na.rgt, decide_eq_false_iff_not]
  omega
theorem one_rd (W : World) : RdK .u32 (W.alloc (.cells #[.int .u32 1] 48)) (some ⟨W.heap.size, 0, none⟩) [1] := rdk_new .u32 W [1] 48

end Go.Proofs.YtgcfmkelanhdhaaDoor
