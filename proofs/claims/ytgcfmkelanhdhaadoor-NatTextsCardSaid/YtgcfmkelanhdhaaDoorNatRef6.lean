/-
  The reference's limbs and fit.
-/
import Derived.Test.YtgcfmkelanhdhaaDoorNatRef5
namespace Go.Proofs.YtgcfmkelanhdhaaDoor
open Go.RowKit
set_option linter.unusedVariables false

theorem Own.below {w w' : World} {b : Nat} {v : Value} {l : List Int} (h : Own w b v l) (hb : Below w.heap.size w w') : Own w' b v l := by
  rcases h with h | ⟨g, s, h1, h2, h3⟩
  · exact .inl h
  · exact .inr ⟨g, s, h1, h2.below hb, h3⟩
theorem Own.row6 {w : World} {base : Nat} {v : Value} {l : List Int} (h : Own w base v l) : w.ownsRow base 48 1 v l.length (l.map (Value.int .u32)) := by
  rcases h with ⟨rfl, rfl⟩ | ⟨g, s, rfl, h2, h3, h4⟩
  · exact World.ownsRow_nil _ _ _ _
  · exact h2.own h3 h4
theorem Own.at6 {w : World} {base : Nat} {v : Value} {l : List Int} (h : Own w base v l) (k : Nat) (hk : v.ownBlock = some k) : base ≤ k := by
  rcases h with ⟨rfl, rfl⟩ | ⟨g, s, rfl, h2, h3, h4⟩
  · cases hk
  · cases hk; exact h3
/-- one limb more behind a slice of one's own -/
theorem wpList_appU {ops : Array Oper} {rest : List Oper} {o : Oper} {a : Act} {Q : Exit → Act → World → Prop} (w : World) (hg : o.guard = none) (s x : Operand)
    (hop : o.op = .call { callee := .builtin .append, args := #[s, x], argTypes := #[22, 22] }) (base : Nat) (v : Value) (q : List Int) (hv : a.eval s = v) (ho : Own w base v q) (y : Int)
    (hx : a.eval x = .slice (some ⟨w.heap.size, 0, none⟩) 1 1) (hl : q.length ≤ 1000000) (hb : base ≤ w.heap.size)
    (hK : ∀ v' w', Own w' base v' (q ++ [y]) → Below base w w' → wpList Tryd.prog ops Q rest (a.put o.dst v') w') :
    wpList Tryd.prog ops Q (o :: rest) a (w.alloc (.cells #[.int .u32 y] 48)) := by
  obtain ⟨i0, hi, hz0, hz1, hz2⟩ := info_parts infoU32
  refine wpList_append_own _ hg _ _ 22 hop base 48 i0 (.int .u32 0) 1 4 Tryd.underlying22 hi hz0 hz1 hz2 rfl (by decide) _ _ _ hv (World.ownsRow.alloc ho.row6 _) ⟨w.heap.size, 0, none⟩ 1 1 [.int .u32 y] hx rfl (cell_one_new _ _ _) ?_ ?_ ?_ ?_ ?_
  · intro u hu; simp at hu; subst hu; rfl
  · unfold maxLen; omega
  · omega
  · simp; omega
  · intro v' w' h1 h2 _
    refine hK v' w' (own_of (n := q.length + 1) (by simpa using h1)) ?_
    exact ((Below.refl base w).alloc hb _).grown h2 (by simp; omega) (fun k hk => ho.at6 k hk)
structure LimB (W w : World) (o : Value) (l m : List Int) (k : Nat) : Prop where
  own : Own w W.heap.size o m
  len : m.length = (k + 31) / 32
  dg : Na.Dg m
  val : Na.V m = Nb.V (l.take k)
  bel : Below W.heap.size W w
theorem bp_mod (k : Nat) : Nb.Bp k = Na.Bp (k / 32) * Nb.Bp (k % 32) := by
  rw [← bp32, ← Nb.Bp_add, show 32 * (k / 32) + k % 32 = k by omega]
theorem bp_two : ∀ k, Nb.Bp k = 2 ^ k
  | 0 => rfl
  | k + 1 => by rw [show Nb.Bp (k + 1) = 2 * Nb.Bp k from rfl, bp_two k, Int.pow_succ]; exact Int.mul_comm _ _
/-- the last limb, and what comes to it -/
theorem lim_step {l m : List Int} {k : Nat} (hm : Na.Dg m) (hl : Nb.Dg l) (hlen : m.length = k / 32 + 1) (hv : Na.V m = Nb.V (l.take k)) (hz : l.getD k 0 = 1) :
    ∃ u, m.getD (k / 32) 0 = u ∧ 0 ≤ u ∧ u + 2 ^ (k % 32) < 4294967296 ∧ Na.Dg (m.set (k / 32) (u + 2 ^ (k % 32))) ∧ Na.V (m.set (k / 32) (u + 2 ^ (k % 32))) = Nb.V (l.take (k + 1)) := by
  obtain ⟨u, hu⟩ : ∃ u, m.getD (k / 32) 0 = u := ⟨_, rfl⟩
  obtain ⟨u0, u1⟩ := hm.at (k / 32)
  rw [hu] at u0 u1
  have hs := Na.take_snoc m (k / 32) (by omega)
  rw [hu, ← hlen, List.take_length] at hs
  have hdt := hm.take (k / 32)
  have hlt : (m.take (k / 32)).length = k / 32 := by rw [List.length_take]; omega
  generalize m.take (k / 32) = t at hs hdt hlt
  subst hs
  rw [Na.V_snoc, hlt] at hv
  have h1 := Na.V_nonneg hdt
  have h2 := Nb.V_lt (hl.take k)
  have h3 := Nb.Bp_le (show (l.take k).length ≤ k by rw [List.length_take]; omega)
  have h4 := bp_mod k
  have hu2 : u < Nb.Bp (k % 32) := by
    rcases Int.lt_or_le u (Nb.Bp (k % 32)) with c | c
    · exact c
    · have := Int.mul_le_mul_of_nonneg_left c (Int.le_of_lt (Na.Bp_pos (k / 32)))
      omega
  have h5 := Nb.Bp_le (show k % 32 + 1 ≤ 32 by omega)
  rw [show Nb.Bp 32 = 4294967296 by decide, show Nb.Bp (k % 32 + 1) = 2 * Nb.Bp (k % 32) from rfl] at h5
  have h6 := Nb.Bp_pos (k % 32)
  rw [← bp_two]
  refine ⟨u, hu, u0, by omega, ?_, ?_⟩
  · rw [List.set_append_right _ _ (by omega), hlt, Nat.sub_self, List.set_cons_zero]
    exact hdt.snoc (by omega) (by omega)
  · rw [List.set_append_right _ _ (by omega), hlt, Nat.sub_self, List.set_cons_zero, Na.V_snoc, hlt, Nb.V_take, hz, ← hv, h4]
    grind
theorem lim_put {W w' : World} {v' : Value} {l m : List Int} {k : Nat} (ho : Own w' W.heap.size v' m) (hm : Na.Dg m) (hl : Nb.Dg l) (hlen : m.length = k / 32 + 1) (hv : Na.V m = Nb.V (l.take k)) (hz : l.getD k 0 = 1) (hb : Below W.heap.size W w') :
    ∃ g cap u m', v' = .slice (some ⟨g, 0, none⟩) (k / 32 + 1) cap ∧ w'.cell? ⟨g, k / 32, none⟩ = some (.int .u32 u) ∧ w'.frozen? ⟨g, k / 32, none⟩ = false ∧
      LimB W (w'.setCell ⟨g, k / 32, none⟩ (.int .u32 ((u + 2 ^ (k % 32)) % 4294967296))) (.slice (some ⟨g, 0, none⟩) (k / 32 + 1) cap) l m' (k + 1) := by
  obtain ⟨u, e1, e2, e3, e4, e5⟩ := lim_step hm hl hlen hv hz
  rcases ho with ⟨-, e⟩ | ⟨g, s, rfl, hB, hg, hcap⟩
  · rw [e] at hlen; simp at hlen
  · have hp := Nb.Bp_pos (k % 32)
    rw [bp_two] at hp
    have em : (u + 2 ^ (k % 32)) % 4294967296 = u + 2 ^ (k % 32) := Int.emod_eq_of_lt (by omega) e3
    have hcq := hB.cell (k / 32) (by omega) (i := k / 32) (by simp)
    rw [e1] at hcq
    have hst := hB.set (k / 32) (by omega) (u + 2 ^ (k % 32)) (i := k / 32) (by simp)
    refine ⟨g, m.length + s.length, u, m.set (k / 32) (u + 2 ^ (k % 32)), by rw [hlen], hcq, hB.free _, ?_⟩
    rw [em]
    refine ⟨.inr ⟨g, s, by rw [List.length_set, hlen], hst, hg, by rw [List.length_set]; exact hcap⟩, by rw [List.length_set, hlen]; omega, e4, e5, ?_⟩
    exact hb.grown (grown_set w' ⟨g, k / 32, none⟩ _) hb.size (fun j hj => by cases hj; exact hg)
theorem lim_end {W w : World} {o : Value} {l m : List Int} {x : Int} (h : LimB W w o l m l.length) (hl : Nb.Can l) (hx : Nb.V l = x) (hll : l.length ≤ 32768) : ∃ A c, o = .slice A m.length c ∧ Num w A m x := by
  have hv := h.val
  rw [List.take_length, hx] at hv
  have hlen := h.len
  have hcan : Na.Can m := by
    by_cases e : m = []
    · rw [e]; exact Na.Can.nil
    · have hp := List.length_pos_iff.2 e
      have hne : l ≠ [] := by intro e2; rw [e2] at hlen; simp at hlen; exact e hlen
      have h1 := hl.len hne
      have h2 := Nb.Bp_le (show 32 * (m.length - 1) ≤ l.length - 1 by omega)
      rw [bp32] at h2
      have h3 := (Na.Can.mk' h.dg).len_iff (m.length - 1)
      rw [Na.V_trm, hv] at h3
      rw [hx] at h1
      have h4 : ¬ (Na.trm m).length ≤ m.length - 1 := fun c => by have := h3.1 c; omega
      have h5 := Na.trm_take m
      rw [List.take_of_length_le (by omega)] at h5
      exact ⟨h.dg, h5⟩
  rcases h.own with ⟨rfl, e⟩ | ⟨g, s, rfl, hB, hg, hcap⟩
  · subst e
    exact ⟨none, 0, rfl, RdK.nil _ _ _, hcan, by simp, hv⟩
  · exact ⟨_, _, rfl, hB.rd rfl, hcan, by omega, hv⟩
set_option maxRecDepth 100000 in
set_option maxHeartbeats 8000000 in
theorem rlimbs_any (A : Option Addr) (ca : Nat) (l : List Int) (x : Int) (w : World) (hr : NumB w A l x) (hl : l.length ≤ 32768) (hc : l.length ≤ ca) (hm : ca ≤ 9223372036854775807) :
    Calls Tryd.prog 58 #[.slice A l.length ca] w (PostNum x w) := by
  have hT := rtrim_any A ca l w hr.rd hc hm
  rw [hr.can.fix] at hT
  have HT := Lib.hid hT
  have Hr := Lib.hid hr; clear hr hT
  go_enter Tryd.func58, Tryd.ntmps58
  go_wp2_with (go_at_call 69; (with_reducible refine HT.out.mono ?_); rintro e x2 ⟨rfl, rfl⟩)
  go_loopw [3, 4] (fun o i wr => ∃ (k : Nat) (m : List Int), k ≤ l.length ∧ i = .int .i64 k ∧ Hid (LimB w wr o l m k)) (fun _ i _ => l.length - (intOf i).toNat)
  case atStart => exact ⟨0, [], by omega, rfl, Lib.hid ⟨.inl ⟨rfl, rfl⟩, rfl, Na.Dg.nil, by simp [Nb.V, Na.V], Below.refl _ _⟩⟩
  case round =>
    obtain ⟨k, m, hk, rfl, HS⟩ := hrel
    by_cases h0 : k = l.length
    · subst h0
      have he := lim_end HS.out Hr.out.can Hr.out.val hl
      have HB := Lib.hid HS.out.bel
      obtain ⟨A', c', rfl, hn⟩ := he
      have HN := Lib.hid hn
      clear hn HS
      go_wp2_with fail
      go_ret
      exact ⟨A', c', m, rfl, HN.out, HB.out⟩
    · obtain ⟨b1, off1, rfl, hbl, hc'⟩ := Hr.out.rd (by omega)
      have hc0 := hc' k (by omega); clear hc'
      have hc1 : wr.cell? ⟨b1, off1 + k, none⟩ = some (.int .i64 (l.getD k 0)) := (bcell HS.out.bel b1 _ hbl).trans hc0
      have d1 := Hr.out.can.dg.at k
      have hvk := Nb.V_take l k
      obtain ⟨z, hz⟩ : ∃ z, l.getD k 0 = z := ⟨_, rfl⟩
      rw [hz] at hc0 hc1 d1 hvk
      have HCX := Lib.hid (fun w' (hb : Below w.heap.size wr w') => (bcell (HS.out.bel.trans hb) b1 (off1 + k) hbl).trans hc0)
      have HZ := Lib.hid hz
      have i0 : (0 : Int) ≤ (k : Int) := by omega
      have i1 : (k : Int) < (l.length : Int) := by omega
      have HML := Lib.hid HS.out.len
      have HSZ := Lib.hid HS.out.bel.size
      have j0 : (0 : Int) ≤ (k : Int) / 32 := by omega
      have j1 : (k : Int) / 32 < ((k / 32 + 1 : Nat) : Int) := by omega
      have HVK := Lib.hid hvk
      clear hz hvk h0 hc0
      by_cases hk32 : k % 32 = 0
      · have k32 : (k : Int) % 32 = 0 := by omega
        rcases (show z = 0 ∨ z = 1 by omega) with rfl | rfl
        · have HST := Lib.hid (fun v' w' (ho : Own w' w.heap.size v' (m ++ [0])) (hb : Below w.heap.size wr w') =>
            (show LimB w w' v' l (m ++ [0]) (k + 1) from ⟨ho, by rw [List.length_append, HS.out.len]; simp; omega, HS.out.dg.snoc (by omega) (by omega), by rw [Na.V_snoc, HS.out.val, HVK.out]; omega, HS.out.bel.trans hb⟩))
          go_wp2_with (at_builtin; refine wpList_appU _ rfl _ _ rfl w.heap.size _ m rfl HS.out.own _ rfl (by rw [HML.out]; omega) HSZ.out ?_; intro v' w' ho hb'; have hcx := HCX.out w' hb'; have HST' := Lib.hid (HST.out v' w' ho hb'); clear ho hb')
          exact ⟨⟨k + 1, _, by omega, by go_num, HST'⟩, by simp [intOf]; omega⟩
        · have HPT := Lib.hid (fun v' w' (ho : Own w' w.heap.size v' (m ++ [0])) (hb : Below w.heap.size wr w') =>
            lim_put ho (HS.out.dg.snoc (by omega) (by omega)) Hr.out.can.dg (by rw [List.length_append, HS.out.len]; simp; omega) (by rw [Na.V_snoc, HS.out.val]; omega) HZ.out (HS.out.bel.trans hb))
          go_wp2_with (at_builtin; refine wpList_appU _ rfl _ _ rfl w.heap.size _ m rfl HS.out.own _ rfl (by rw [HML.out]; omega) HSZ.out ?_; intro v' w' ho hb'; have hcx := HCX.out w' hb'; obtain ⟨g, cap, u, m', rfl, q1, q2, q3⟩ := HPT.out v' w' ho hb'; have HST' := Lib.hid q3; clear ho hb' q3)
          have hst := HST'.out
          rw [hk32, Int.pow_zero] at hst
          exact ⟨⟨k + 1, _, by omega, by go_num, Lib.hid hst⟩, by simp [intOf]; omega⟩
      · have k32 : (((k : Int) % 32) == 0) = false := by rw [beq_eq_false_iff_ne]; omega
        rcases (show z = 0 ∨ z = 1 by omega) with rfl | rfl
        · have HST := Lib.hid (show LimB w wr _ l m (k + 1) from ⟨HS.out.own, by rw [HS.out.len]; omega, HS.out.dg, by rw [HS.out.val, HVK.out]; omega, HS.out.bel⟩)
          go_wp2_with fail
          exact ⟨⟨k + 1, _, by omega, by go_num, HST⟩, by simp [intOf]; omega⟩
        · obtain ⟨g, cap, u, m', rfl, q1, q2, q3⟩ := lim_put HS.out.own HS.out.dg Hr.out.can.dg (by rw [HS.out.len]; omega) HS.out.val HZ.out HS.out.bel
          have HST' := Lib.hid q3; clear q3
          go_wp2_with fail
          exact ⟨⟨k + 1, _, by omega, by go_num, HST'⟩, by simp [intOf]; omega⟩

theorem rfit_any (A : Option Addr) (ca : Nat) (l : List Int) (x : Int) (w : World) (hr : NumB w A l x) (hl : l.length ≤ 32768) (hc : l.length ≤ ca) (hm : ca ≤ 9223372036854775807) :
    Calls Tryd.prog 57 #[.slice A l.length ca] w (PostNumE x w) := by
  have HL := Lib.hid (rlimbs_any A ca l x w hr hl hc hm)
  have i1 : (l.length : Int) ≤ 32768 := by omega
  clear hr
  go_enter Tryd.func57, Tryd.ntmps57
  go_wp2_with (go_at_call 58; (with_reducible refine HL.out.mono ?_); rintro e w' ⟨A', c', l', rfl, hp⟩; have HP := Lib.hid hp; clear hp)
  go_ret2
  exact ⟨A', c', l', rfl, HP.out⟩

end Go.Proofs.YtgcfmkelanhdhaaDoor
