/-
  The reference's sub and mul.
-/
import Derived.Test.YtgcfmkelanhdhaaDoorNatRef1
namespace Go.Proofs.YtgcfmkelanhdhaaDoor
open Go.RowKit
set_option linter.unusedVariables false

structure SubB (W w : World) (o : Value) (l m q : List Int) (k : Nat) (β : Int) : Prop where
  own : OwnI w W.heap.size o q
  len : q.length = k
  dg : Nb.Dg q
  val : Nb.V q + Nb.V (m.take k) = Nb.V (l.take k) + β * Nb.Bp k
  b0 : 0 ≤ β
  b1 : β ≤ 1
  bel : Below W.heap.size W w
theorem SubB.step {W w w' : World} {o o' : Value} {l m q : List Int} {k : Nat} {β z u n : Int} (h : SubB W w o l m q k β) (hl : Nb.Dg l) (hm : Nb.Dg m) (hz : l.getD k 0 = z) (hu : m.getD k 0 = u) (hn : 2 + z - u - β = n)
    (ho : OwnI w' W.heap.size o' (q ++ [n % 2])) (hb : Below W.heap.size W w') : SubB W w' o' l m (q ++ [n % 2]) (k + 1) (1 - n / 2) := by
  have d1 := hl.at k
  have d2 := hm.at k
  rw [hz] at d1
  rw [hu] at d2
  have h0 := h.b0
  have h1 := h.b1
  refine ⟨ho, by simp [h.len], h.dg.snoc (by omega) (by omega), ?_, by omega, by omega, hb⟩
  rw [Nb.V_snoc, h.len, Nb.V_take, Nb.V_take, hz, hu, show Nb.Bp (k + 1) = 2 * Nb.Bp k from rfl]
  have e : n % 2 + 2 * (n / 2) = 2 + z - u - β := by omega
  have hv := h.val
  grind
theorem SubB.drew {W w : World} {o : Value} {l m q : List Int} {k : Nat} {β : Int} (h : SubB W w o l m q k β) : SubB W w.drew o l m q k β := by
  have hb : Below w.heap.size w w.drew := (Below.refl _ _).grown (grown_drew w none) (Nat.le_refl _) (fun k hk => by cases hk)
  exact ⟨h.own.below hb, h.len, h.dg, h.val, h.b0, h.b1, h.bel.trans (hb.mono h.bel.size)⟩
set_option maxRecDepth 100000 in
set_option maxHeartbeats 4000000 in
theorem rsub_any (A B : Option Addr) (ca cb : Nat) (l m : List Int) (x y : Int) (w : World) (hr : NumB w A l x) (hs : NumB w B m y) (hxy : y ≤ x) :
    Calls Tryd.prog 71 #[.slice A l.length ca, .slice B m.length cb] w (PostBn (x - y) w) := by
  have hml : m.length ≤ l.length := by
    rw [hs.can.len_iff, hs.val]
    have := Nb.V_lt hr.can.dg
    rw [hr.val] at this
    omega
  have hl := hr.len
  have Hr := Lib.hid hr; have Hs := Lib.hid hs; clear hr hs
  go_enter Tryd.func71, Tryd.ntmps71
  go_wp2_with fail
  go_loopw [5, 6, 7] (fun o c i wr => ∃ (k : Nat) (q : List Int) (β : Int), k ≤ l.length ∧ i = .int .i64 k ∧ c = .int .i64 β ∧ Hid (SubB w wr o l m q k β)) (fun _ _ i _ => l.length - (intOf i).toNat)
  case atStart => exact ⟨0, [], 0, by omega, rfl, rfl, Lib.hid ⟨OwnI.nil _ _, rfl, Nb.Dg.nil, by simp [Nb.V], by omega, by omega, Below.refl _ _⟩⟩
  case round =>
    obtain ⟨k, q, β, hk, rfl, rfl, HS⟩ := hrel
    by_cases h0 : k = l.length
    · subst h0
      have hv := HS.out.val
      rw [List.take_length, List.take_of_length_le hml, Hr.out.val, Hs.out.val] at hv
      have hq := Nb.V_lt HS.out.dg
      rw [HS.out.len] at hq
      have hv2 : Nb.V q = x - y := by
        have b0 := HS.out.b0
        have b1 := HS.out.b1
        rcases (show β = 0 ∨ β = 1 by omega) with rfl | rfl
        · omega
        · omega
      have hT := trim_bn HS.out.own HS.out.dg (by rw [HS.out.len]; omega) hv2 HS.out.bel
      have HT := Lib.hid hT; clear hv hT hq hv2
      go_wp2_with (go_at_call 69; (with_reducible refine HT.out.mono ?_); rintro e w' ⟨A', c', l', rfl, hp⟩; have HP := Lib.hid hp; clear hp)
      go_ret
      exact ⟨A', c', l', rfl, HP.out⟩
    · have HS2 := Lib.hid (HS.out.drew)
      have hrw := Hr.out.below HS2.out.bel
      have hsw := Hs.out.below HS2.out.bel
      obtain ⟨b1, off1, rfl, hbl, hc⟩ := hrw.rd (by omega)
      have hc1 := hc k (by omega); clear hc
      have h2 := at_any B cb m k wr.drew hsw.rd (by have := hsw.len; omega)
      have d1 := hrw.can.dg.at k
      have d2 := hsw.can.dg.at k
      obtain ⟨z, hz⟩ : ∃ z, l.getD k 0 = z := ⟨_, rfl⟩
      obtain ⟨u, hu⟩ : ∃ u, m.getD k 0 = u := ⟨_, rfl⟩
      rw [hz] at hc1 d1
      rw [hu] at h2 d2
      have H2 := Lib.hid h2
      obtain ⟨d10, d11⟩ := d1
      obtain ⟨d20, d21⟩ := d2
      have b0 := HS.out.b0
      have b1' := HS.out.b1
      have i0 : (0 : Int) ≤ (k : Int) := by omega
      have i1 : (k : Int) < (l.length : Int) := by omega
      have i2 : 0 ≤ 2 + z - u - β := by omega
      have HST := Lib.hid (fun o' w' (ho : OwnI w' w.heap.size o' (q ++ [(2 + z - u - β) % 2])) (hb : Below w.heap.size wr.drew w') => HS2.out.step (w' := w') Hr.out.can.dg Hs.out.can.dg hz hu rfl ho (HS2.out.bel.trans hb))
      have HSZ := Lib.hid HS2.out.bel.size
      have HLN := Lib.hid HS.out.len
      clear h2 hrw hsw hz hu h0
      go_wp2_with fail
      go_region_with (go_at_call 54; (with_reducible refine H2.out.mono ?_); rintro e w' ⟨rfl, rfl⟩)
      all_goals
        go_wp2_with (at_builtin; refine wpList_app _ rfl _ _ rfl w.heap.size _ q rfl HS2.out.own _ rfl (by rw [HLN.out]; omega) HSZ.out ?_; intro v' w' ho hb'; have HST' := Lib.hid (HST.out v' w' ho hb'); clear ho hb')
        exact ⟨⟨k + 1, _, _, by omega, by go_num, rfl, HST'⟩, by simp [intOf]; omega⟩

end Go.Proofs.YtgcfmkelanhdhaaDoor
