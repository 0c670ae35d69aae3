/-
  The reference's add and times.
-/
import Derived.Test.YtgbifcfdbelfpaaStaRef0
namespace Go.Proofs.Ytgbifcfdbelfpaa
open Go.RowKit
set_option linter.unusedVariables false

theorem dacc {d : List Int} {k : Nat} {c x lo hi X : Int} (hd : d.length = k) (h : Nd.V d + c * Nd.Bp k = X) (e : x + c = lo + 10000 * hi) : Nd.V (d ++ [lo]) + hi * Nd.Bp (k + 1) = X + Nd.Bp k * x := by
  rw [Nd.V_snoc, hd, show Nd.Bp (k + 1) = 10000 * Nd.Bp k from rfl]
  grind
theorem getD_out (l : List Int) (k : Nat) (h : l.length ≤ k) : l.getD k 0 = 0 := by
  rw [List.getD_eq_getElem?_getD, List.getElem?_eq_none h]; rfl
/-- so far: the digits q, and what is carried -/
structure AddD (W w : World) (o : Value) (l M q : List Int) (k : Nat) (β : Int) : Prop where
  own : OwnI w W.heap.size o q
  len : q.length = k
  dg : Nd.Dg q
  val : Nd.V q + β * Nd.Bp k = Nd.V (l.take k) + Nd.V (M.take k)
  b0 : 0 ≤ β
  b1 : β ≤ 1
  end' : l.length < k → M.length < k → β = 0
  bel : Below W.heap.size W w
theorem AddD.step {W w w' : World} {o o' : Value} {l M q : List Int} {k : Nat} {β z u n : Int} (h : AddD W w o l M q k β) (hl : Nd.Dg l) (hM : Nd.Dg M) (hz : l.getD k 0 = z) (hu : M.getD k 0 = u) (hn : β + z + u = n)
    (ho : OwnI w' W.heap.size o' (q ++ [n % 10000])) (hb : Below W.heap.size W w') : AddD W w' o' l M (q ++ [n % 10000]) (k + 1) (n / 10000) := by
  have d1 := hl.at k
  have d2 := hM.at k
  rw [hz] at d1
  rw [hu] at d2
  have h0 := h.b0
  have h1 := h.b1
  refine ⟨ho, by simp [h.len], h.dg.snoc (by omega) (by omega), ?_, by omega, by omega, fun e1 e2 => ?_, hb⟩
  · rw [dacc (x := z + u) h.len h.val (by omega), Nd.V_take, Nd.V_take, hz, hu]
    grind
  · have e3 := getD_out l k (by omega)
    have e4 := getD_out M k (by omega)
    rw [hz] at e3
    rw [hu] at e4
    omega
theorem AddD.done {W w : World} {o : Value} {l M q : List Int} {k L : Nat} {x y : Int} (h : AddD W w o l M q k 0) (h1 : l.length ≤ k) (h2 : M.length ≤ k) (hk : k ≤ L) (hx : Nd.V l = x) (hy : Nd.V M = y) : NumD w o L (x + y) := by
  obtain ⟨A, cap, rfl, a1, a2, a3⟩ := h.own.db
  have hv := h.val
  rw [List.take_of_length_le h1, List.take_of_length_le h2, hx, hy, Int.zero_mul, Int.add_zero] at hv
  exact ⟨A, cap, q, rfl, a1, h.dg, by rw [h.len]; exact hk, hv, a2, a3⟩
theorem DB.cell {w : World} {A : Option Addr} {cap : Nat} {l : List Int} (h : DB w A cap l) (k : Nat) (hk : k < l.length) : ∃ g, A = some ⟨g, 0, none⟩ ∧ g < w.heap.size ∧ w.cell? ⟨g, k, none⟩ = some (.int .i64 (l.getD k 0)) := by
  rcases h with ⟨h1, -, h2⟩ | ⟨g, s, h1, h2⟩
  · rw [h2] at hk; simp at hk
  · exact ⟨g, h1, h2.lt, h2.cell k hk (by simp)⟩
set_option maxRecDepth 100000 in
set_option maxHeartbeats 4000000 in
theorem radd_any (a b : Value) (La Lb L : Nat) (x y : Int) (w : World) (hr : NumD w a La x) (hs : NumD w b Lb y) (hl : La + 1 ≤ L) (hm : Lb + 1 ≤ L) (hL : L ≤ 100000) :
    Calls Try.prog 72 #[a, b] w (PostD L (x + y) w) := by
  obtain ⟨i0, hi, hz0, hz1, hz2⟩ := info_parts infoInt
  obtain ⟨A, ca, l, rfl, hA, hAd, hAl, hAv, hAc, hAm⟩ := hr
  obtain ⟨B, cb, m, rfl, hB, hBd, hBl, hBv, hBc, hBm⟩ := hs
  have HA := Lib.hid hA; have HB := Lib.hid hB; have HAD := Lib.hid hAd; have HBD := Lib.hid hBd; have HAV := Lib.hid hAv; have HBV := Lib.hid hBv
  clear hA hB hAd hBd hAv hBv
  go_enter Try.func72, Try.ntmps72
  go_wp2_with fail
  go_loopw [5, 6, 7] (fun o c i wr => ∃ (k : Nat) (q : List Int) (β : Int), k ≤ max l.length m.length + 1 ∧ i = .int .i64 k ∧ c = .int .i64 β ∧ Hid (AddD w wr o l m q k β)) (fun _ _ i _ => max l.length m.length + 1 - (intOf i).toNat)
  case atStart => exact ⟨0, [], 0, by omega, rfl, rfl, Lib.hid ⟨OwnI.nil _ _, rfl, Nd.Dg.nil, by simp [Nd.V], by omega, by omega, fun _ _ => rfl, Below.refl _ _⟩⟩
  case round =>
    obtain ⟨k, q, β, hk, rfl, rfl, HS⟩ := hrel
    have i0 : (0 : Int) ≤ (k : Int) := by omega
    by_cases hex : l.length ≤ k ∧ m.length ≤ k ∧ β = 0
    · obtain ⟨h1, h2, rfl⟩ := hex
      have hN := HS.out.done h1 h2 (L := L) (by omega) HAV.out HBV.out
      have HN := Lib.hid hN
      have HBL := Lib.hid HS.out.bel
      have j1 : (l.length : Int) ≤ (k : Int) := by omega
      have j2 : (m.length : Int) ≤ (k : Int) := by omega
      clear h1 h2 hN
      go_wp2_with fail
      go_ret
      exact ⟨_, rfl, HN.out, HBL.out⟩
    · have b0 := HS.out.b0
      have b1 := HS.out.b1
      have hkb : k ≤ max l.length m.length := by
        rcases Nat.lt_or_ge (max l.length m.length) k with h | h
        · exact absurd ⟨by omega, by omega, HS.out.end' (by omega) (by omega)⟩ hex
        · exact h
      have HSZ := Lib.hid HS.out.bel.size
      have HLN := Lib.hid HS.out.len
      have hcond : (decide (k < l.length) || decide (k < m.length) || decide (0 < β)) = true := by
        simp only [Bool.or_eq_true, decide_eq_true_eq]
        omega
      have d1 := HAD.out.at k
      have d2 := HBD.out.at k
      by_cases c1 : k < l.length
      · obtain ⟨g, rfl, hg, hc⟩ := HA.out.cell k c1
        have hc1 := (bcell HS.out.bel g k hg).trans hc
        obtain ⟨z, hz⟩ : ∃ z, l.getD k 0 = z := ⟨_, rfl⟩
        rw [hz] at hc1 d1
        have HZ := Lib.hid hz
        have j1 : (k : Int) < (l.length : Int) := by omega
        by_cases c2 : k < m.length
        · obtain ⟨g2, rfl, hg2, hc2⟩ := HB.out.cell k c2
          have hc3 := (bcell HS.out.bel g2 k hg2).trans hc2
          obtain ⟨u, hu⟩ : ∃ u, m.getD k 0 = u := ⟨_, rfl⟩
          rw [hu] at hc3 d2
          have HU := Lib.hid hu
          have j2 : (k : Int) < (m.length : Int) := by omega
          have HST := Lib.hid (fun o' w' (ho : OwnI w' w.heap.size o' (q ++ [(β + z + u) % 10000])) (hb : Below w.heap.size wr w') => HS.out.step (w' := w') HAD.out HBD.out HZ.out HU.out rfl ho (HS.out.bel.trans hb))
          have i1 : 0 ≤ β + z + u := by omega
          clear hc hc2 hz hu hex
          go_wp2_with (at_builtin; refine wpList_app _ rfl _ _ rfl w.heap.size _ q rfl HS.out.own _ rfl (by rw [HLN.out]; omega) HSZ.out ?_; intro v' w' ho hb'; have HST' := Lib.hid (HST.out v' w' ho hb'); clear ho hb')
          all_goals exact ⟨⟨k + 1, _, _, by omega, by go_num, rfl, HST'⟩, by simp [intOf]; omega⟩
        · have HU := Lib.hid (getD_out m k (by omega))
          have j2 : (m.length : Int) ≤ (k : Int) := by omega
          have HST := Lib.hid (fun o' w' (ho : OwnI w' w.heap.size o' (q ++ [(β + z) % 10000])) (hb : Below w.heap.size wr w') => HS.out.step (w' := w') HAD.out HBD.out HZ.out HU.out (Int.add_zero _) ho (HS.out.bel.trans hb))
          have i1 : 0 ≤ β + z := by omega
          clear hc hz hex d2
          go_wp2_with (at_builtin; refine wpList_app _ rfl _ _ rfl w.heap.size _ q rfl HS.out.own _ rfl (by rw [HLN.out]; omega) HSZ.out ?_; intro v' w' ho hb'; have HST' := Lib.hid (HST.out v' w' ho hb'); clear ho hb')
          all_goals exact ⟨⟨k + 1, _, _, by omega, by go_num, rfl, HST'⟩, by simp [intOf]; omega⟩
      · have HZ := Lib.hid (getD_out l k (by omega))
        have j1 : (l.length : Int) ≤ (k : Int) := by omega
        by_cases c2 : k < m.length
        · obtain ⟨g2, rfl, hg2, hc2⟩ := HB.out.cell k c2
          have hc3 := (bcell HS.out.bel g2 k hg2).trans hc2
          obtain ⟨u, hu⟩ : ∃ u, m.getD k 0 = u := ⟨_, rfl⟩
          rw [hu] at hc3 d2
          have HU := Lib.hid hu
          have j2 : (k : Int) < (m.length : Int) := by omega
          have HST := Lib.hid (fun o' w' (ho : OwnI w' w.heap.size o' (q ++ [(β + u) % 10000])) (hb : Below w.heap.size wr w') => HS.out.step (w' := w') HAD.out HBD.out HZ.out HU.out (by omega) ho (HS.out.bel.trans hb))
          have i1 : 0 ≤ β + u := by omega
          clear hc2 hu hex d1
          go_wp2_with (at_builtin; refine wpList_app _ rfl _ _ rfl w.heap.size _ q rfl HS.out.own _ rfl (by rw [HLN.out]; omega) HSZ.out ?_; intro v' w' ho hb'; have HST' := Lib.hid (HST.out v' w' ho hb'); clear ho hb')
          all_goals exact ⟨⟨k + 1, _, _, by omega, by go_num, rfl, HST'⟩, by simp [intOf]; omega⟩
        · have HU := Lib.hid (getD_out m k (by omega))
          have j2 : (m.length : Int) ≤ (k : Int) := by omega
          have j3 : 0 < β := by omega
          have HST := Lib.hid (fun o' w' (ho : OwnI w' w.heap.size o' (q ++ [β % 10000])) (hb : Below w.heap.size wr w') => HS.out.step (w' := w') HAD.out HBD.out HZ.out HU.out (by omega) ho (HS.out.bel.trans hb))
          clear hex d1 d2
          go_wp2_with (at_builtin; refine wpList_app _ rfl _ _ rfl w.heap.size _ q rfl HS.out.own _ rfl (by rw [HLN.out]; omega) HSZ.out ?_; intro v' w' ho hb'; have HST' := Lib.hid (HST.out v' w' ho hb'); clear ho hb')
          all_goals exact ⟨⟨k + 1, _, _, by omega, by go_num, rfl, HST'⟩, by simp [intOf]; omega⟩

/-! ### times -/
structure MulD (W w : World) (o : Value) (l q : List Int) (c : Int) (k : Nat) (β : Int) : Prop where
  own : OwnI w W.heap.size o q
  len : q.length = k
  dg : Nd.Dg q
  val : Nd.V q + β * Nd.Bp k = c * Nd.V (l.take k)
  b0 : 0 ≤ β
  b1 : β ≤ 9999
  end' : l.length < k → β = 0
  bel : Below W.heap.size W w
theorem MulD.step {W w w' : World} {o o' : Value} {l q : List Int} {c t : Int} {k : Nat} {β z n : Int} (h : MulD W w o l q c k β) (hl : Nd.Dg l) (hc0 : 0 ≤ c) (hc1 : c ≤ 10000) (hz : l.getD k 0 = z) (ht : z * c = t) (hn : β + t = n)
    (ho : OwnI w' W.heap.size o' (q ++ [n % 10000])) (hb : Below W.heap.size W w') : MulD W w' o' l (q ++ [n % 10000]) c (k + 1) (n / 10000) := by
  have d1 := hl.at k
  rw [hz] at d1
  have h0 := h.b0
  have h1 := h.b1
  have t0 : 0 ≤ t := ht ▸ Int.mul_nonneg d1.1 hc0
  have t1 : t ≤ 9999 * 10000 := ht ▸ Int.mul_le_mul (by omega) hc1 hc0 (by omega)
  refine ⟨ho, by simp [h.len], h.dg.snoc (by omega) (by omega), ?_, by omega, by omega, fun e1 => ?_, hb⟩
  · rw [dacc (x := t) h.len h.val (by omega), Nd.V_take, hz, ← ht]
    grind
  · have e3 := getD_out l k (by omega)
    rw [hz] at e3
    rw [e3, Int.zero_mul] at ht
    omega
theorem MulD.done {W w : World} {o : Value} {l q : List Int} {c : Int} {k L : Nat} {x : Int} (h : MulD W w o l q c k 0) (h1 : l.length ≤ k) (hk : k ≤ L) (hx : Nd.V l = x) : NumD w o L (c * x) := by
  obtain ⟨A, cap, rfl, a1, a2, a3⟩ := h.own.db
  have hv := h.val
  rw [List.take_of_length_le h1, hx, Int.zero_mul, Int.add_zero] at hv
  exact ⟨A, cap, q, rfl, a1, h.dg, by rw [h.len]; exact hk, hv, a2, a3⟩
set_option maxRecDepth 100000 in
set_option maxHeartbeats 4000000 in
theorem rtimes_any (a : Value) (c : Int) (La L : Nat) (x : Int) (w : World) (hr : NumD w a La x) (hc0 : 0 ≤ c) (hc1 : c ≤ 10000) (hl : La + 1 ≤ L) (hL : L ≤ 100000) :
    Calls Try.prog 96 #[a, .int .i64 c] w (PostC L (c * x) w) := by
  obtain ⟨i0, hi, hz0, hz1, hz2⟩ := info_parts infoInt
  obtain ⟨A, ca, l, rfl, hA, hAd, hAl, hAv, hAc, hAm⟩ := hr
  have HA := Lib.hid hA; have HAD := Lib.hid hAd; have HAV := Lib.hid hAv
  clear hA hAd hAv
  go_enter Try.func96, Try.ntmps96
  go_wp2_with fail
  go_loopw [5, 6, 7] (fun o b i wr => ∃ (k : Nat) (q : List Int) (β : Int), k ≤ l.length + 1 ∧ i = .int .i64 k ∧ b = .int .i64 β ∧ Hid (MulD w wr o l q c k β)) (fun _ _ i _ => l.length + 1 - (intOf i).toNat)
  case atStart => exact ⟨0, [], 0, by omega, rfl, rfl, Lib.hid ⟨OwnI.nil _ _, rfl, Nd.Dg.nil, by simp [Nd.V], by omega, by omega, fun _ => rfl, Below.refl _ _⟩⟩
  case round =>
    obtain ⟨k, q, β, hk, rfl, rfl, HS⟩ := hrel
    have i0 : (0 : Int) ≤ (k : Int) := by omega
    by_cases hex : l.length ≤ k ∧ β = 0
    · obtain ⟨h1, rfl⟩ := hex
      have hT := trim_num _ _ _ _ (HS.out.done h1 (L := L) (by omega) HAV.out)
      have HT := Lib.hid hT
      have HBL := Lib.hid HS.out.bel
      have j1 : (l.length : Int) ≤ (k : Int) := by omega
      clear h1 hT
      go_wp2_with (go_at_call 90; (with_reducible refine HT.out.mono ?_); rintro e w' ⟨v', rfl, hn, rfl⟩; have HN := Lib.hid hn; clear hn)
      go_ret
      exact ⟨v', rfl, HN.out, HBL.out⟩
    · have b0 := HS.out.b0
      have b1 := HS.out.b1
      have hkb : k ≤ l.length := by
        rcases Nat.lt_or_ge l.length k with h | h
        · exact absurd ⟨by omega, HS.out.end' (by omega)⟩ hex
        · exact h
      have HSZ := Lib.hid HS.out.bel.size
      have HLN := Lib.hid HS.out.len
      by_cases c1 : k < l.length
      · obtain ⟨g, rfl, hg, hc⟩ := HA.out.cell k c1
        have hc2 := (bcell HS.out.bel g k hg).trans hc
        have d1 := HAD.out.at k
        obtain ⟨z, hz⟩ : ∃ z, l.getD k 0 = z := ⟨_, rfl⟩
        rw [hz] at hc2 d1
        have HZ := Lib.hid hz
        obtain ⟨t, ht⟩ : ∃ t, z * c = t := ⟨_, rfl⟩
        have t0 : 0 ≤ t := ht ▸ Int.mul_nonneg d1.1 hc0
        have t1 : t ≤ 99990000 := ht ▸ (show z * c ≤ 9999 * 10000 from Int.mul_le_mul (by omega) hc1 hc0 (by omega))
        have j1 : (k : Int) < (l.length : Int) := by omega
        have HST := Lib.hid (fun o' w' (ho : OwnI w' w.heap.size o' (q ++ [(β + t) % 10000])) (hb : Below w.heap.size wr w') => HS.out.step (w' := w') HAD.out hc0 hc1 HZ.out ht rfl ho (HS.out.bel.trans hb))
        have i1 : 0 ≤ β + t := by omega
        clear hc hz hex
        go_wp2_with (at_builtin; refine wpList_app _ rfl _ _ rfl w.heap.size _ q rfl HS.out.own _ rfl (by rw [HLN.out]; omega) HSZ.out ?_; intro v' w' ho hb'; have HST' := Lib.hid (HST.out v' w' ho hb'); clear ho hb')
        all_goals exact ⟨⟨k + 1, _, _, by omega, by go_num, rfl, HST'⟩, by simp [intOf]; omega⟩
      · have HZ := Lib.hid (getD_out l k (by omega))
        have j1 : (l.length : Int) ≤ (k : Int) := by omega
        have j3 : 0 < β := by omega
        have HST := Lib.hid (fun o' w' (ho : OwnI w' w.heap.size o' (q ++ [β % 10000])) (hb : Below w.heap.size wr w') => HS.out.step (w' := w') HAD.out hc0 hc1 HZ.out (Int.zero_mul c) (Int.add_zero β) ho (HS.out.bel.trans hb))
        clear hex
        go_wp2_with (at_builtin; refine wpList_app _ rfl _ _ rfl w.heap.size _ q rfl HS.out.own _ rfl (by rw [HLN.out]; omega) HSZ.out ?_; intro v' w' ho hb'; have HST' := Lib.hid (HST.out v' w' ho hb'); clear ho hb')
        all_goals exact ⟨⟨k + 1, _, _, by omega, by go_num, rfl, HST'⟩, by simp [intOf]; omega⟩

end Go.Proofs.Ytgbifcfdbelfpaa
