/-
  The reference's add.
-/
import Derived.Test.YtgcfmkelanhdhaaDoorNatRef0
namespace Go.Proofs.YtgcfmkelanhdhaaDoor
open Go.RowKit
set_option linter.unusedVariables false

theorem bacc {d : List Int} {k : Nat} {c x lo hi X : Int} (hd : d.length = k) (h : Nb.V d + c * Nb.Bp k = X) (e : x + c = lo + 2 * hi) : Nb.V (d ++ [lo]) + hi * Nb.Bp (k + 1) = X + Nb.Bp k * x := by
  rw [Nb.V_snoc, hd, show Nb.Bp (k + 1) = 2 * Nb.Bp k from rfl]
  grind
/-- moved up -/
abbrev upl (up : Nat) (m : List Int) : List Int := List.replicate up (0 : Int) ++ m
theorem upl_get (up : Nat) (m : List Int) (j : Nat) : (upl up m).getD j 0 = if j < up then 0 else m.getD (j - up) 0 := by
  rw [List.getD_eq_getElem?_getD]
  split
  · rename_i h
    rw [List.getElem?_append_left (by simpa using h)]
    simp [h]
  · rename_i h
    rw [List.getElem?_append_right (by simp; omega)]
    simp [List.getD_eq_getElem?_getD]
theorem getD_out (l : List Int) (k : Nat) (h : l.length ≤ k) : l.getD k 0 = 0 := by
  rw [List.getD_eq_getElem?_getD, List.getElem?_eq_none h]; rfl
/-- so far: the bits q, and what is carried -/
structure AddB (W w : World) (o : Value) (l M q : List Int) (k : Nat) (β : Int) : Prop where
  own : OwnI w W.heap.size o q
  len : q.length = k
  dg : Nb.Dg q
  val : Nb.V q + β * Nb.Bp k = Nb.V (l.take k) + Nb.V (M.take k)
  b0 : 0 ≤ β
  b1 : β ≤ 1
  end' : l.length < k → M.length < k → β = 0
  bel : Below W.heap.size W w
theorem AddB.step {W w w' : World} {o o' : Value} {l M q : List Int} {k : Nat} {β z u n : Int} (h : AddB W w o l M q k β) (hl : Nb.Dg l) (hM : Nb.Dg M) (hz : l.getD k 0 = z) (hu : M.getD k 0 = u) (hn : z + β + u = n)
    (ho : OwnI w' W.heap.size o' (q ++ [n % 2])) (hb : Below W.heap.size W w') : AddB W w' o' l M (q ++ [n % 2]) (k + 1) (n / 2) := by
  have d1 := hl.at k
  have d2 := hM.at k
  rw [hz] at d1
  rw [hu] at d2
  have h0 := h.b0
  have h1 := h.b1
  refine ⟨ho, by simp [h.len], h.dg.snoc (by omega) (by omega), ?_, by omega, by omega, fun e1 e2 => ?_, hb⟩
  · rw [bacc (x := z + u) h.len h.val (by omega), Nb.V_take, Nb.V_take, hz, hu]
    grind
  · have e3 := getD_out l k (by omega)
    have e4 := getD_out M k (by omega)
    rw [hz] at e3
    rw [hu] at e4
    omega
set_option maxRecDepth 100000 in
set_option maxHeartbeats 4000000 in
theorem radd_any (A B : Option Addr) (ca cb up : Nat) (l m : List Int) (x y : Int) (w : World) (hr : NumB w A l x) (hs : NumB w B m y) (hl : l.length ≤ 40000) (hm : m.length + up ≤ 40000) :
    Calls Tryd.prog 55 #[.slice A l.length ca, .slice B m.length cb, .int .i64 up] w (PostBn (x + Nb.Bp up * y) w) := by
  obtain ⟨i0, hi, hz0, hz1, hz2⟩ := info_parts infoInt
  obtain ⟨M, hM⟩ : ∃ M, upl up m = M := ⟨_, rfl⟩
  have hMl : M.length = m.length + up := by rw [← hM]; simp; omega
  have hMd : Nb.Dg M := by rw [← hM]; exact Nb.Dg.append.2 ⟨Nb.Dg.rep up, hs.can.dg⟩
  have hMv : Nb.V M = Nb.Bp up * y := by rw [← hM, Nb.V_append, Nb.V_rep, List.length_replicate, hs.val]; omega
  have hMg := fun k => upl_get up m k
  rw [hM] at hMg
  have HMG := Lib.hid hMg; have HMD := Lib.hid hMd; have HMV := Lib.hid hMv; have HML := Lib.hid hMl
  clear hM hMg hMd hMv hMl
  have Hr := Lib.hid hr; have Hs := Lib.hid hs; clear hr hs
  go_enter Tryd.func55, Tryd.ntmps55
  go_wp2_with fail
  go_loopw [7, 8, 9] (fun o c i wr => ∃ (k : Nat) (q : List Int) (β : Int), k ≤ max l.length (m.length + up) + 1 ∧ i = .int .i64 k ∧ c = .int .i64 β ∧ Hid (AddB w wr o l M q k β)) (fun _ _ i _ => max l.length (m.length + up) + 1 - (intOf i).toNat)
  case atStart => exact ⟨0, [], 0, by omega, rfl, rfl, Lib.hid ⟨OwnI.nil _ _, rfl, Nb.Dg.nil, by simp [Nb.V], by omega, by omega, fun _ _ => rfl, Below.refl _ _⟩⟩
  case round =>
    obtain ⟨k, q, β, hk, rfl, rfl, HS⟩ := hrel
    by_cases hex : l.length ≤ k ∧ m.length + up ≤ k ∧ β = 0
    · obtain ⟨h1, h2, rfl⟩ := hex
      have hv := HS.out.val
      rw [List.take_of_length_le h1, List.take_of_length_le (by rw [HML.out]; exact h2), Hr.out.val, HMV.out, Int.zero_mul, Int.add_zero] at hv
      have hT := trim_bn HS.out.own HS.out.dg (by rw [HS.out.len]; omega) hv HS.out.bel
      have HT := Lib.hid hT; clear hv hT
      have j1 : (l.length : Int) ≤ (k : Int) := by omega
      have j2 : (m.length : Int) + (up : Int) ≤ (k : Int) := by omega
      clear h1 h2
      go_wp2_with (go_at_call 69; (with_reducible refine HT.out.mono ?_); rintro e w' ⟨A', c', l', rfl, hp⟩; have HP := Lib.hid hp; clear hp)
      go_ret
      exact ⟨A', c', l', rfl, HP.out⟩
    · have hrw := Hr.out.below HS.out.bel
      have hsw := Hs.out.below HS.out.bel
      have h1 := at_any A ca l k wr hrw.rd (by omega)
      have d1 := hrw.can.dg.at k
      obtain ⟨z, hz⟩ : ∃ z, l.getD k 0 = z := ⟨_, rfl⟩
      rw [hz] at h1 d1
      have H1 := Lib.hid h1; have HZ := Lib.hid hz
      obtain ⟨d10, d11⟩ := d1
      have b0 := HS.out.b0
      have b1 := HS.out.b1
      have hkb : k ≤ max l.length (m.length + up) := by
        rcases Nat.lt_or_ge (max l.length (m.length + up)) k with h | h
        · exact absurd ⟨by omega, by omega, HS.out.end' (by omega) (by rw [HML.out]; omega)⟩ hex
        · exact h
      have hcond : (decide (k < l.length) || decide ((k : Int) < (m.length : Int) + (up : Int)) || decide (0 < β)) = true := by
        simp only [Bool.or_eq_true, decide_eq_true_eq]
        omega
      clear h1 hz hrw hex
      by_cases hup : up ≤ k
      · obtain ⟨j, hj⟩ : ∃ j : Nat, (j : Int) = (k : Int) - (up : Int) := ⟨k - up, by omega⟩
        have h2 : Calls Tryd.prog 54 #[.slice B m.length cb, .int .i64 ((k : Int) - (up : Int))] wr fun e w' => e = .returned (.int .i64 (m.getD j 0)) ∧ wr = w' := by
          rw [← hj]; exact at_any B cb m j wr hsw.rd (by omega)
        have d2 := hsw.can.dg.at j
        obtain ⟨u, hu⟩ : ∃ u, m.getD j 0 = u := ⟨_, rfl⟩
        rw [hu] at h2 d2
        have HU := Lib.hid (show M.getD k 0 = u by rw [HMG.out, if_neg (by omega), show k - up = j by omega, hu])
        have H2 := Lib.hid h2
        obtain ⟨d20, d21⟩ := d2
        have i0 : (up : Int) ≤ (k : Int) := by omega
        have i1 : 0 ≤ z + β + u := by omega
        clear h2 hu hsw hj
        have HST := Lib.hid (fun o' w' (ho : OwnI w' w.heap.size o' (q ++ [(z + β + u) % 2])) (hb : Below w.heap.size wr w') => HS.out.step (w' := w') Hr.out.can.dg HMD.out HZ.out HU.out rfl ho (HS.out.bel.trans hb))
        have HSZ := Lib.hid HS.out.bel.size
        have HLN := Lib.hid HS.out.len
        go_wp2_with (first
          | (go_at_call 54; (with_reducible refine H1.out.mono ?_); rintro e w' ⟨rfl, rfl⟩)
          | (go_at_call 54; (with_reducible refine H2.out.mono ?_); rintro e w' ⟨rfl, rfl⟩)
          | (at_builtin; refine wpList_app _ rfl _ _ rfl w.heap.size _ q rfl HS.out.own _ rfl (by rw [HLN.out]; omega) HSZ.out ?_; intro v' w' ho hb'; have HST' := Lib.hid (HST.out v' w' ho hb'); clear ho hb'))
        all_goals exact ⟨⟨k + 1, _, _, by omega, by go_num, rfl, HST'⟩, by simp [intOf]; omega⟩
      · have i0 : (k : Int) < (up : Int) := by omega
        have i1 : 0 ≤ z + β := by omega
        have HU := Lib.hid (show M.getD k 0 = 0 by rw [HMG.out, if_pos (by omega)])
        clear hsw
        have HST := Lib.hid (fun o' w' (ho : OwnI w' w.heap.size o' (q ++ [(z + β) % 2])) (hb : Below w.heap.size wr w') => HS.out.step (w' := w') Hr.out.can.dg HMD.out HZ.out HU.out (Int.add_zero _) ho (HS.out.bel.trans hb))
        have HSZ := Lib.hid HS.out.bel.size
        have HLN := Lib.hid HS.out.len
        go_wp2_with (first
          | (go_at_call 54; (with_reducible refine H1.out.mono ?_); rintro e w' ⟨rfl, rfl⟩)
          | (at_builtin; refine wpList_app _ rfl _ _ rfl w.heap.size _ q rfl HS.out.own _ rfl (by rw [HLN.out]; omega) HSZ.out ?_; intro v' w' ho hb'; have HST' := Lib.hid (HST.out v' w' ho hb'); clear ho hb'))
        all_goals exact ⟨⟨k + 1, _, _, by omega, by go_num, rfl, HST'⟩, by simp [intOf]; omega⟩

end Go.Proofs.YtgcfmkelanhdhaaDoor
