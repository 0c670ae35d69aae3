/-
  The walk of nat.Mul.
-/
import Derived.Test.YtgbifcfdbelfpaaNatAcc
namespace Go.Proofs.Ytgbifcfdbelfpaa
open Go.RowKit
set_option linter.unusedVariables false

/-- i rows are added up -/
structure Rows (W w : World) (g i lb N : Nat) (m : List Int) (X : Int) : Prop where
  blk : Blk w g [] m []
  len : m.length = N
  dg : Na.Dg m
  val : Na.V m = X
  zero : ∀ j, i + lb ≤ j → m.getD j 0 = 0
  frm : W.grownBy w (some g)
theorem mul_bd {u v : Int} (u0 : 0 ≤ u) (u1 : u < 4294967296) (v0 : 0 ≤ v) (v1 : v < 4294967296) : 0 ≤ v * u ∧ v * u ≤ 18446744065119617025 := by
  refine ⟨Int.mul_nonneg v0 u0, ?_⟩
  have : v * u ≤ 4294967295 * 4294967295 := Int.mul_le_mul (by omega) (by omega) u0 (by omega)
  omega
theorem rows_next {W w w1 : World} {g i lb N : Nat} {m q : List Int} {X c u Vb : Int} (h : Rows W w g i lb N m X) (hq : q.length = i + lb) (hN : i + lb < N) (hb : Blk w1 g [] (q ++ m.drop q.length) []) (hg : W.grownBy w1 (some g))
    (hd : Na.Dg q) (c0 : 0 ≤ c) (c1 : c < 4294967296) (hv : Na.V q + c * Na.Bp q.length = Na.V (m.take q.length) + u * Vb * Na.Bp i) :
    Rows W (w1.setCell ⟨g, i + lb, none⟩ (.int .u32 c)) g (i + 1) lb N (q ++ [c] ++ m.drop (q.length + 1)) (X + u * Vb * Na.Bp i) := by
  have hz1 := V_zeros h.zero
  have hz2 := V_zeros (k := i + lb + 1) (fun j hj => h.zero j (by omega))
  have hsp := Na.V_split m (i + lb) (by rw [h.len]; omega)
  rw [hz1, h.val] at hsp
  refine ⟨?_, ?_, ?_, ?_, ?_, ?_⟩
  · have := hb.set q.length (by simp; rw [h.len]; omega) c (i := i + lb) (by simp [hq])
    rwa [Na.set_win rfl (by rw [h.len]; omega)] at this
  · simp [h.len]; omega
  · exact Na.Dg.append.2 ⟨hd.snoc c0 c1, h.dg.drop _⟩
  · rw [Na.V_append, Na.V_snoc, hq, hz2]
    rw [hq] at hv
    grind
  · intro j hj
    have := Na.get_win (d := q ++ [c]) (m := m) (k := q.length + 1) (j - (q.length + 1)) (by simp)
    rw [show q.length + 1 + (j - (q.length + 1)) = j by omega] at this
    rw [this]
    exact h.zero j (by omega)
  · exact grown_then hg (grown_set _ _ _) (fun k hk => by cases hk; exact .inr rfl)

set_option maxRecDepth 100000 in
set_option maxHeartbeats 2000000 in
theorem mul_any (A B : Option Addr) (ca cb : Nat) (l m : List Int) (x y : Int) (w : World) (hr : Num w A l x) (hs : Num w B m y) :
    Calls Try.prog 35 #[.slice A l.length ca, .slice B m.length cb] w (PostSum (x * y) w) := by
  have hl1 := hr.len
  have hm1 := hs.len
  have hq := right_any A ca l w hr.rd (by omega)
  have hp := right_any B cb m w hs.rd (by omega)
  rw [hr.rgt] at hq
  rw [hs.rgt] at hp
  have HQ := Lib.hid hq; have HP := Lib.hid hp; clear hq hp
  obtain ⟨N, hN⟩ : ∃ N, l.length + m.length = N := ⟨_, rfl⟩
  have e1 : ((l.length : Nat) : Int) + (m.length : Nat) = (N : Int) := by omega
  have HN := Lib.hid hN
  have Hr := Lib.hid hr; have Hs := Lib.hid hs; clear hr hs
  go_enter Try.func35, Try.ntmps35
  go_wp2_with (first
    | (go_at_call 59; (with_reducible refine HQ.out.mono ?_); rintro e w' ⟨rfl, rfl⟩)
    | (go_at_call 59; (with_reducible refine HP.out.mono ?_); rintro e w' ⟨rfl, rfl⟩)
    | (at_make; refine wpList_mk _ rfl _ _ rfl N _ _ rfl rfl ?c1 ?c2 ?c3 ?_))
  case c1 => first | rfl | omega
  case c2 => first | rfl | omega
  case c3 => omega
  intro w1 hB hG
  have hst : Rows w w1 w.heap.size 0 m.length N (List.replicate N 0) 0 :=
    ⟨hB, by simp, Na.Dg.rep N, Na.V_rep N, fun j _ => by rw [List.getD_eq_getElem?_getD, List.getElem?_replicate]; split <;> rfl, grown_then hG (grown_refl _ none) (fun j hj => by cases hj) |>.but _⟩
  have HST := Lib.hid hst; clear hst hB hG HQ HP hN e1
  go_wp2_with fail
  go_loopw [28] (fun i wr => ∃ (k : Nat) (M : List Int), k ≤ l.length ∧ i = .int .i64 k ∧ Hid (Rows w wr w.heap.size k m.length N M (Na.V (l.take k) * y))) (fun i _ => l.length - (intOf i).toNat)
  case atStart => exact ⟨0, _, by omega, rfl, Lib.hid (by simpa [Na.V] using HST.out)⟩
  case round =>
    obtain ⟨k, M, hk, rfl, HR⟩ := hrel
    by_cases h0 : k = l.length
    · have h := HR.out
      rw [h0, List.take_length, Hr.out.val] at h
      have hrd := h.blk.rd rfl
      have hbd := bounded_any (some ⟨w.heap.size, 0, none⟩) N M wr hrd (by rw [h.len]; omega) (by have := HN.out; omega)
      have hcan := Na.Can.mk' h.dg
      have hv : Na.V (Na.trm M) = x * y := by rw [Na.V_trm, h.val]
      have hl2 : (Na.trm M).length ≤ 1024 ↔ x * y < Na.Bp 1024 := by rw [hcan.len_iff, hv]
      have hrt := rdk_trm hrd
      rw [h.len] at hbd
      generalize Na.trm M = t at *
      have HBD := Lib.hid hbd; have HRT := Lib.hid hrt; have HF := Lib.hid ((Below.refl w.heap.size w).grown h.frm (Nat.le_refl _) (fun k hk => by cases hk; exact Nat.le_refl _)); have HL := Lib.hid hl2
      clear hbd hrt h hrd hl2
      by_cases hc : t.length ≤ 1024
      · go_wp2_with (go_at_call 62; (with_reducible refine HBD.out.mono ?_); rintro e w3 ⟨h3, rfl⟩; rcases h3 with ⟨-, rfl⟩ | ⟨h3, -⟩; rotate_left; exact absurd hc (by omega))
        go_ret2
        exact .inl ⟨HL.out.1 hc, _, _, t, rfl, ⟨HRT.out, hcan, hc, hv⟩, HF.out⟩
      · go_wp2_with (go_at_call 62; (with_reducible refine HBD.out.mono ?_); rintro e w3 ⟨h3, rfl⟩; rcases h3 with ⟨h3, -⟩ | ⟨-, rfl⟩; exact absurd h3 hc)
        go_ret2
        exact .inr ⟨fun z => hc (HL.out.2 z), rfl, HF.out⟩
    · have hB := (Below.refl w.heap.size w).grown HR.out.frm (Nat.le_refl _) (fun k hk => by cases hk; exact Nat.le_refl _)
      obtain ⟨b1, off1, rfl, hbl, hc⟩ := (Hr.out.below hB).rd (by omega)
      have hc1 := hc k (by omega); clear hc
      obtain ⟨u0, u1⟩ := Hr.out.can.dg.at k
      have hvk := Na.V_take l k
      generalize l.getD k 0 = u at *
      have i0 : (0 : Int) ≤ (k : Int) := by omega
      have i1 : (k : Int) < (l.length : Int) := by omega
      have HVK := Lib.hid hvk
      have hkN : k + m.length < N := by have := HN.out; omega
      clear h0 hvk
      go_wp2_with (go_at_call 60; refine (carrying_any _ _).mono ?_; rintro e w2 ⟨rfl, h2⟩; have H2 := Lib.hid h2; clear h2)
      obtain ⟨b, hb⟩ : ∃ b, wr.heap.size = b := ⟨_, rfl⟩
      rw [hb]
      have hA : AccW w w2 w.heap.size b [] [] M (M.take k) 0 (Na.V (M.take k) + 0 * Na.Bp k) := by
        subst hb
        have h2 := H2.out
        subst h2
        exact AccW.start HR.out.blk HR.out.frm HR.out.frm.size k (by rw [HR.out.len]; omega) (HR.out.dg.take k) (by omega) (by omega)
      have hlt := HR.out.blk.lt
      have hgb : w.heap.size ≠ b := by omega
      have hbw : w.heap.size ≤ b := by omega
      have HA := Lib.hid hA; clear hA H2 hlt hb hB
      go_loopw [36] (fun i wi => ∃ (j : Nat) (q : List Int) (c : Int), j ≤ m.length ∧ i = .int .i64 j ∧ Hid (q.length = k + j) ∧ Hid (AccW w wi w.heap.size b [] [] M q c (Na.V (M.take (k + j)) + u * Na.V (m.take j) * Na.Bp k))) (fun i _ => m.length - (intOf i).toNat)
      case atStart => exact ⟨0, M.take k, 0, by omega, rfl, Lib.hid (by rw [List.length_take, HR.out.len]; omega), Lib.hid (by simpa [Na.V] using HA.out)⟩
      case round =>
        obtain ⟨j, q, c, hj, rfl, HQ, HS⟩ := hrel
        by_cases h0 : j = m.length
        · subst h0
          have hS := HS.out
          have nx := next_any 0 c b wr hS.one (by omega) hS.c0 (by have := hS.c1; omega)
          rw [Int.zero_add, Int.emod_eq_of_lt hS.c0 hS.c1] at nx
          have ls := fun w3 => hS.last (w1 := w3) hgb hbw
          have hval := hS.val
          rw [List.take_length, Hs.out.val, ← HQ.out] at hval
          have rn := fun w3 hb3 hg3 => rows_next (w1 := w3) HR.out HQ.out hkN hb3 hg3 hS.dg hS.c0 hS.c1 hval
          have hcc := fun w3 (hgr : wr.grownBy w3 (some b)) => hS.cell hgr (by simpa using hgb) (k + m.length) (by rw [HQ.out]; omega) (by rw [HR.out.len]; omega) (i := k + m.length) (by simp)
          have hcf := fun w3 (hgr : wr.grownBy w3 (some b)) => hS.free hgr (by simpa using hgb) (k + m.length)
          have NX := Lib.hid nx; have LS := Lib.hid ls; have RN := Lib.hid rn; have HCC := Lib.hid hcc; have HCF := Lib.hid hcf
          have j0 : (0 : Int) ≤ (k : Int) + (m.length : Int) := by omega
          have j1 : (k : Int) + (m.length : Int) < (N : Int) := by omega
          clear nx ls hval rn hS hcc hcf
          go_wp2_with (go_at_call 82; (with_reducible refine NX.out.mono ?_); rintro e w3 ⟨rfl, -, hgr⟩; have hd1 := HCC.out w3 hgr; have hd2 := HCF.out w3 hgr; have HST := Lib.hid (RN.out w3 (LS.out w3 hgr).1 (LS.out w3 hgr).2); clear hgr)
          have hst := HST.out
          rw [show Na.V (l.take k) * y + u * y * Na.Bp k = Na.V (l.take (k + 1)) * y by rw [HVK.out]; grind] at hst
          exact ⟨⟨k + 1, _, by omega, by go_num, Lib.hid hst⟩, by simp [intOf]; omega⟩
        · have hS := HS.out
          have hB := (Below.refl w.heap.size w).grown hS.frm (Nat.le_refl _) (fun k hk => by cases hk; exact Nat.le_refl _)
          obtain ⟨b2, off2, rfl, hbl2, hc⟩ := (Hs.out.below hB).rd (by omega)
          have hc3 := hc j (by omega); clear hc
          obtain ⟨v0, v1⟩ := Hs.out.can.dg.at j
          obtain ⟨z0, z1⟩ := HR.out.dg.at (k + j)
          have hvj := Na.V_take m j
          have hzj := Na.V_take M (k + j)
          have hbp := Na.Bp_add k j
          obtain ⟨n0, n1⟩ := mul_bd u0 u1 v0 v1
          have hc4 := hS.cell (grown_refl wr none) (by simp) (k + j) (by rw [HQ.out]; omega) (by rw [HR.out.len]; omega) (i := k + j) (by simp)
          have hcc := fun w3 (hgr : wr.grownBy w3 (some b)) => hS.cell hgr (by simpa using hgb) (k + j) (by rw [HQ.out]; omega) (by rw [HR.out.len]; omega) (i := k + j) (by simp)
          have hcf := fun w3 (hgr : wr.grownBy w3 (some b)) => hS.free hgr (by simpa using hgb) (k + j)
          generalize m.getD j 0 = v at *
          generalize M.getD (k + j) 0 = z at *
          have nx := next_any (v * u + z) c b wr hS.one (by omega) hS.c0 (by have := hS.c1; omega)
          have st := fun w3 => hS.step (w1 := w3) (x := v * u + z) (by rw [HQ.out, HR.out.len]; omega) (by omega) (by omega) hgb hbw (i := k + j) (hi := by simp [HQ.out])
          have f1 : IntKind.u64.wrap (v * u) = v * u := u64_in _ n0 (by omega)
          have f2 : IntKind.u64.wrap (v * u + z) = v * u + z := u64_in _ (by omega) (by omega)
          have NX := Lib.hid nx; have ST := Lib.hid st; have HCC := Lib.hid hcc; have HCF := Lib.hid hcf; have HV := Lib.hid (And.intro hvj (And.intro hzj hbp))
          have j0 : (0 : Int) ≤ (k : Int) + (j : Int) := by omega
          have j1 : (k : Int) + (j : Int) < (N : Int) := by omega
          have j2 : (0 : Int) ≤ (j : Int) := by omega
          have j3 : (j : Int) < (m.length : Int) := by omega
          clear nx st hcc hcf hvj hzj hbp hS hB h0
          go_wp2_with (go_at_call 82; (with_reducible refine NX.out.mono ?_); rintro e w3 ⟨rfl, ho, hgr⟩; have hd1 := HCC.out w3 hgr; have hd2 := HCF.out w3 hgr; have HST := Lib.hid (ST.out w3 ho hgr); clear ho hgr)
          have hst := HST.out
          rw [HQ.out, show Na.V (M.take (k + j)) + u * Na.V (m.take j) * Na.Bp k + Na.Bp (k + j) * (v * u + z) = Na.V (M.take (k + (j + 1))) + u * Na.V (m.take (j + 1)) * Na.Bp k by rw [← Nat.add_assoc, HV.out.1, HV.out.2.1, HV.out.2.2]; grind] at hst
          exact ⟨⟨j + 1, _, _, by omega, by go_num, Lib.hid (by rw [List.length_append, HQ.out]; rfl), Lib.hid hst⟩, by simp [intOf]; omega⟩

end Go.Proofs.Ytgbifcfdbelfpaa
