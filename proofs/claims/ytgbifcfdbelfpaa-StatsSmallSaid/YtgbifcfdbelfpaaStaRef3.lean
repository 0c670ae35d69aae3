/-
  The walk of the reference's limbs.
-/
import Derived.Test.YtgbifcfdbelfpaaStaRef2
namespace Go.Proofs.Ytgbifcfdbelfpaa
open Go.RowKit
set_option linter.unusedVariables false

def lowOf : Value → Nat | .bool true => 0 | _ => 1
theorem lowOf_t : lowOf (.bool true) = 0 := rfl
theorem lowOf_f : lowOf (.bool false) = 1 := rfl
/-- what the outer loop keeps -/
structure LimW (W w : World) (o : Value) (g N : Nat) (s : List Value) (m q : List Int) : Prop where
  own : Own w W.heap.size o m
  blk : IBlk w g [] q s
  dg : Nd.Dg q
  len : q.length = N
  bel : Below W.heap.size W w
theorem LimW.put {W w : World} {o : Value} {g N i : Nat} {s : List Value} {m q : List Int} {v : Int} (h : LimW W w o g N s m q) (hi : i < N) (h0 : 0 ≤ v) (h1 : v < 10000) (hg : W.heap.size ≤ g) : LimW W (w.setCell ⟨g, i, none⟩ (.int .i64 v)) o g N s m (q.set i v) :=
  ⟨h.own.set h.blk, h.blk.set i (by rw [h.len]; exact hi) v (by simp), set_dg h.dg h0 h1, by rw [List.length_set]; exact h.len, h.bel.grown (grown_set w ⟨g, i, none⟩ _) h.bel.size (fun j hj => by cases hj; exact hg)⟩
theorem LimW.app {W w w' : World} {o v' : Value} {g N : Nat} {s : List Value} {m m' q : List Int} (h : LimW W w o g N s m q) (ho : Own w' W.heap.size v' m') (hb : Below W.heap.size w w') (hg : w.grownBy w' o.ownBlock) : LimW W w' v' g N s m' q :=
  ⟨ho, h.own.ikept h.blk hg, h.dg, h.len, h.bel.trans hb⟩
theorem LimW.bump {W w : World} {o : Value} {g N n : Nat} {s : List Value} {m q : List Int} {u x : Int} (h : LimW W w o g N s m q) (hl : m.length = n + 1) (hu : m.getD n 0 = u) :
    ∃ r cap, o = .slice (some ⟨r, 0, none⟩) (n + 1) cap ∧ w.cell? ⟨r, n, none⟩ = some (.int .u32 u) ∧ w.frozen? ⟨r, n, none⟩ = false ∧ LimW W (w.setCell ⟨r, n, none⟩ (.int .u32 x)) o g N s (m.set n x) q := by
  have h2 := h.own
  rcases h.own with ⟨-, e⟩ | ⟨r, s', rfl, hB, hr, hc⟩
  · rw [e] at hl; simp at hl
  · have hcq := hB.cell n (by omega) (i := n) (by simp)
    rw [hu] at hcq
    have hst := hB.set n (by omega) x (i := n) (by simp)
    refine ⟨r, m.length + s'.length, by rw [hl], hcq, hB.free _, .inr ⟨r, s', by rw [List.length_set], hst, hr, by rw [List.length_set]; exact hc⟩, h.blk.kept (grown_set w ⟨r, n, none⟩ _) (fun e => h.blk.ne hB (Option.some.inj e)), h.dg, h.len, h.bel.grown (grown_set w ⟨r, n, none⟩ _) h.bel.size (fun j hj => by cases hj; exact hr)⟩
theorem Own.sl {w : World} {base : Nat} {v : Value} {l : List Int} (h : Own w base v l) : ∃ A c, v = .slice A l.length c ∧ RdK .u32 w A l ∧ l.length ≤ c ∧ c ≤ 9223372036854775807 := by
  rcases h with ⟨rfl, rfl⟩ | ⟨g, s, rfl, h2, h3, h4⟩
  · exact ⟨none, 0, rfl, RdK.nil _ _ _, by simp, by omega⟩
  · unfold maxLen at h4
    exact ⟨_, _, rfl, h2.rd rfl, by omega, by omega⟩
theorem trm_zero_iff {q : List Int} (h : Nd.Dg q) : (Nd.trm q).length = 0 ↔ Nd.V q = 0 := by
  have := (Nd.Can.mk' h).nil_iff
  rw [Nd.V_trm] at this
  rw [← this, List.length_eq_zero_iff]

/-- a copy of digits behind an empty slice of one's own -/
theorem wpList_copy {ops : Array Oper} {rest : List Oper} {o : Oper} {a : Act} {Q : Exit → Act → World → Prop} (w : World) (hg : o.guard = none) (s x : Operand)
    (hop : o.op = .call { callee := .builtin .append, args := #[s, x], argTypes := #[24, 24] }) (hv : a.eval s = .slice (some ⟨w.heap.size, 0, none⟩) 0 0) (A : Option Addr) (ca : Nat) (l : List Int)
    (hx : a.eval x = .slice A l.length ca) (hA : DB w A ca l) (hl : l.length ≤ 1000000)
    (hK : ∀ g s w', IBlk w' g [] l s → w.heap.size ≤ g → l.length + s.length ≤ maxLen → Below w.heap.size w w' → wpList Try.prog ops Q rest (a.put o.dst (.slice (some ⟨g, 0, none⟩) l.length (l.length + s.length))) w') :
    wpList Try.prog ops Q (o :: rest) a (w.alloc (.cells #[] 3)) := by
  obtain ⟨i0, hi, hz0, hz1, hz2⟩ := info_parts infoInt
  have hE : IBlk (w.alloc (.cells #[] 3)) w.heap.size [] [] [] := heap_alloc_new w _
  have hO : (w.alloc (.cells #[] 3)).ownsRow w.heap.size 3 1 (.slice (some ⟨w.heap.size, 0, none⟩) 0 0) 0 [] := hE.own (Nat.le_refl _) (by unfold maxLen; simp)
  have hB : Below w.heap.size w (w.alloc (.cells #[] 3)) := (Below.refl _ w).alloc (Nat.le_refl _) _
  rcases hA with ⟨rfl, rfl, rfl⟩ | ⟨b, sb, rfl, hb⟩
  · refine wpList_append_own_none hg _ _ 24 hop w.heap.size 3 i0 1 Try.underlying24 hi _ 0 [] hv hO hx ?_
    exact hK w.heap.size [] _ hE (Nat.le_refl _) (by unfold maxLen; simp) hB
  · refine wpList_append_own _ hg _ _ 24 hop w.heap.size 3 i0 (.int .i64 0) 1 8 Try.underlying24 hi hz0 hz1 hz2 rfl (by decide) _ _ _ hv hO ⟨b, 0, none⟩ l.length ca (l.map (Value.int .i64)) hx (by simp) ?_ ?_ ?_ ?_ ?_ ?_
    · intro j u hu
      have hj : j < l.length := by
        have := (List.getElem?_eq_some_iff.1 hu).1
        simpa using this
      have ea : (⟨b, 0, none⟩ : Addr).add j = ⟨b, j, none⟩ := by unfold Addr.add; split <;> simp [*]
      rw [ea, (hb.alloc _).cell j hj (by simp)]
      simpa [List.getD_eq_getElem?_getD, List.getElem?_eq_getElem hj] using hu
    · intro u hu; obtain ⟨z, -, rfl⟩ := List.mem_map.1 hu; rfl
    · unfold maxLen; omega
    · omega
    · simp
    · intro v' w' h1 h2 h3
      rw [List.nil_append, Nat.zero_add] at h1
      rcases own_ival h1 with ⟨rfl, hnil, hz⟩ | ⟨g, s, rfl, hB2, -, h4, h5⟩
      · have := h3.1 rfl
        simp at this
      · exact hK g s w' hB2 h4 h5 (hB.grown h2 (by simp) (fun k hk => by cases hk; exact Nat.le_refl _))

set_option maxRecDepth 100000 in
set_option maxHeartbeats 8000000 in
theorem rlimbs_any (a : Value) (L : Nat) (x : Int) (w : World) (hr : NumD w a L x) (hL : L ≤ 1000) :
    Calls Try.prog 73 #[a] w (PostNum x w) := by
  obtain ⟨A, ca, l, rfl, hA, hAd, hAl, hAv, hAc, hAm⟩ := hr
  have HA := Lib.hid hA; have HAD := Lib.hid hAd; have HAV := Lib.hid hAv
  clear hA hAd hAv
  go_enter Try.func73, Try.ntmps73
  go_wp2_with (at_builtin; refine wpList_copy w rfl _ _ rfl rfl A ca l rfl HA.out (by omega) ?_; intro g s w1 h1 h2 h3 h4; have H1 := Lib.hid h1; have H2 := Lib.hid h2; have H4 := Lib.hid h4; clear h1 h2 h4)
  unfold maxLen at h3
  obtain ⟨N, hN⟩ : ∃ N, l.length = N := ⟨_, rfl⟩
  rw [hN]
  rw [hN] at h3 hAl hAc
  go_loopw [3, 4] (fun o lw wr => ∃ (m q : List Int) (Y : Int) (low : Bool) (j : Nat), lw = .bool low ∧ lenOf o = m.length ∧ j + 2 * m.length = N + lowOf (.bool low) ∧ Nd.V q = Y ∧ Hid (LimW w wr o g N s m q) ∧ Hid (LimD x m Y low j)) (fun o lw _ => N + lowOf lw - 2 * lenOf o)
  case atStart => exact ⟨[], l, x, true, N, rfl, rfl, rfl, HAV.out, Lib.hid ⟨.inl ⟨rfl, rfl⟩, H1.out, HAD.out, hN, H4.out⟩, Lib.hid (by have := LimD.start HAD.out HAV.out; rw [hN] at this; exact this)⟩
  case round =>
    obtain ⟨m, q, Y, low, j, rfl, hlo, hj, hY, HW, HD⟩ := hrel
    have hT := rtrim_any (some ⟨g, 0, none⟩) (N + s.length) q wr (HW.out.blk.rd rfl) (by rw [HW.out.len]; omega) (by omega)
    rw [HW.out.len] at hT
    have hZ := trm_zero_iff HW.out.dg
    rw [hY] at hZ
    obtain ⟨M, hM⟩ : ∃ M, (Nd.trm q).length = M := ⟨_, rfl⟩
    rw [hM] at hZ hT
    have HT := Lib.hid hT
    have HY := Lib.hid hY
    clear hT hM hY
    by_cases h0 : Y = 0
    · obtain rfl := hZ.2 h0
      subst h0
      have hV := HD.out.done
      obtain ⟨A', c', rfl, hR, hc1, hc2⟩ := HW.out.own.sl
      have hml : m.length ≤ 1024 := by
        cases low
        · rw [lowOf_f] at hj; omega
        · rw [lowOf_t] at hj; omega
      have HR := Lib.hid hR; have HV := Lib.hid hV
      have HB := Lib.hid HW.out.bel; have HDG := Lib.hid HD.out.dg
      clear hR hV HW HD hj hlo
      go_wp2_with (go_at_call 90; (with_reducible refine HT.out.mono ?_); rintro e w' ⟨rfl, rfl⟩)
      go_loop [3] (fun s => ∃ k : Nat, k ≤ m.length ∧ s = .slice A' k c' ∧ Hid (Na.trm (m.take k) = Na.trm m)) (fun s => lenOf s)
      case atStart => exact ⟨m.length, Nat.le_refl _, rfl, Lib.hid (by rw [List.take_length])⟩
      case round =>
        obtain ⟨k, hk, rfl, hT⟩ := hrel
        by_cases h0 : k = 0
        · subst h0
          have hT := hT.out
          rw [List.take_zero] at hT
          have hz := Lib.hid (show m.take 0 = Na.trm m by rw [← hT]; rfl)
          clear hT
          go_wp2_with fail
          go_ret
          refine ⟨A', c', m.take 0, rfl, ⟨rdk_take HR.out _, ?_, by simp, ?_⟩, HB.out⟩
          · rw [hz.out]; exact Na.Can.mk' HDG.out
          · rw [hz.out, Na.V_trm, HV.out]
        · obtain ⟨b, off, rfl, hbl, hc⟩ := HR.out (by omega)
          obtain ⟨j, rfl⟩ : ∃ j, k = j + 1 := ⟨k - 1, by omega⟩
          have hcq := hc j (by omega); clear hc
          have hs := Na.take_snoc m j (by omega)
          have hT := hT.out
          rw [hs] at hT
          generalize m.getD j 0 = z at *
          have i0 : (0 : Int) ≤ (j : Int) := by omega
          have i1 : (j : Int) < ((j + 1 : Nat) : Int) := by omega
          have i2 : (j : Int) ≤ (c' : Int) := by omega
          by_cases hz : z = 0
          · subst hz
            rw [Na.trm_zero] at hT
            have HT := Lib.hid hT; clear hT hs h0
            go_wp2_with fail
            exact ⟨⟨j, by omega, rfl, HT⟩, by simp [lenOf]⟩
          · rw [Na.trm_last _ _ hz, ← hs] at hT
            have HT := Lib.hid hT
            clear hT hs h0
            have hz2 : (z == 0) = false := by rw [beq_eq_false_iff_ne]; exact hz
            have hlen := Lib.hid (show j + 1 = (m.take (j + 1)).length by rw [List.length_take]; omega)
            go_wp2_with fail
            go_ret
            refine ⟨_, c', m.take (j + 1), ret_sl rfl hlen.out rfl, ⟨rdk_take HR.out _, ?_, by rw [List.length_take]; omega, ?_⟩, HB.out⟩
            · rw [HT.out]; exact Na.Can.mk' HDG.out
            · rw [HT.out, Na.V_trm, HV.out]
    · have hM0 : 0 < M := by omega
      have hN0 : 0 < N := by
        rcases Nat.eq_zero_or_pos N with e | e
        · exfalso
          have : q = [] := List.eq_nil_of_length_eq_zero (by rw [HW.out.len]; exact e)
          rw [← HY.out, this] at h0
          exact h0 rfl
        · exact e
      have hY0 : 0 ≤ Y := HY.out ▸ Nd.V_nonneg HW.out.dg
      obtain ⟨j, rfl⟩ : ∃ i, j = i + 1 := by
        cases j with
        | zero =>
          have := HD.out.yy
          rw [Int.pow_zero] at this
          omega
        | succ i => exact ⟨i, rfl⟩
      clear hZ h0 hY0
      go_wp2_with (go_at_call 90; (with_reducible refine HT.out.mono ?_); rintro e w' ⟨rfl, rfl⟩)
      go_loopw [6, 7] (fun lf ix wx => ∃ (i : Nat) (r z : Int) (p : List Int), i ≤ N ∧ z = (i : Int) - 1 ∧ ix = .int .i64 z ∧ lf = .int .i64 r ∧ Hid (LimW w wx u3 g N s m p) ∧ Hid (Quo q p i r)) (fun _ ix _ => (intOf ix + 1).toNat)
      case atStart => exact ⟨N, 0, (N : Int) - 1, q, Nat.le_refl _, rfl, by go_num, rfl, HW, Lib.hid (by have := Quo.start HW.out.dg; rw [HW.out.len] at this; exact this)⟩
      case round =>
        obtain ⟨i, r, z, p, hi, hz, rfl, rfl, HX, HQ⟩ := hrel
        have r0 := HQ.out.r0
        have r1 := HQ.out.r1
        cases i with
        | zero =>
          obtain rfl : z = -1 := by omega
          have hv := HQ.out.val
          rw [List.drop_zero, List.drop_zero, HY.out] at hv
          have HV := Lib.hid hv
          have HSZ := Lib.hid HX.out.bel.size
          clear hv hz
          cases low
          · obtain ⟨n, u, q1, q2, q3, q4, q5⟩ := HD.out.high HV.out r0 r1
            obtain ⟨b, cap, rfl, q6, q7, q8⟩ := HX.out.bump (x := u + r * 65536) q1 q2
            have Q5 := Lib.hid q5; have Q8 := Lib.hid q8; have Q1 := Lib.hid q1
            have i0 : (0 : Int) ≤ (n : Int) := by omega
            have i1 : (n : Int) < ((n + 1 : Nat) : Int) := by omega
            rw [lowOf_f] at hj
            have i2 : (n : Int) ≤ 100000 := by omega
            have HL3 := Lib.hid (show n + 1 = m.length from hlo)
            clear q1 q2 q5 q8 HX HQ
            go_wp2_with fail
            exact ⟨⟨_, p, _, true, j, rfl, by rw [List.length_set]; exact hlo, by rw [List.length_set, lowOf_t]; omega, rfl, Q8, Q5⟩, by have := HL3.out; simp [lenOf, lowOf]; omega⟩
          · have hL' := HD.out.low HV.out r0 r1
            have HL := Lib.hid hL'
            rw [lowOf_t] at hj
            have hml : m.length ≤ 1000000 := by omega
            clear hL'
            go_wp2_with (at_builtin; refine wpList_appU _ rfl _ _ rfl w.heap.size _ m rfl HX.out.own _ rfl hml HSZ.out ?_; intro v' w' ho hb' hg'; have HX' := Lib.hid (HX.out.app ho hb' hg'); have HO := Lib.hid ho; clear ho hb' hg')
            have hlo2 : lenOf v' = m.length + 1 := by
              obtain ⟨A2, c2, rfl, -, -⟩ := HO.out.sl
              simp [lenOf]
            exact ⟨⟨_, p, _, false, j, rfl, by rw [hlo2]; simp, by rw [List.length_append, lowOf_f]; simp; omega, rfl, HX', HL⟩, by simp [lowOf, hlo, hlo2]; omega⟩
        | succ i =>
          obtain rfl : z = (i : Int) := by omega
          have i0 : (0 : Int) ≤ (i : Int) := by omega
          have i1 : (i : Int) < (N : Int) := by omega
          obtain ⟨d, hd⟩ : ∃ d, p.getD i 0 = d := ⟨_, rfl⟩
          have hcq := HX.out.blk.cell i (by rw [HX.out.len]; omega) (i := i) (by simp)
          have hfq := HX.out.blk.free i
          rw [hd] at hcq
          have hdg := HX.out.dg.at i
          rw [hd] at hdg
          obtain ⟨n, hn⟩ : ∃ n, r * 10000 + d = n := ⟨_, rfl⟩
          obtain ⟨hq1, hq2, hq3⟩ := HQ.out.step (by rw [HW.out.len]; omega) HW.out.dg hd hn
          have n0 : 0 ≤ n / 65536 := by omega
          have hpt := HX.out.put (i := i) (v := n / 65536) (by omega) n0 hq3 H2.out
          have HQ1 := Lib.hid hq1; have HPT := Lib.hid hpt
          clear hq1 hpt hd hz HX HQ
          go_wp2_with fail
          exact ⟨⟨i, _, _, _, by omega, rfl, by go_num, rfl, HPT, HQ1⟩, by simp [intOf]⟩

end Go.Proofs.Ytgbifcfdbelfpaa
