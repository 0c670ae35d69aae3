/-
  Near: the words that are near a text.
-/
import Derived.Test.YtioncjnjhmnlaaaLexHits
namespace Go.Proofs.Ytioncjnjhmnlaaa
open Go.RowKit Go.Shelf Lx
set_option linter.unusedVariables false
set_option linter.unusedSimpArgs false
attribute [local go_sem] Oper.semAt_some

/-- the hits, in order -/
def nearOf (c : Ed.Cst) (ws : List ByteArray) (s : ByteArray) (most : Int) : List (Int × Int) := (HL c ws s most ws.length).mergeSort fun a b => !Go.Proofs.ltOf hcmp b a
theorem nearOf_eq {c : Ed.Cst} {ws : List ByteArray} {s : ByteArray} {most : Int} {l : List (Int × Int)} (h1 : l.Perm (HL c ws s most ws.length)) (h2 : InH l) : l = nearOf c ws s most := by
  refine List.Perm.eq_of_pairwise (le := fun a b => Go.Proofs.ltOf hcmp b a = false) (fun a b _ _ h3 h4 => ?_) h2 ?_ (h1.trans (List.mergeSort_perm _ _).symm)
  · rw [hcmp_lt] at h3 h4
    simp at h3 h4
    obtain ⟨a1, a2⟩ := a
    obtain ⟨b1, b2⟩ := b
    simp at h3 h4
    ext <;> simp <;> omega
  · have := List.pairwise_mergeSort (le := fun a b => !Go.Proofs.ltOf hcmp b a) (fun a b d h3 h4 => by
      simp only [Bool.not_eq_true'] at *
      exact hcmp_swo.ntrans _ _ _ h4 h3) (fun a b => by
      simp only [hcmp_lt, Bool.or_eq_true, Bool.not_eq_true', decide_eq_false_iff_not]
      omega) (HL c ws s most ws.length)
    exact this.imp fun {a b} h => by simpa using h
def PostNear (l : List (Int × Int)) (w : World) (e : Ending) (w' : World) : Prop :=
  ∃ A n cp, e = .returned (.tuple #[.slice A n cp, .int .i64 0]) ∧ OwnH w' w.heap.size (.slice A n cp) l ∧ Below w.heap.size w w'
theorem infoHit : (Try.prog.info? 38).map (fun i => (i.zero, i.size, i.bytes)) = some (some (.agg #[.int .i64 0, .int .i64 0]), 2, 16) := by kernel_rfl
theorem cells_two_new (W : World) (y : Int × Int) : ∀ j u, [Value.int .i64 y.1, Value.int .i64 y.2][j]? = some u → (W.alloc (.cells #[.int .i64 y.1, .int .i64 y.2] 38)).cell? ((⟨W.heap.size, 0, none⟩ : Addr).add j) = some u := by
  intro j u hj
  match j, hj with
  | 0, hj => simp at hj; subst hj; simp [Addr.add]
  | 1, hj => simp at hj; subst hj; simp [Addr.add]
theorem row_mono {w : World} {base b2 e size n : Nat} {v : Value} {xs : List Value} (h : w.ownsRow base e size v n xs) (hb : b2 ≤ base) : w.ownsRow b2 e size v n xs := by
  refine ⟨h.1, ?_⟩
  rcases h.2 with h2 | ⟨g, cap, cur, h3, h4, h5⟩
  · exact .inl h2
  · exact .inr ⟨g, cap, cur, h3, by omega, h5⟩
theorem row_keep {w w1 : World} {base e size n : Nat} {v : Value} {xs : List Value} (h : w.ownsRow base e size v n xs) (hk : ∀ k o, v.ownBlock = some k → w.heap[k]? = some o → w1.heap[k]? = some o) : w1.ownsRow base e size v n xs := by
  refine ⟨h.1, ?_⟩
  rcases h.2 with h2 | ⟨g, cap, cur, h3, h4, h5, h6⟩
  · exact .inl h2
  · exact .inr ⟨g, cap, cur, h3, h4, hk _ _ (by rw [h3]; rfl) h5, h6⟩
theorem row_at {w : World} {base e size n : Nat} {v : Value} {xs : List Value} (h : w.ownsRow base e size v n xs) (k : Nat) (hk : v.ownBlock = some k) : base ≤ k := by
  rcases h.2 with ⟨rfl, -⟩ | ⟨g, cap, cur, rfl, h4, -⟩
  · cases hk
  · cases hk; exact h4
set_option maxRecDepth 100000 in
set_option maxHeartbeats 4000000 in
theorem near_ok (base x : Nat) (c : Ed.Cst) (ws : List ByteArray) (s : ByteArray) (most : Int) (w : World) (hL : LexO w base x ws) (hc : c.ok) (hs : s.size ≤ 60) :
    Calls Try.prog 11 #[.pointer (some ⟨x, 0, none⟩), .string s, cstV c, .int .i64 most] w (PostNear (nearOf c ws s most) w) := by
  obtain ⟨A, cp, root, cap, N, M, h1, h2, h3, h4, h5⟩ := hL
  have i1 : decide ((60 : Int) < (s.size : Int)) = false := decide_eq_false (by omega)
  have hx := (Array.getElem?_eq_some_iff.1 h2).1
  obtain ⟨w1, hw1⟩ : ∃ w1, w1 = w.alloc (.cells #[.int .i64 c.ins, .int .i64 c.del, .int .i64 c.chg, .int .i64 c.swp] 24) := ⟨_, rfl⟩
  have hb1 : Below w.heap.size w w1 := by rw [hw1]; exact below_new w _
  have hq1 : w1.cell? ⟨w.heap.size, 0, none⟩ = some (.int .i64 c.ins) ∧ w1.cell? ⟨w.heap.size, 1, none⟩ = some (.int .i64 c.del) ∧ w1.cell? ⟨w.heap.size, 2, none⟩ = some (.int .i64 c.chg) ∧ w1.cell? ⟨w.heap.size, 3, none⟩ = some (.int .i64 c.swp) := by
    rw [hw1]; refine ⟨?_, ?_, ?_, ?_⟩ <;> go_simp
  have hP := parts_any x root _ cp A w1 (heap_keep h2 hb1)
  have hR : ∀ V, Calls Try.prog 9 #[.agg #[.int .i64 c.ins, .int .i64 c.del, .int .i64 c.chg, .int .i64 c.swp]] V fun e w' => e = .returned (.bool true) ∧ Below V.heap.size V w' := fun V => by
    refine (right_any c V).mono ?_
    rintro e w' ⟨rfl, hb⟩
    exact ⟨by rw [decide_eq_true hc], hb⟩
  unfold cstV
  have HIT := Lib.hid (fun V => hits_any x s c most V)
  have P := Lib.hid hP; have R := Lib.hid hR; have HB1 := Lib.hid hb1; have HQ1 := Lib.hid hq1; have HW1 := Lib.hid hw1
  have HX := Lib.hid h2; have HRD := Lib.hid h3; have HWD := Lib.hid h5; have HOK := Lib.hid hc
  clear h1 h2 h3 h4 h5 hP hR hb1 hq1 hc
  refine (callsIn_wide (n := 6)).1 ?_
  refine callsIn_of_wp_marks Try.func11 rfl trivial ?_ rfl
  simp only [Try.ntmps11, List.size_toArray, List.length_cons, List.length_nil, Nat.reduceAdd, Nat.reduceSub, Array.replicate_succ, Array.replicate_zero, List.push_toArray, List.append_toArray, List.nil_append, List.cons_append]
  gi_wp2
  rw [← hw1]
  gi_wp2_with (first
    | (refine ⟨trivial, ?_⟩; gi_at_call 23; (with_reducible refine (callsIn_wide.2 P.out).mono ?_); rintro e w2 ⟨rfl, hb2⟩; have fr := field_root A ws.length cp root w2; have H2 := Lib.hid hb2; have q0 := cell_keep HQ1.out.1 hb2; have q1 := cell_keep HQ1.out.2.1 hb2; have q2 := cell_keep HQ1.out.2.2.1 hb2; have q3 := cell_keep HQ1.out.2.2.2 hb2; clear hb2)
    | (refine ⟨trivial, ?_⟩; gi_at_call 9; (with_reducible refine (callsIn_wide.2 (R.out _)).mono ?_); rintro e w3 ⟨rfl, hb3⟩; have H3 := Lib.hid hb3; have z0 := fun o => cell_keep (cell_keep q0 hb3) (below_new w3 o); have z1 := fun o => cell_keep (cell_keep q1 hb3) (below_new w3 o); have z2 := fun o => cell_keep (cell_keep q2 hb3) (below_new w3 o); have z3 := fun o => cell_keep (cell_keep q3 hb3) (below_new w3 o); clear hb3 q0 q1 q2 q3)
    | (refine ⟨trivial, ?_⟩; gi_at_call 24; (with_reducible refine (callsIn_wide.2 (HIT.out _)).mono ?_); rintro e w5 ⟨rfl, hb5, hs5, u0, u1, ⟨u2, u3, u4, u5⟩, u6⟩; have H5 := Lib.hid hb5; have HS5 := Lib.hid hs5; have HU := Lib.hid (And.intro u0 (And.intro u1 (And.intro u2 (And.intro u3 (And.intro u4 (And.intro u5 u6)))))); clear hb5 hs5 u0 u1 u2 u3 u4 u5 u6 z0 z1 z2 z3))
  obtain ⟨q, hq⟩ : ∃ q, w3.heap.size = q := ⟨_, rfl⟩
  have eV : (w3.alloc (.cells #[.slice none 0 0] 32)).heap.size = q + 1 := by rw [← hq]; simp
  have hu := HU.out; have hs5 := HS5.out; have h5 := H5.out
  rw [eV] at hu hs5 h5
  have hwq : w.heap.size ≤ q := by have := HB1.out.size; have := H2.out.size; have := H3.out.size; omega
  have hb3 : Below w.heap.size w w3 := (HB1.out.trans (H2.out.mono HB1.out.size)).trans (H3.out.mono (Nat.le_trans HB1.out.size H2.out.size))
  have hbV : Below w.heap.size w (w3.alloc (.cells #[.slice none 0 0] 32)) := hb3.trans ((below_new w3 _).mono hb3.size)
  have hb5 : Below w.heap.size w w5 := hbV.trans (h5.mono (by omega))
  have hbox : Boxed w5 q 32 (.slice none 0 0) := (h5.block q (by omega)).trans (by rw [← hq]; exact heap_alloc_new w3 _)
  have hn : w5.heap.size = q + 5 := by omega
  have hcap : CapH c ws s most x (q + 1) q w5.heap.size A cp w5 := by
    have hX := heap_keep HX.out hb5
    refine ⟨hu.1, hu.2.1, hu.2.2.1, hu.2.2.2.1, hu.2.2.2.2.1, hu.2.2.2.2.2.1, hu.2.2.2.2.2.2, by simp [World.cell?, hX], fun h0 => ?_, ⟨by omega, by omega⟩, ⟨by omega, by omega⟩⟩
    obtain ⟨b, off, e, -, g2, g3⟩ := HRD.out h0
    exact ⟨b, off, e, by omega, by omega, fun i hi => (bcell hb5 b _ g2).trans (g3 i hi)⟩
  rw [show w3.heap.size + 1 = q + 1 by rw [hq], hq]
  have HBX := Lib.hid hbox; have HB5 := Lib.hid hb5; have HN := Lib.hid hn; have HCP := Lib.hid hcap; have HWQ := Lib.hid hwq
  clear hu hs5 h5 hbV hb5 hbox hn hcap hb3 eV hq HU HS5 H5 H2 H3 hwq hw1 HIT P R
  refine wp_tolb (gf := 36) (lb := #[.pointer (some ⟨q + 1, 0, none⟩), .pointer (some ⟨q + 1 + 1, 0, none⟩), .pointer (some ⟨q + 1 + 2, 0, none⟩), .pointer (some ⟨q + 1 + 3, 0, none⟩)]) rfl (enters_of Try.func36 (by kernel_rfl) rfl)
    (hits_told c HOK.out ws HWD.out s hs most x (q + 1) q w5.heap.size A cp w5 (Nat.le_refl _) HCP.out) (Below.refl _ _) KN.trans (fun W k o o' hk h hcc => KN.putObj W k o' hk)
    (fun pre x W k o o' h hk hcc => h) (fun _ => rfl)
    (fun pre W => (∃ v, Boxed W q 32 v ∧ W.ownsRow w5.heap.size 38 2 v pre.length (hitC pre) ∧ True) ∧ Below w.heap.size w W)
    (fun _ _ _ => False)
    (OwnFrom.and (Own.from (holdsRow_own w5.heap.size q 32 38 2 (fun pre : List (Int × Int) => pre.length) hitC (fun pre v => True)) _) (own_below0 (by have := HB5.out.size; omega) (Nat.le_refl _)))
    (fun _ _ _ _ _ hs _ _ => hs)
    ⟨⟨_, HBX.out, World.ownsRow_nil _ _ _ _, trivial⟩, HB5.out⟩
    (fun y => .cells #[.int .i64 y.1, .int .i64 y.2] 38)
    (fun y g => { tmps := #[.pointer (some ⟨x, 0, none⟩), .string s, .agg #[.int .i64 c.ins, .int .i64 c.del, .int .i64 c.chg, .int .i64 c.swp], .int .i64 most, undef, undef, .pointer (some ⟨w.heap.size, 0, none⟩), undef, .slice none 0 0, .int .i64 0, .pointer (some ⟨q, 0, none⟩), .pointer (some ⟨g, 0, none⟩), .bool false, .pointer (some ⟨x, 0, none⟩), .agg #[.slice A ws.length cp, .pointer (some ⟨root, 0, none⟩)], .pointer (some ⟨root, 0, none⟩), .bool false, .bool false, .agg #[.int .i64 c.ins, .int .i64 c.del, .int .i64 c.chg, .int .i64 c.swp], .bool true, .bool false, .bool false, .string s, .int .i64 (s.size : Int), .bool false, .pointer (some ⟨x, 0, none⟩), .string s, .agg #[.int .i64 c.ins, .int .i64 c.del, .int .i64 c.chg, .int .i64 c.swp], .int .i64 most, (.func (.func 36) #[] #[.pointer (some ⟨q + 1, 0, none⟩), .pointer (some ⟨q + 1 + 1, 0, none⟩), .pointer (some ⟨q + 1 + 2, 0, none⟩), .pointer (some ⟨q + 1 + 3, 0, none⟩)]), .agg #[.int .i64 y.1, .int .i64 y.2], undef, undef, undef, undef, undef, undef, undef], defers := [] })
    (fun pre x W h => h) (fun x W => KN.below (below_new W _)) ?assign ?body ?done ?stop
  case assign =>
    intro l y W K hK
    gi_wp2
    exact hK
  case body =>
    rintro l pre y g W hg hgc ⟨⟨v, hv, hrow, -⟩, hB⟩ hT
    dsimp only
    have hc := hv.cell
    have hgq : g ≠ q := by have := HN.out; omega
    have g0 : W.cell? ⟨g, 0, none⟩ = some (.int .i64 y.1) := by simp [World.cell?, hgc]
    have g1 : W.cell? ⟨g, 1, none⟩ = some (.int .i64 y.2) := by simp [World.cell?, hgc]
    obtain ⟨i0, hi, hz0, hz1, hz2⟩ := info_parts infoHit
    have hpl : pre.length ≤ 1000 := hT
    have hnW : w5.heap.size ≤ W.heap.size := by have := (Array.getElem?_eq_some_iff.1 hgc).1; omega
    have HV := Lib.hid hv; have HROW := Lib.hid hrow; have HB := Lib.hid hB
    clear hv hrow hB hT hgc
    gi_wp2_with (gi_at_builtin; refine wpListIn_append_own _ rfl _ _ 32 rfl w5.heap.size 38 i0 (.agg #[.int .i64 0, .int .i64 0]) 2 16 Try.underlying32 hi hz0 hz1 hz2 rfl (by decide) _ _ _ rfl (HROW.out.alloc _) ⟨W.heap.size, 0, none⟩ 1 1 [.int .i64 y.1, .int .i64 y.2] rfl rfl (cells_two_new W y) (by simp [Value.oneCell']) (by unfold maxLen; omega) (by omega) (by simp; omega) ?_; intro v' w1 hown' hgrow _; obtain ⟨g', cap', rfl⟩ := ownsRow_succ hown'; have HOW := Lib.hid hown'; have HGR := Lib.hid hgrow; obtain ⟨hv1, hv2, hr2, hk2, hb2⟩ := HV.out.appended (by decide) (row_mono HROW.out (show q ≤ w5.heap.size by have := HN.out; omega)) (by have := HN.out; omega) (Nat.le_refl _) (row_mono hown' (show q ≤ w5.heap.size by have := HN.out; omega)) hgrow; have hc1 := hv1.cell; have hf1 := hv1.frozen; clear hown' hgrow)
    have hnq : q < w5.heap.size := by have := HN.out; omega
    refine ⟨hk2.from _, ⟨hb2.size, fun k o hkq hkn ho => ?_⟩, ⟨_, hv2, ?_, trivial⟩, HB.out.trans (hb2.mono HWQ.out)⟩
    · have hkW : k < W.heap.size := by omega
      rw [heap_set_other _ _ _ _ _ hkq, HGR.out.block k (by simp; omega) (fun e => by have := row_at HROW.out k e.symm; omega), (MapKept.heap_alloc W _).2 k hkW]
      exact ho
    · rw [List.length_append, List.length_singleton, hitC_append]
      refine row_keep HOW.out fun k o hk ho => ?_
      have := row_at HOW.out k hk
      rw [heap_set_other _ _ _ _ _ (by omega)]
      exact ho
  case done =>
    rintro D ys W hD rfl ⟨⟨v, hv, hrow, -⟩, hB⟩ hK
    dsimp only
    have hc := hv.cell
    have hO : OwnH W w5.heap.size v (HL c ws s most ws.length) := hrow
    obtain ⟨A1, c1, rfl, -, -, -⟩ := hO.shape
    have hSO := sortHits_any w5.heap.size A1 _ c1 _ W hO (by have := HL_len c ws s most ws.length; have := HWD.out.many; omega)
    have SO := Lib.hid hSO; have HV := Lib.hid hv; have HO := Lib.hid hO; have HB := Lib.hid hB; have HK := Lib.hid hK
    clear hSO hv hO hrow hB hK
    gi_wp2_with (refine ⟨trivial, ?_⟩; gi_at_call 25; (with_reducible refine (callsIn_wide.2 SO.out).mono ?_); rintro e W6 ⟨rfl, l', hp, hi, ho, hg⟩; have HP := Lib.hid hp; have HI := Lib.hid hi; have HO6 := Lib.hid ho; have HG := Lib.hid hg; have hc6 := (HV.out.kept hg (fun e => by have := (HO.out.at q e.symm).1; have := HN.out; omega)).cell; clear hp hi ho hg)
    have hDW := (Array.getElem?_eq_some_iff.1 HK.out).1
    have hK6 : W6.heap[D]? = some (.deferred (some [])) := (HG.out.block D hDW (fun e => by
      rcases HO.out.2 with ⟨e1, -⟩ | ⟨g, cap, cur, e1, e2, e3, -⟩
      · rw [e1] at e; cases e
      · rw [e1] at e
        have e4 : D = g := Option.some.inj e
        subst e4
        have := HK.out
        rw [e3] at this; cases this)).trans HK.out
    have hB6 : Below w.heap.size w W6 := HB.out.grown HG.out HB.out.size (fun k e => by have := (HO.out.at k e).1; have := HN.out; have := HWQ.out; omega)
    refine ⟨by simp, .inl ⟨_, _, rfl, run_takeDeferred hK6, ?_⟩⟩
    refine ⟨_, results_tmp2 rfl _ _ _, A1, _, c1, rfl, ?_, putObj_below (by have := HN.out; have := HWQ.out; omega) _ hB6⟩
    rw [← nearOf_eq HP.out HI.out]
    exact OwnH.mono (ownsRow_putObj HO6.out _ hK6 rfl) (by have := HN.out; have := HWQ.out; omega)
  case stop =>
    rintro D cc pre W _ _ h _
    exact h.elim
end Go.Proofs.Ytioncjnjhmnlaaa
