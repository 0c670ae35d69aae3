/-
  The walk of the law NatWrong.
-/
import Derived.Test.YtgcfmkelanhdhaaDoorNatWrong0
namespace Go.Proofs.YtgcfmkelanhdhaaDoor
open Go.RowKit
set_option linter.unusedVariables false

theorem Own.row {w : World} {base : Nat} {v : Value} {l : List Int} (h : Own w base v l) : w.ownsRow base 48 1 v l.length (l.map (Value.int .u32)) := by
  rcases h with ⟨rfl, rfl⟩ | ⟨g, s, rfl, h2, h3, h4⟩
  · exact World.ownsRow_nil _ _ _ _
  · exact h2.own h3 h4
theorem Own.bad {w : World} {base : Nat} {v : Value} {l : List Int} (h : Own w base v l) (hr : Na.rgt l = false) (hl : l.length ≤ 2000) : Bad w v := by
  rcases h with ⟨rfl, rfl⟩ | ⟨g, s, rfl, h2, h3, h4⟩
  · exact ⟨none, 0, [], rfl, RdK.nil _ _ _, hr, hl⟩
  · exact ⟨_, _, l, rfl, h2.rd rfl, hr, hl⟩
theorem Own.alloc {w : World} {base : Nat} {v : Value} {l : List Int} (h : Own w base v l) (o : Obj) : Own (w.alloc o) base v l := by
  rcases h with ⟨rfl, rfl⟩ | ⟨g, s, rfl, h2, h3, h4⟩
  · exact .inl ⟨rfl, rfl⟩
  · exact .inr ⟨g, s, rfl, h2.alloc o, h3, h4⟩
theorem Own.at {w : World} {base : Nat} {v : Value} {l : List Int} (h : Own w base v l) (k : Nat) (hk : v.ownBlock = some k) : base ≤ k := by
  rcases h with ⟨rfl, rfl⟩ | ⟨g, s, rfl, h2, h3, h4⟩
  · cases hk
  · cases hk; exact h3
theorem Own.sl {w : World} {base : Nat} {v : Value} {l : List Int} (h : Own w base v l) : ∃ A c m, v = .slice A m.length c ∧ RdK .u32 w A m ∧ m.length ≤ 9223372036854775807 := by
  rcases h with ⟨rfl, rfl⟩ | ⟨g, s, rfl, h2, h3, h4⟩
  · exact ⟨none, 0, [], rfl, RdK.nil _ _ _, by simp⟩
  · exact ⟨_, _, l, rfl, h2.rd rfl, by simp [maxLen] at h4; omega⟩
theorem trm_le (l : List Int) : (Na.trm l).length ≤ l.length := by
  exact Na.trm_len l
/-- two limbs' slices that lie in a block -/
structure Two (w : World) (g : Nat) (v0 v1 : Value) : Prop where
  blk : w.heap[g]? = some (.cells #[v0, v1] 22 (0, 0))
  b0 : Bad w v0
  b1 : Bad w v1
theorem Two.kept {w w' : World} {g : Nat} {v0 v1 : Value} (h : Two w g v0 v1) (hb : Below w.heap.size w w') : Two w' g v0 v1 :=
  ⟨(hb.block g (lt_of_block h.blk)).trans h.blk, h.b0.below hb, h.b1.below hb⟩
theorem Two.at {w : World} {g : Nat} {v0 v1 : Value} (h : Two w g v0 v1) (k : Nat) (hk : k < 2) : ∃ v, w.cell? ⟨g, k, none⟩ = some v ∧ Bad w v := by
  have e := cell_of_row w g
  match k, hk with
  | 0, _ => exact ⟨v0, by rw [e 0 _ _ _ h.blk]; rfl, h.b0⟩
  | 1, _ => exact ⟨v1, by rw [e 1 _ _ _ h.blk]; rfl, h.b1⟩
/-- two limbs' slices, of which one is no number -/
structure Pr (w : World) (x y : Value) : Prop where
  is : ∃ A c l B d m, x = .slice A l.length c ∧ y = .slice B m.length d ∧ RdK .u32 w A l ∧ RdK .u32 w B m ∧ l.length ≤ 2000 ∧ m.length ≤ 2000 ∧ (Na.rgt l = false ∨ Na.rgt m = false)
theorem Pr.below {w w' : World} {x y : Value} (h : Pr w x y) (hb : Below w.heap.size w w') : Pr w' x y := by
  obtain ⟨A, c, l, B, d, m, h1, h2, h3, h4, h5⟩ := h.is
  exact ⟨A, c, l, B, d, m, h1, h2, h3.below hb, h4.below hb, h5⟩
structure Four (w : World) (g : Nat) (a b c d : Value) : Prop where
  blk : w.heap[g]? = some (.cells #[a, b, c, d] 51 (0, 0))
  b0 : Pr w a b
  b1 : Pr w c d
theorem Four.kept {w w' : World} {g : Nat} {a b c d : Value} (h : Four w g a b c d) (hb : Below w.heap.size w w') : Four w' g a b c d :=
  ⟨(hb.block g (lt_of_block h.blk)).trans h.blk, h.b0.below hb, h.b1.below hb⟩
theorem Four.at {w : World} {g : Nat} {a b c d : Value} (h : Four w g a b c d) (k : Nat) (hk : k < 2) : ∃ x y, w.cell? ⟨g, k * 2, none⟩ = some x ∧ w.cell? ⟨g, k * 2 + 1, none⟩ = some y ∧ Pr w x y := by
  have e := cell_of_row w g
  match k, hk with
  | 0, _ => exact ⟨a, b, by rw [e 0 _ _ _ h.blk]; rfl, by rw [e 1 _ _ _ h.blk]; rfl, h.b0⟩
  | 1, _ => exact ⟨c, d, by rw [e 2 _ _ _ h.blk]; rfl, by rw [e 3 _ _ _ h.blk]; rfl, h.b1⟩
/-- what the law lays for one slice -/
abbrev laid4 (w : World) (v : Value) : World :=
  ((w.alloc (.cells #[.int .u32 1] 48)).alloc (.cells #[.int .u32 1] 48)).alloc (.cells #[v, .slice (some ⟨w.heap.size, 0, none⟩) 1 1, .slice (some ⟨w.heap.size + 1, 0, none⟩) 1 1, v] 51)
theorem laid4_bel (w : World) (v : Value) : Below w.heap.size w (laid4 w v) :=
  (((Below.refl _ _).alloc (Nat.le_refl _) _).alloc (by simp) _).alloc (by simp; omega) _
theorem laid4_four {w : World} {v : Value} (h : Bad w v) : Four (laid4 w v) (w.heap.size + 2) v (.slice (some ⟨w.heap.size, 0, none⟩) 1 1) (.slice (some ⟨w.heap.size + 1, 0, none⟩) 1 1) v := by
  have hb := h.below (laid4_bel w v)
  obtain ⟨A, c, l, rfl, hr, hg, hl⟩ := hb.is
  have b1 : Below (w.alloc (.cells #[.int .u32 1] 48)).heap.size (w.alloc (.cells #[.int .u32 1] 48)) (laid4 w (.slice A l.length c)) :=
    ((Below.refl _ _).alloc (Nat.le_refl _) _).alloc (by simp) _
  have o1 := (one_rd w).below b1
  have b2 : Below ((w.alloc (.cells #[.int .u32 1] 48)).alloc (.cells #[.int .u32 1] 48)).heap.size ((w.alloc (.cells #[.int .u32 1] 48)).alloc (.cells #[.int .u32 1] 48)) (laid4 w (.slice A l.length c)) :=
    (Below.refl _ _).alloc (Nat.le_refl _) _
  have o2 := (one_rd (w.alloc (.cells #[.int .u32 1] 48))).below b2
  have e2 : (w.alloc (.cells #[.int .u32 1] 48)).heap.size = w.heap.size + 1 := by simp
  rw [e2] at o2
  refine ⟨?_, ⟨A, c, l, _, _, [1], rfl, rfl, hr, o1, hl, by simp, .inl hg⟩, ⟨_, _, [1], A, c, l, rfl, rfl, o2, hr, by simp, hl, .inr hg⟩⟩
  have := heap_alloc_new ((w.alloc (.cells #[.int .u32 1] 48)).alloc (.cells #[.int .u32 1] 48)) (.cells #[.slice A l.length c, .slice (some ⟨w.heap.size, 0, none⟩) 1 1, .slice (some ⟨w.heap.size + 1, 0, none⟩) 1 1, .slice A l.length c] 51)
  simpa using this
theorem ones_set {k n : Nat} (h : k < n) : (List.replicate k (1 : Int) ++ List.replicate (n - k) 0).set k 1 = List.replicate (k + 1) 1 ++ List.replicate (n - (k + 1)) 0 := by
  rw [List.set_append_right _ _ (by simp), List.length_replicate, Nat.sub_self, show n - k = (n - (k + 1)) + 1 by omega, List.replicate_succ, List.set_cons_zero, List.replicate_succ']
  simp
set_option maxRecDepth 100000 in
set_option maxHeartbeats 8000000 in
theorem walk_natWrong (w : World) (A0 : Option Addr) (len0 cap0 : Nat) (z0 : List Int) (w0 : IsRow .u32 w A0 len0 cap0 z0) (a1 : Int) (w1 : (Lit.int .u16 a1).wf = true) (hw : Rdy w) :
    Calls Tryd.prog 11 #[.slice A0 len0 cap0, .int .u16 a1] w fun e w' => e = .returned (.bool true) ∧ Below w.heap.size w w' := by
  obtain ⟨i0, hi, hz0, hz1, hz2⟩ := info_parts infoU32
  have H0 := Lib.hid (fun W hB => numberO_row w0 100 100 rfl (by omega) W hB)
  have AW := Lib.hid (awake_any w)
  obtain ⟨m0, m1⟩ := u16_bd w1
  obtain ⟨K, hK⟩ : ∃ K : Nat, (K : Int) = 1025 + a1 % 100 := ⟨(1025 + a1 % 100).toNat, by omega⟩
  have K1 : 1025 ≤ K := by omega
  have K2 : K ≤ 1124 := by omega
  have NG := Lib.hid (show -1 - a1 < 0 by omega)
  clear w1 hw
  go_enter Tryd.func11, Tryd.ntmps11
  go_wp2_with (first
    | (go_at_call 12; (with_reducible refine (AW.out).mono ?_); rintro e x1 ⟨rfl, hb⟩; have B1 := Lib.hid hb; clear hb)
    | (at_make; refine wpList_mk _ rfl _ _ rfl K _ _ rfl rfl ?c1 ?c2 ?c3 ?_))
  case c1 => first | rfl | omega
  case c2 => first | rfl | omega
  case c3 => omega
  intro x2 hB hG
  have HB := Lib.hid hB; have B2 := Lib.hid (B1.out.grown hG B1.out.size (fun k hk => by cases hk)); clear hB hG
  obtain ⟨g, hg⟩ : ∃ g, x1.heap.size = g := ⟨_, rfl⟩
  have hg1 : w.heap.size ≤ g := by rw [← hg]; exact B1.out.size
  rw [hg] at HB ⊢
  clear hg
  go_wp2_with fail
  go_loopw [39] (fun i wr => ∃ k : Nat, k ≤ K ∧ i = .int .i64 k ∧ Hid (Blk wr g [] (List.replicate k 1 ++ List.replicate (K - k) 0) [] ∧ Below w.heap.size w wr)) (fun i _ => K - (intOf i).toNat)
  case atStart => exact ⟨0, by omega, rfl, Lib.hid ⟨by simpa using HB.out, B2.out⟩⟩
  case round =>
    obtain ⟨k, hk, rfl, HR⟩ := hrel
    by_cases h0 : k = K
    · subst h0
      have ho : Own wr w.heap.size (.slice (some ⟨g, 0, none⟩) k k) (List.replicate k 1) := .inr ⟨g, [], by simp, by simpa using HR.out.1, hg1, by simp [maxLen]; omega⟩
      have hb := ho.bad (rgt_long (by simp; omega)) (by simp; omega)
      have HL := Lib.hid hb; have B3 := Lib.hid HR.out.2
      clear HR HB B2 ho hb
      go_wp2_with (first
        | (go_at_call 14; (with_reducible refine (H0.out wr B3.out).mono ?_); rintro e x4 ⟨v, rfl, h, hb⟩; have B4 := Lib.hid hb; have HN := Lib.hid h; clear h hb)
        | (at_builtin; refine wpList_append_own _ rfl _ _ 22 rfl wr.heap.size 48 i0 (.int .u32 0) 1 4 Tryd.underlying22 hi hz0 hz1 hz2 rfl (by decide) v _ _ rfl (HN.out.alloc _).row ⟨x4.heap.size, 0, none⟩ 1 1 [.int .u32 0] rfl rfl (cell_one_new _ _ _) ?c2 ?c3 ?c4 ?c5 ?_))
      case c2 => intro u hu; simp at hu; subst hu; rfl
      case c3 => have := trm_le ((z0.take len0).take 100); simp [maxLen] at this ⊢; omega
      case c4 => have := trm_le ((z0.take len0).take 100); simp at this ⊢; omega
      case c5 => have := B4.out.size; simp; omega
      intro v' x5 h1 h2 h3
      have hb5 := (B4.out.alloc B4.out.size (.cells #[.int .u32 0] 48)).grown h2 (by have := B4.out.size; simp; omega) HN.out.at
      have ho : Own x5 wr.heap.size v' (Na.trm ((z0.take len0).take 100) ++ [0]) := own_of (n := (Na.trm ((z0.take len0).take 100)).length + 1) (by simpa using h1)
      have hbad := ho.bad (rgt_zero _) (by have := trm_le ((z0.take len0).take 100); simp at this ⊢; omega)
      have HL5 := Lib.hid (HL.out.below hb5)
      have B5 := Lib.hid (B3.out.trans (hb5.mono B3.out.size))
      have HV := Lib.hid hbad
      clear h1 h2 h3 ho hb5 hbad HN HL B4
      obtain ⟨A', c', l', rfl, -⟩ := HV.out.is
      have T5 : Two (x5.alloc (.cells #[.slice A' l'.length c', .slice (some ⟨g, 0, none⟩) k k] 22)) x5.heap.size (.slice A' l'.length c') (.slice (some ⟨g, 0, none⟩) k k) :=
        ⟨heap_alloc_new _ _, HV.out.below ((Below.refl _ _).alloc (Nat.le_refl _) _), HL5.out.below ((Below.refl _ _).alloc (Nat.le_refl _) _)⟩
      have HT5 := Lib.hid T5
      have B6 := Lib.hid (B5.out.alloc B5.out.size (.cells #[.slice A' l'.length c', .slice (some ⟨g, 0, none⟩) k k] 22))
      clear HV HL5 T5
      go_wp2_with fail
      obtain ⟨x6, hx6⟩ : ∃ x6, x5.alloc (.cells #[.slice A' l'.length c', .slice (some ⟨g, 0, none⟩) k k] 22) = x6 := ⟨_, rfl⟩
      obtain ⟨g2, hg2⟩ : ∃ g2, x5.heap.size = g2 := ⟨_, rfl⟩
      rw [hx6, hg2] at HT5
      rw [hx6] at B6
      rw [hx6, hg2]
      generalize Value.slice A' l'.length c' = v0 at HT5
      generalize Value.slice (some ⟨g, 0, none⟩) k k = v1 at HT5
      clear hx6 hg2 B5
      go_loopw [53] (fun i wr => ∃ j : Nat, j ≤ 2 ∧ i = .int .i64 j ∧ Hid (Two wr g2 v0 v1 ∧ Below w.heap.size w wr)) (fun i _ => 2 - (intOf i).toNat)
      case atStart => exact ⟨0, by omega, rfl, Lib.hid ⟨HT5.out, B6.out⟩⟩
      case round =>
        obtain ⟨j, hj, rfl, HR⟩ := hrel
        by_cases h0 : j = 2
        · subst h0
          have B8 := Lib.hid HR.out.2
          clear HR HT5 B6
          go_wp2_with (first
            | (go_at_call 14; (with_reducible refine (H0.out wr B8.out).mono ?_); rintro e x9 ⟨v9, rfl, h, hb⟩; have B9 := Lib.hid (B8.out.trans (hb.mono B8.out.size)); obtain ⟨A9, c9, l9, rfl, h9, h9l⟩ := h.sl; have PW := Lib.hid (pow_no A9 c9 l9 (-1 - a1) x9 h9 h9l (.inr NG.out)); clear h hb h9 h9l)
            | (go_at_call 27; (with_reducible refine (PW.out).mono ?_); rintro e x10 ⟨rfl, rfl⟩))
          go_ret
          exact ⟨rfl, B9.out⟩
        · have j0 : (0 : Int) ≤ (j : Int) := by omega
          have j1 : (j : Int) < 2 := by omega
          obtain ⟨v, hc, hbad⟩ := HR.out.1.at j (by omega)
          have HV := Lib.hid hbad; clear hbad h0
          obtain ⟨A3, c3, l3, rfl, hrd, hrg, hl3⟩ := HV.out.is
          have U := Lib.hid (uint_no A3 c3 l3 wr hrd (by omega) (.inl hrg))
          have R := Lib.hid (right_any A3 c3 l3 wr hrd (by omega))
          rw [hrg] at R
          clear hrd hrg hl3
          go_wp2_with (first
            | (go_at_call 24; (with_reducible refine (U.out).mono ?_); rintro e x7 ⟨rfl, rfl⟩)
            | (go_at_call 18; (with_reducible refine (R.out).mono ?_); rintro e x7 ⟨rfl, rfl⟩))
          have HF := Lib.hid (laid4_four HV.out)
          have HB4 := Lib.hid (laid4_bel wr (.slice A3 l3.length c3))
          obtain ⟨x7, hx7⟩ : ∃ x7, laid4 wr (.slice A3 l3.length c3) = x7 := ⟨_, rfl⟩
          obtain ⟨g4, hg4⟩ : ∃ g4, wr.heap.size + 2 = g4 := ⟨_, rfl⟩
          have T7 := Lib.hid (HR.out.1.kept HB4.out)
          have B7 := Lib.hid (HR.out.2.trans (HB4.out.mono HR.out.2.size))
          have V7 := Lib.hid (HV.out.below HB4.out)
          rw [hx7, hg4] at HF
          rw [hx7] at T7 B7 V7
          show Code.wp _ _ _ _ (laid4 wr (.slice A3 l3.length c3))
          rw [hx7]
          generalize Value.slice (some ⟨wr.heap.size, 0, none⟩) 1 1 = p0 at HF
          generalize Value.slice (some ⟨wr.heap.size + 1, 0, none⟩) 1 1 = p1 at HF
          first | rw [hg4] | rw [show wr.heap.size + 1 + 1 = g4 from hg4] | skip
          clear hx7 hg4 HB4 HR HV U R
          generalize Value.slice A3 l3.length c3 = v at HF V7
          go_loopw [75] (fun i wr => ∃ j : Nat, j ≤ 2 ∧ i = .int .i64 j ∧ Hid (Four wr g4 v p0 p1 v ∧ Below x7.heap.size x7 wr)) (fun i _ => 2 - (intOf i).toNat)
          case atStart => exact ⟨0, by omega, rfl, Lib.hid ⟨HF.out, Below.refl _ _⟩⟩
          case round =>
            obtain ⟨i, hi, rfl, HR⟩ := hrel
            by_cases h0 : i = 2
            · subst h0
              have HV := Lib.hid (V7.out.below HR.out.2)
              have T8 := Lib.hid (T7.out.kept HR.out.2)
              have B8 := Lib.hid (B7.out.trans (HR.out.2.mono B7.out.size))
              clear HR V7 T7 B7 HF
              obtain ⟨A6, c6, l6, rfl, hrd, hrg, hl6⟩ := HV.out.is
              have PW := Lib.hid (pow_no A6 c6 l6 0 wr hrd (by omega) (.inl hrg))
              have TX := Lib.hid (text_no A6 c6 l6 wr hrd (by omega) hrg)
              clear hrd hrg hl6
              go_wp2_with (first
                | (go_at_call 27; (with_reducible refine (PW.out).mono ?_); rintro e x9 ⟨rfl, rfl⟩)
                | (go_at_call 25; (with_reducible refine (TX.out).mono ?_); rintro e x9 ⟨rfl, rfl⟩))
              exact ⟨⟨j + 1, by omega, by go_num, Lib.hid ⟨T8.out, B8.out⟩⟩, by simp [intOf]; omega⟩
            · have i0 : (0 : Int) ≤ (i : Int) := by omega
              have i1 : (i : Int) < 2 := by omega
              obtain ⟨x, y, hcx, hcy, hp⟩ := HR.out.1.at i (by omega)
              have HP := Lib.hid hp; clear hp h0
              obtain ⟨A5, c5, l5, B5, d5, m5, rfl, rfl, s1, s2, q1, q2, q3⟩ := HP.out.is
              have hbw : Below wr.heap.size wr (wr.alloc (.cells #[.slice A5 l5.length c5, .slice B5 m5.length d5] 51)) := (Below.refl _ _).alloc (Nat.le_refl _) _
              have r1 := s1.below hbw
              have r2 := s2.below hbw
              have HS := Lib.hid (And.intro (HR.out.1.kept hbw) (HR.out.2.trans (hbw.mono HR.out.2.size)))
              clear HP HR hbw s1 s2
              have C1 := Lib.hid (cmp_no A5 B5 c5 d5 l5 m5 _ r1 r2 (by omega) (by omega) q3)
              have C2 := Lib.hid (add_no A5 B5 c5 d5 l5 m5 _ r1 r2 (by omega) (by omega) q3)
              have C3 := Lib.hid (sub_no A5 B5 c5 d5 l5 m5 _ r1 r2 (by omega) (by omega) q3)
              have C4 := Lib.hid (mul_no A5 B5 c5 d5 l5 m5 _ r1 r2 (by omega) (by omega) q3)
              have C5 := Lib.hid (divmod_no A5 B5 c5 d5 l5 m5 _ r1 r2 (by omega) (by omega) q3)
              clear r1 r2 q1 q2 q3
              go_wp2_with (first
                | (go_at_call 23; (with_reducible refine (C1.out).mono ?_); rintro e x9 ⟨rfl, rfl⟩)
                | (go_at_call 17; (with_reducible refine (C2.out).mono ?_); rintro e x9 ⟨rfl, rfl⟩)
                | (go_at_call 21; (with_reducible refine (C3.out).mono ?_); rintro e x9 ⟨rfl, rfl⟩)
                | (go_at_call 16; (with_reducible refine (C4.out).mono ?_); rintro e x9 ⟨rfl, rfl⟩)
                | (go_at_call 15; (with_reducible refine (C5.out).mono ?_); rintro e x9 ⟨rfl, rfl⟩))
              exact ⟨⟨i + 1, by omega, by go_num, HS⟩, by simp [intOf]; omega⟩
    · have hB := HR.out.1
      have hset := hB.set k (by simp; omega) 1 (i := k) (by simp)
      rw [ones_set (by omega)] at hset
      have hf := hB.free k
      have hc := hB.cell k (by simp; omega) (i := k) (by simp)
      have hb := HR.out.2.grown (grown_set wr ⟨g, k, none⟩ (.int .u32 1)) HR.out.2.size (fun j hj => by cases hj; exact hg1)
      have i0 : (0 : Int) ≤ (k : Int) := by omega
      have i1 : (k : Int) < (K : Int) := by omega
      have HS := Lib.hid (And.intro hset hb); clear hset hb hB h0
      go_wp2_with fail
      exact ⟨⟨k + 1, by omega, by go_num, HS⟩, by simp [intOf]; omega⟩

end Go.Proofs.YtgcfmkelanhdhaaDoor
