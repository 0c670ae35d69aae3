/-
  The walk of the iterator of the rows.
-/
import Derived.Test.YthojojjdamchpaaEdiTell
namespace Go.Proofs.Ythojojjdamchpaa
open Go.RowKit Go.Shelf
set_option linter.unusedVariables false
set_option linter.unusedSimpArgs false
attribute [local go_sem] Oper.semAt_some

set_option maxRecDepth 100000 in
set_option maxHeartbeats 4000000 in
theorem rows_told (c : Ed.Cst) (a b : ByteArray) (hc : c.ok) (ha : a.size ≤ 60) (hb : b.size ≤ 60) (q0 : Nat) (w0 : World) (hq : q0 + 3 = w0.heap.size) (hcap : Caps w0 q0 (q0 + 1) (q0 + 2) a b c) :
    Told Try.prog 27 #[.pointer (some ⟨q0 + 1, 0, none⟩), .pointer (some ⟨q0, 0, none⟩), .pointer (some ⟨q0 + 2, 0, none⟩)] (Val.encs (b.size + 1)) (Tl c a b w0.heap.size) (KQ q0) (fun xs => xs.length = a.size + 1) (fun _ => True) w0 := by
  intro l J Jx W hW hsz hJ hJx hY h0
  have hcapW := hcap.below hW
  have HY := Lib.hid hY; have HJ := Lib.hid hJ; have H0 := Lib.hid h0; have HC := Lib.hid hc; have HQ := Lib.hid hq; have HSZ := Lib.hid hsz; have HCap := Lib.hid hcapW
  have a2 := hcapW.cb
  have hbi : (b.size : Int) ≤ 60 := by omega
  have hai : (a.size : Int) ≤ 60 := by omega
  clear hY hJ hJx h0 hcap hW hq hsz hc hcapW
  refine (callsIn_wide (n := 5)).1 ?_
  refine callsIn_of_wp Try.func27 rfl trivial ?_ rfl
  simp only [Try.ntmps27, List.size_toArray, List.length_cons, List.length_nil, Nat.reduceAdd, Nat.reduceSub, Array.replicate_succ, Array.replicate_zero, List.push_toArray, List.append_toArray, List.nil_append, List.cons_append]
  gi_wp2
  have hM : MkS W (W.alloc (.cells #[.slice none 0 0, .slice none 0 0, .slice none 0 0] 70)) (b.size + 1) 0 :=
    ⟨below_new W _, by simp, heap_alloc_new W _, fun t ht => by omega⟩
  have HM := Lib.hid hM
  clear hM
  gi_loopw [11] (fun s11 wr => ∃ k : Nat, s11 = .int .i64 k ∧ k ≤ 3 ∧ Hid (MkS W wr (b.size + 1) k)) (fun s11 _ => 3 - (intOf s11).toNat)
  case atStart => exact ⟨0, rfl, by omega, HM⟩
  case round =>
    obtain ⟨k, rfl, hk, HS⟩ := hrel
    clear HM
    by_cases hlt : k < 3
    · have hk3 : (k : Int) < 3 := by omega
      have d2 := cell_keep a2 HS.out.bel
      clear a2
      gi_wp2_with (refine wpListIn_make_row _ rfl (.tmp 17) (.tmp 17) rfl (b.size + 1) rfl rfl (by omega) ?_; intro w2 hr2 hb2 hs2; obtain ⟨x2, y2⟩ := HS.out.cells hlt hb2; have hN := Lib.hid (HS.out.next hlt hr2 hb2 hs2); clear hr2 hb2 hs2; unfold sl at hN ⊢)
      exact ⟨⟨k + 1, by go_num, by omega, hN⟩, by simp [intOf]; omega⟩
    · obtain rfl : k = 3 := by omega
      have hcw := HCap.out.below HS.out.bel
      have c1 := steps_any a b c wr
      unfold cstV at c1
      have C1 := Lib.hid c1
      clear c1
      obtain ⟨g1, g2, g3, g4, g5, g6⟩ := hcw
      clear a2
      gi_wp2_with (first
        | (refine ⟨trivial, ?_⟩; gi_at_call 29; (with_reducible refine (callsIn_wide.2 C1.out).mono ?_); rintro e w1 ⟨m, A, B, C, rfl, hmap, hcc, hbb, hlA, hlB, hlC⟩; have HL := Lib.hid (And.intro hlA (And.intro hlB hlC)); have I1 := Lib.hid (inOrder_any m A B C w1 hmap); have HC1 := Lib.hid hcc; have HB1 := Lib.hid hbb; clear hmap hcc hbb hlA hlB hlC)
        | (refine ⟨trivial, ?_⟩; gi_at_call 28; (with_reducible refine (callsIn_wide.2 I1.out).mono ?_); rintro e w2 ⟨rfl, hb2⟩; have HB2 := Lib.hid hb2; have k1 := fun o => cell_keep (cell_keep (cell_keep g1 HB1.out) HB2.out) (below_new w2 o); clear hb2 g1 g2 g3 g4 g5 g6; unfold ordV fn1 fn2 fn3 fn4 fn5))
      have hst := It.start HS.out HCap.out (by have := HQ.out; have := HSZ.out; omega) HB1.out HC1.out HB2.out
      obtain ⟨w3, hw3⟩ : ∃ w3, w3 = w2.alloc (.cells #[.nilFunc, fn1 A B, fn2 A B C, fn3 A B C, fn4 A C, fn5 B C] 73) := ⟨_, rfl⟩
      rw [← hw3] at hst
      obtain ⟨hI, hch⟩ := hst
      have HLie : Hid (Lie q0 W.heap.size w2.heap.size A B C) := Lib.hid (by
        have h1 := HS.out.size; have h2 := HB1.out.size; have h3 := HB2.out.size; have := HL.out; have := HQ.out; have := HSZ.out
        exact ⟨by omega, by omega, by omega, by omega, by omega⟩)
      have HI := Lib.hid hI; have HJ3 := Lib.hid (HJ.out _ _ _ H0.out hch)
      unfold fn1 fn2 fn3 fn4 fn5 at hw3
      rw [← hw3]
      obtain ⟨O, hO⟩ : ∃ O, O = w2.heap.size := ⟨_, rfl⟩
      obtain ⟨s, hs⟩ : ∃ s, s = W.heap.size := ⟨_, rfl⟩
      rw [← hO, ← hs]
      rw [← hO, ← hs] at HLie HI
      rw [← hs] at HJ
      have HSS := Lib.hid hs
      clear hI hch hw3 hO hs k1 HB1 HB2 HC1 HL HS C1 I1
      gi_loopw [8] (fun s8 wr => ∃ (p : Nat) (pre : List Val) (g : Nat → Nat → Int), s8 = .int .i64 ((a.size : Int) - p) ∧ p ≤ a.size + 1 ∧ Hid (pre.length = p ∧ J pre wr ∧ It c a b q0 s O A B C wr g ∧ OutP c a b p g)) (fun s8 _ => (intOf s8 + 1).toNat)
      case atStart => exact ⟨0, [], _, by simp, by omega, Lib.hid ⟨rfl, HJ3.out, HI.out, fun i' j h1 h2 h3 h4 => by omega⟩⟩
      case round =>
        obtain ⟨p, pre, g, rfl, hp, HS⟩ := hrel
        clear HI HJ3
        by_cases hlt : p ≤ a.size
        · obtain ⟨i, hi⟩ : ∃ i, i + p = a.size := ⟨a.size - p, by omega⟩
          have ei : (a.size : Int) - (p : Int) = (i : Int) := by omega
          rw [ei]
          obtain ⟨t, ht⟩ : ∃ t, i % 3 = t := ⟨_, rfl⟩
          have ht3 : t < 3 := by omega
          have et : (i : Int).tmod 3 = (t : Int) := by rw [Int.tmod_eq_emod_of_nonneg (by omega)]; omega
          have et2 : (i : Int) % 3 = (t : Int) := by omega
          have hi60 : (i : Int) ≤ 60 := by omega
          have htr := HS.out.2.2.1.turn t ht3
          have hcb := HS.out.2.2.1.cap0.cb
          have HT := Lib.hid ht; have HI0 := Lib.hid hi
          clear ht hi ei hp
          gi_wp2
          obtain ⟨wo, rfl⟩ : ∃ W, W = wr := ⟨_, rfl⟩
          clear htr hcb
          gi_loopw [10] (fun s10 wr => ∃ (q : Nat) (g2 : Nat → Nat → Int), s10 = .int .i64 ((b.size : Int) - q) ∧ q ≤ b.size + 1 ∧ Hid (J pre wr ∧ It c a b q0 s O A B C wr g2 ∧ InP c a b i q g2)) (fun s10 _ => (intOf s10 + 1).toNat)
          case atStart => exact ⟨0, _, by simp, by omega, Lib.hid ⟨HS.out.2.1, HS.out.2.2.1, InP.start HS.out.2.2.2 HI0.out⟩⟩
          case round =>
            obtain ⟨q, g2, rfl, hq, HR⟩ := hrel
            by_cases hq2 : q ≤ b.size
            · obtain ⟨j, hj⟩ : ∃ j, j + q = b.size := ⟨b.size - q, by omega⟩
              have ej : (b.size : Int) - (q : Int) = (j : Int) := by omega
              rw [ej]
              have hj60 : (j : Int) ≤ 60 := by omega
              have hl := HR.out.2.1.least HC.out ha hb HR.out.2.2 (by have := HI0.out; omega) hj
              obtain ⟨D, hD⟩ : ∃ D, D = Dv c a b i j := ⟨_, rfl⟩
              rw [← hD] at hl
              obtain ⟨⟨_, o1, o2, o3, o4, o5⟩, _⟩ := row6 HR.out.2.1.ord
              obtain ⟨o0, _⟩ := row6 HR.out.2.1.ord
              have o0 := o0.1
              obtain ⟨⟨r0, r1, r2⟩, _⟩ := res_facts HR.out.2.1.turns
              unfold ordV at hl
              unfold fn1 at hl o1; unfold fn2 at hl o2; unfold fn3 at hl o3; unfold fn4 at hl o4; unfold fn5 at hl o5
              unfold sl at hl r0 r1 r2
              have HL := Lib.hid hl
              have hjm : j < b.size + 1 := by omega
              have HJ0 := Lib.hid hj; have HD := Lib.hid hD
              clear hl hj ej hD hq
              gi_wp2_with (refine ⟨trivial, ?_⟩; gi_at_call 30; (with_reducible refine (callsIn_wide.2 HL.out).mono ?_); rintro e w4 ⟨rfl, hb4⟩; have h4 := HR.out.2.1.kq HLie.out (KQ.below hb4); have H4 := Lib.hid h4; have x4 := (h4.rows t ht3).cell j hjm; have y4 := (h4.rows t ht3).frozen j; have HB4 := Lib.hid hb4; clear hb4 h4)
              refine ⟨⟨q + 1, fun t' x => if t' = t ∧ x = j then D else g2 t' x, ?_, by omega, Lib.hid ⟨HJ.out _ _ _ HR.out.1 ((Chg.of_below HB4.out).trans (chg_set (n := 0) ht3)), H4.out.set HLie.out t j D ht3 hjm, ?_⟩⟩, ?_⟩
              · have := HJ0.out
                exact congrArg (Value.int .i64) (by omega)
              · have h := HR.out.2.2.next HJ0.out D HD.out
                rw [HT.out] at h
                exact h
              · simp [intOf]
            · obtain rfl : q = b.size + 1 := by omega
              have eq : (b.size : Int) - ((b.size + 1 : Nat) : Int) = -1 := by omega
              rw [eq]
              have hT : Tl c a b w0.heap.size pre ⟨i, s + 1 + t⟩ wr := by
                have h1 := HSS.out; have h2 := HSZ.out; have h3 := HI0.out; have h4 := HS.out.1
                have h5 := HR.out.2.1.rows t ht3
                refine ⟨by show i + pre.length = a.size; omega, fun j hj => ?_, by show w0.heap.size ≤ s + 1 + t; omega, h5.lt, by have := HR.out.2.1.size; omega⟩
                have h6 := h5.cell j (by omega)
                rw [← HT.out, HR.out.2.2.2 j (by omega) hj, HT.out] at h6
                exact h6
              obtain ⟨fn, tmps, assign, body, hy, hR⟩ := HY.out pre ⟨i, s + 1 + t⟩ wr HR.out.1 hT
              dsimp only [Val.encs, sl] at hy
              clear hT eq
              gi_wp2
              refine (roundIn_any hR).mono ?_
              rintro e W3 (⟨rfl, hJ3, hk3⟩ | ⟨rfl, hJx3⟩)
              · have HJ3 := Lib.hid hJ3; have HI3 := Lib.hid (HR.out.2.1.kq HLie.out hk3)
                clear hJ3 hk3 hR hy
                gi_wp2
                refine ⟨⟨p + 1, pre ++ [⟨i, s + 1 + t⟩], g2, ?_, by have := HI0.out; omega, Lib.hid ⟨by simp [HS.out.1], HJ3.out, HI3.out, HR.out.2.2.stop HI0.out⟩⟩, by simp [intOf]⟩
                have := HI0.out
                exact congrArg (Value.int .i64) (by omega)
              · have HJx := Lib.hid hJx3
                clear hJx3 hR hy
                gi_wp2
                refine bodyPost_ret (results_none rfl _ _ _) rfl ?_
                exact ⟨⟨_, rfl⟩, .inr ⟨_, trivial, HJx.out⟩⟩
        · obtain rfl : p = a.size + 1 := by omega
          have eq : (a.size : Int) - ((a.size + 1 : Nat) : Int) = -1 := by omega
          rw [eq]
          gi_wp2
          go_end0
          exact ⟨⟨_, rfl⟩, .inl ⟨pre, HS.out.1, HS.out.2.1⟩⟩
end Go.Proofs.Ythojojjdamchpaa
