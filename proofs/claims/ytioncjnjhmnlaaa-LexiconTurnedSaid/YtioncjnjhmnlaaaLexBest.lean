/-
  Best: the hits with the first one's cost.
-/
import Derived.Test.YtioncjnjhmnlaaaLexNear
namespace Go.Proofs.Ytioncjnjhmnlaaa
open Go.RowKit Go.Shelf Lx
set_option linter.unusedVariables false
set_option linter.unusedSimpArgs false

def bestOf : List (Int × Int) → List (Int × Int)
  | [] => []
  | x :: l => (x :: l).takeWhile fun y => decide (y.2 = x.2)
theorem tw_take {α : Type} (p : α → Bool) (l : List α) (i : Nat) (hi : i < l.length) (h1 : ∀ j (h : j < i), p (l[j]'(by omega)) = true) (h2 : p l[i] = false) : l.takeWhile p = l.take i := by
  induction l generalizing i with
  | nil => simp at hi
  | cons x l ih =>
    cases i with
    | zero =>
      have : p x = false := h2
      rw [List.takeWhile_cons, this]; rfl
    | succ i =>
      have hx : p x = true := h1 0 (by omega)
      rw [List.takeWhile_cons, hx, List.take_succ_cons]
      simp only [if_true]
      rw [ih i (by simpa using hi) (fun j h => h1 (j + 1) (by omega)) h2]
theorem tw_all {α : Type} (p : α → Bool) (l : List α) (h1 : ∀ x, x ∈ l → p x = true) : l.takeWhile p = l := by
  induction l with
  | nil => rfl
  | cons x l ih =>
    rw [List.takeWhile_cons, h1 x (List.mem_cons_self ..)]
    simp only [if_true]
    rw [ih fun y hy => h1 y (List.mem_cons_of_mem _ hy)]
theorem best_take (l : List (Int × Int)) (i : Nat) (hi : i < l.length) (h1 : ∀ j (h : j < i), (l[j]'(by omega)).2 = (l[0]'(by omega)).2) (h2 : l[i].2 ≠ (l[0]'(by omega)).2) : bestOf l = l.take i := by
  cases l with
  | nil => simp at hi
  | cons x l => exact tw_take _ _ i hi (fun j h => decide_eq_true (h1 j h)) (decide_eq_false h2)
theorem best_all (l : List (Int × Int)) (h1 : ∀ j (h : j < l.length), l[j].2 = (l[0]'(by omega)).2) : bestOf l = l := by
  cases l with
  | nil => rfl
  | cons x l =>
    refine tw_all _ _ fun y hy => decide_eq_true ?_
    obtain ⟨j, hj, rfl⟩ := List.getElem_of_mem hy
    exact h1 j hj
def PostBest (l : List (Int × Int)) (w : World) (e : Ending) (w' : World) : Prop :=
  ∃ A cp, e = .returned (.tuple #[.slice A l.length cp, .int .i64 0]) ∧ RdH w' A l ∧ l.length ≤ cp ∧ cp ≤ 9223372036854775807 ∧ Below w.heap.size w w'
theorem RdH.take {w : World} {A : Option Addr} {l : List (Int × Int)} (h : RdH w A l) (i : Nat) : RdH w A (l.take i) := by
  intro h0
  rw [List.length_take] at h0
  obtain ⟨b, off, e, hb, hc⟩ := h (by omega)
  exact ⟨b, off, e, hb, fun j hj => by rw [List.length_take] at hj; rw [List.getElem_take]; exact hc j (by omega)⟩
set_option maxRecDepth 100000 in
set_option maxHeartbeats 4000000 in
theorem best_ok (base x : Nat) (c : Ed.Cst) (ws : List ByteArray) (s : ByteArray) (most : Int) (w : World) (hL : LexO w base x ws) (hc : c.ok) (hs : s.size ≤ 60) :
    Calls Try.prog 12 #[.pointer (some ⟨x, 0, none⟩), .string s, cstV c, .int .i64 most] w (PostBest (bestOf (nearOf c ws s most)) w) := by
  have hmany : ws.length ≤ 1000 := by obtain ⟨A, cp, root, cap, N, M, h1, h2, h3, h4, h5⟩ := hL; exact h5.many
  obtain ⟨w1, hw1⟩ : ∃ w1, w1 = w.alloc (.cells #[.int .i64 c.ins, .int .i64 c.del, .int .i64 c.chg, .int .i64 c.swp] 24) := ⟨_, rfl⟩
  have hb1 : Below w.heap.size w w1 := by rw [hw1]; exact below_new w _
  have hN := near_ok base x c ws s most w1 (hL.below hb1) hc hs
  have hlen : (nearOf c ws s most).length ≤ 1000 := by
    unfold nearOf
    rw [List.length_mergeSort]
    have := HL_len c ws s most ws.length
    omega
  generalize nearOf c ws s most = L at hN hlen ⊢
  unfold cstV at hN ⊢
  have HN := Lib.hid hN; have HB1 := Lib.hid hb1
  clear hN hb1 hL
  go_enter Try.func12, Try.ntmps12
  go_wp2_with fail
  rw [← hw1]
  go_wp2_with (go_at_call 11; (with_reducible refine HN.out.mono ?_); rintro e w2 ⟨A, n, cp, rfl, ho, hb2⟩; obtain ⟨A', cp', e1, e2, e3, e4⟩ := ho.shape; cases e1; have HR := Lib.hid e4; have HB2 := Lib.hid hb2; clear ho hb2 e4)
  have hbw : Below w.heap.size w w2 := HB1.out.trans (HB2.out.mono HB1.out.size)
  have HBW := Lib.hid hbw; have HC := Lib.hid e2; have HC2 := Lib.hid e3
  clear hbw e2 e3 HN hw1
  go_loopw [24] (fun j wr => ∃ i : Nat, i ≤ L.length ∧ j = .int .i64 (i : Int) ∧ Hid (∀ j (h : j < i) (h2 : j < L.length), L[j].2 = (L[0]'(by omega)).2) ∧ Hid (Below w2.heap.size w2 wr)) (fun j _ => L.length - (intOf j).toNat)
  case atStart => exact ⟨0, Nat.zero_le _, rfl, Lib.hid (fun j h => by omega), Lib.hid (Below.refl _ _)⟩
  case round =>
    obtain ⟨i, hi, rfl, hE, hB⟩ := hrel
    by_cases hlt : i < L.length
    · have i1 : decide ((i : Int) < (L.length : Int)) = true := decide_eq_true (by omega)
      have hr := HR.out.below hB.out
      obtain ⟨b, off, rfl, hbl, hc⟩ := hr (by omega)
      obtain ⟨c0, c1⟩ := hc i hlt
      obtain ⟨-, z1⟩ := hc 0 (by omega)
      rw [show off + 0 * 2 + 1 = off + 1 by omega] at z1
      have hbs := fun h => best_take L i hlt (fun j hj => hE.out j hj (by omega)) h
      have hst : ∀ h : L[i].2 = (L[0]'(by omega)).2, ∀ j (h : j < i + 1) (h2 : j < L.length), L[j].2 = (L[0]'(by omega)).2 := fun h j hj h2 => by
        by_cases e : j = i
        · subst e; exact h
        · exact hE.out j (by omega) h2
      have hi0 : (0 : Int) < (L.length : Int) := by omega
      obtain ⟨d, hd⟩ : ∃ d, L[i].2 = d := ⟨_, rfl⟩
      obtain ⟨d1, hd1⟩ : ∃ d, L[i].1 = d := ⟨_, rfl⟩
      obtain ⟨d0, hd0⟩ : ∃ d, (L[0]'(by omega)).2 = d := ⟨_, rfl⟩
      rw [hd, hd0] at hbs hst
      rw [hd] at c1; rw [hd1] at c0; rw [hd0] at z1
      have HBS := Lib.hid hbs; have HST := Lib.hid hst
      clear hbs hst hd hd0 hd1 hc hr
      have hV : ∀ V, V = wr.alloc (.cells #[.int .i64 d1, .int .i64 d] 38) → V.cell? ⟨wr.heap.size, 1, none⟩ = some (.int .i64 d) ∧ V.cell? ⟨b, off + 1, none⟩ = some (.int .i64 d0) ∧ Below wr.heap.size wr V := by
        rintro V rfl
        exact ⟨by go_simp, (bcell (below_new wr _) b _ hbl).trans z1, below_new wr _⟩
      have HV := Lib.hid hV
      clear hV
      go_wp2
      obtain ⟨V, hVe⟩ : ∃ V, wr.alloc (.cells #[.int .i64 d1, .int .i64 d] 38) = V := ⟨_, rfl⟩
      obtain ⟨v0, v1, hbV⟩ := HV.out V hVe.symm
      obtain ⟨g, hg⟩ : ∃ g, wr.heap.size = g := ⟨_, rfl⟩
      rw [hVe, hg]
      rw [hg] at v0
      have HBV := Lib.hid hbV
      clear hbV hVe HV c0 c1 z1 hg
      go_region
      by_cases e : d = d0
      · subst e
        have e1 : (d != d) = false := by simp
        go_wp2
        go_roundw
        case rel => exact ⟨i + 1, by omega, by go_num, Lib.hid (HST.out rfl), Lib.hid (hB.out.trans ((HBV.out.mono hB.out.size).drew))⟩
        case measure => simp [intOf]; omega
      · have e1 : (d != d0) = true := by rw [bne_iff_ne]; exact e
        have hbe := HBS.out e
        have hB9 := hB.out.trans ((HBV.out.mono hB.out.size).drew)
        have HB9 := Lib.hid hB9; have HBE := Lib.hid hbe
        have i2 : (i : Int) ≤ (cp : Int) := by have := HC.out; omega
        clear hB9 hbe
        go_wp2
        go_ret2
        have hlt2 : (L.take i).length = i := by rw [List.length_take]; omega
        rw [HBE.out]
        refine ⟨some ⟨b, off, none⟩, cp, by rw [hlt2]; rfl, (HR.out.below HB9.out).take i, by have := HC.out; omega, HC2.out, HBW.out.trans (HB9.out.mono HBW.out.size)⟩
    · obtain rfl : i = L.length := by omega
      have i1 : decide ((L.length : Int) < (L.length : Int)) = false := decide_eq_false (by omega)
      have hbe := best_all L fun j h => hE.out j h h
      have HBE := Lib.hid hbe
      clear hbe
      go_wp2
      go_ret2
      rw [HBE.out]
      exact ⟨A, cp, rfl, HR.out.below hB.out, HC.out, HC2.out, HBW.out.trans (hB.out.mono HBW.out.size)⟩
end Go.Proofs.Ytioncjnjhmnlaaa
