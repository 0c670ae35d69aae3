/-
  numbers: the numbers of the words that end at a node or behind it.
-/
import Derived.Test.YtioncjnjhmnlaaaLexInts
namespace Go.Proofs.Ytioncjnjhmnlaaa
open Go.RowKit Lx
open Go.Maps (Keyed int_keyed)
set_option linter.unusedVariables false
set_option linter.unusedSimpArgs false

def ints (l : List Nat) : List Int := l.map fun (i : Nat) => (i : Int)
/-- the numbers of words that begin with p, none twice, in any order -/
def IsNums (F : Tx → Option Nat) (p : Tx) (L : List Nat) : Prop := L.Nodup ∧ ∀ i, i ∈ L ↔ ∃ q, F (p ++ q) = some i
def PostNums (F : Tx → Option Nat) (p : Tx) (w : World) (e : Ending) (w' : World) : Prop :=
  ∃ A n c L, e = .returned (.slice A n c) ∧ OwnI w' w.heap.size (.slice A n c) (ints L) ∧ IsNums F p L ∧ Below w.heap.size w w'
theorem nodup_len {n : Nat} : ∀ {L : List Nat}, L.Nodup → (∀ i, i ∈ L → i < n) → L.length ≤ n := by
  induction n with
  | zero =>
    intro L h h2
    cases L with
    | nil => simp
    | cons x L => have := h2 x (List.mem_cons_self ..); omega
  | succ n ih =>
    intro L h h2
    have h3 := ih (h.erase n) (fun i hi => by
      have h4 := (List.Nodup.mem_erase_iff h).1 hi
      have := h2 i h4.2
      have := h4.1
      omega)
    by_cases hn : n ∈ L
    · have := List.length_erase_of_mem hn
      have : 0 < L.length := List.length_pos_of_mem hn
      omega
    · rw [List.erase_of_not_mem hn] at h3; omega
/-- half of the way: what has come -/
def Half (F N : Tx → Option Nat) (p : Tx) (left : Lit → Bool) (L : List Nat) : Prop :=
  L.Nodup ∧ ∀ i, i ∈ L ↔ F p = some i ∨ ∃ b q, N (p ++ [b]) ≠ none ∧ left (kb b) = false ∧ F (p ++ [b] ++ q) = some i
theorem ints_append (a b : List Nat) : ints (a ++ b) = ints a ++ ints b := by simp [ints]
theorem ints_length (a : List Nat) : (ints a).length = a.length := by simp [ints]
section
variable {w : World} {base root cap : Nat} {N M F : Tx → Option Nat}
theorem IsNums.few (h : Tri w base root cap N M F) {p : Tx} {L : List Nat} (hL : IsNums F p L) : L.length ≤ 1000 :=
  nodup_len hL.1 fun i hi => by obtain ⟨q, hq⟩ := (hL.2 i).1 hi; exact h.few _ _ hq
theorem Half.few (h : Tri w base root cap N M F) {p : Tx} {L : List Nat} {left : Lit → Bool} (hL : Half F N p left L) : L.length ≤ 1000 :=
  nodup_len hL.1 fun i hi => by
    rcases (hL.2 i).1 hi with hq | ⟨b, q, -, -, hq⟩
    · exact h.few _ _ hq
    · exact h.few _ _ hq
theorem Half.start (h : Tri w base root cap N M F) {p : Tx} {left : Lit → Bool} (hl : ∀ b, N (p ++ [b]) ≠ none → left (kb b) = true) : Half F N p left (match F p with | some i => [i] | none => []) := by
  cases hF : F p with
  | none =>
    refine ⟨List.nodup_nil, fun i => ⟨fun hi => (by cases hi), ?_⟩⟩
    rintro (hq | ⟨b, q, h1, h2, -⟩)
    · cases hq.symm.trans hF
    · rw [hl b h1] at h2; cases h2
  | some v =>
    refine ⟨by simp, fun i => ⟨fun hi => (by simp at hi; subst hi; exact .inl hF), ?_⟩⟩
    rintro (hq | ⟨b, q, h1, h2, -⟩)
    · rw [hF] at hq; cases hq; simp
    · rw [hl b h1] at h2; cases h2
theorem Half.step (h : Tri w base root cap N M F) {p : Tx} {left : Lit → Bool} {L L2 : List Nat} {b : UInt8} (hb : left (kb b) = true) (h1 : Half F N p left L) (h2 : IsNums F (p ++ [b]) L2) :
    Half F N p (fun z => left z && !z.sameKey (kb b)) (L ++ L2) := by
  refine ⟨List.nodup_append.2 ⟨h1.1, h2.1, fun x hx y hy e => ?_⟩, fun i => ?_⟩
  · subst e
    obtain ⟨q2, hq2⟩ := (h2.2 x).1 hy
    rcases (h1.2 x).1 hx with hq | ⟨b', q, -, hl, hq⟩
    · have := congrArg List.length (h.sole _ _ _ hq hq2)
      simp at this
    · have := h.sole _ _ _ hq hq2
      rw [List.append_assoc, List.append_assoc] at this
      have := List.append_cancel_left this
      simp at this
      obtain ⟨rfl, -⟩ := this
      rw [hb] at hl; cases hl
  · rw [List.mem_append, h1.2, h2.2]
    constructor
    · rintro ((hq | ⟨b', q, hn, hl, hq⟩) | ⟨q, hq⟩)
      · exact .inl hq
      · exact .inr ⟨b', q, hn, by simp [hl], hq⟩
      · refine .inr ⟨b, q, ?_, by simp [WideAt.sameKey_self (litB b)], hq⟩
        intro hh
        have := h.ends _ (by rw [hq]; simp)
        exact this (h.dead _ hh q)
    · rintro (hq | ⟨b', q, hn, hl, hq⟩)
      · exact .inl (.inl hq)
      · by_cases e : b' = b
        · subst e; exact .inr ⟨q, hq⟩
        · refine .inl (.inr ⟨b', q, hn, ?_, hq⟩)
          have : (kb b').sameKey (kb b) = false := Maps.sameKey_ne (kb_ne e)
          simpa [this] using hl
theorem Half.stop (h : Tri w base root cap N M F) {p : Tx} {left : Lit → Bool} {L : List Nat} (hl : ∀ z, left z = false) (h1 : Half F N p left L) : IsNums F p L := by
  refine ⟨h1.1, fun i => ?_⟩
  rw [h1.2]
  constructor
  · rintro (hq | ⟨b, q, -, -, hq⟩)
    · exact ⟨[], by simpa using hq⟩
    · exact ⟨b :: q, by simpa using hq⟩
  · rintro ⟨q, hq⟩
    cases q with
    | nil => exact .inl (by simpa using hq)
    | cons b q =>
      refine .inr ⟨b, q, ?_, hl _, by simpa using hq⟩
      intro hh
      have := h.ends _ (show F (p ++ b :: q) ≠ none by rw [hq]; simp)
      have h3 := h.dead _ hh q
      rw [List.append_assoc] at h3
      exact this h3

theorem numbers_nil (w : World) : Calls Try.prog 33 #[.pointer none] w fun e w' => e = .returned (.slice none 0 0) ∧ w = w' := by
  go_enter Try.func33, Try.ntmps33
  go_wp2
  go_ret
  exact ⟨rfl, rfl⟩
def isB (x : UInt8) : Value := .int .u8 (x.toNat : Int)
theorem keyB_inv {key : Value} {kl : Lit} (h : keyOf Try.prog 5 key = some kl) : ∃ x : UInt8, key = isB x ∧ kl = kb x := by
  obtain ⟨x, rfl, rfl, hw⟩ := Maps.keyOf_int_inv Try.underlying5 h
  obtain ⟨h0, h1⟩ := u8_bd hw
  have e : ((UInt8.ofNat x.toNat).toNat : Int) = x := by
    rw [UInt8.toNat_ofNat']
    have : x.toNat % 2 ^ 8 = x.toNat := Nat.mod_eq_of_lt (by omega)
    omega
  exact ⟨UInt8.ofNat x.toNat, by unfold isB; rw [e], by unfold kb; rw [e]⟩
set_option maxRecDepth 100000 in
set_option maxHeartbeats 4000000 in
theorem numbers_step (h : Tri w base root cap N M F) (p : Tx) (a m : Nat) (hp : N p = some a) (hm : M p = some m)
    (ih : ∀ (b : UInt8) (g : Nat) (w1 : World), N (p ++ [b]) = some g → Below w.heap.size w w1 → Calls Try.prog 33 #[.pointer (some ⟨g, 0, none⟩)] w1 (PostNums F (p ++ [b]) w1)) :
    Calls Try.prog 33 #[.pointer (some ⟨a, 0, none⟩)] w (PostNums F p w) := by
  obtain ⟨c0, c1, c2⟩ := h.cells hp
  rw [hm] at c2
  obtain ⟨hmb, D, hown, hD⟩ := h.kids p m (by rw [hp]; simp) hm
  have hmlt := hown.lt
  have hstart : ∀ b, N (p ++ [b]) ≠ none → Maps.has D (kb b) = true := fun b hb => by
    cases hh : Maps.has D (kb b) with
    | true => rfl
    | false =>
      have := Maps.atKey_of_not_has hh (ptD none)
      rw [hD b] at this
      exact absurd (ptD_inj this) hb
  have hL := Half.start h hstart
  have hat : a < w.heap.size := h.lt hp
  have H := Lib.hid h; have HD := Lib.hid hD; have HO := Lib.hid hown; have HL := Lib.hid hL; have IH := Lib.hid ih
  clear h hD hown hL hstart ih
  cases hF : F p with
  | none =>
    rw [hF] at c0 c1
    have HL2 : Hid (Half F N p (Maps.has D) []) := Lib.hid (by have := HL.out; rwa [hF] at this)
    clear HL hF
    simp only [Option.isSome_none, Option.getD_none] at c0 c1
    go_enter Try.func33, Try.ntmps33
    go_wp2_with (first
      | (at_range; refine wpList_range_own (H := Unit) _ rfl _ 55 rfl 5 54 lawB Try.underlying55 ptrE m cap D rfl HO.out ?_; intro w0 hrg0 hg0 hs0))
    have HRG := Lib.hid hrg0
    have hr0 : w.heap.size ≤ w.heap.size := Nat.le_refl _
    have HB0 := Lib.hid ((Below.refl _ w).grown hg0 (Nat.le_refl _) (fun k e => by cases e))
    have HOW := Lib.hid (OwnI.nil w0 w.heap.size)
    have HNE := Lib.hid (show (Value.slice none 0 0).ownBlock ≠ some w.heap.size by intro e; cases e)
    clear hrg0 hg0 hs0
    go_frame
    go_loopw [3] (fun l wr => ∃ A n c L left cnt, l = .slice A n c ∧ Hid (wr.ranges Try.prog 5 ptrE m (w.heap.size) cap D left cnt) ∧ Hid (OwnI wr w.heap.size (.slice A n c) (ints L)) ∧ Hid ((Value.slice A n c).ownBlock ≠ some (w.heap.size)) ∧ Hid (Half F N p left L) ∧ Hid (Below w.heap.size w wr)) (fun _ wr => wr.rangeLeft m (w.heap.size))
    case atStart => exact ⟨_, _, _, [], _, _, rfl, HRG, HOW, HNE, HL2, HB0⟩
    case round =>
      obtain ⟨A, n, c, L, left, cnt, rfl, hrg, how, hne, hha, hB⟩ := hrel
      go_wp2_with (at_next; refine wpList_next_ranges (H := Unit) _ rfl _ rfl 5 lawB ptrE isB nptr (fun key kl hk => by obtain ⟨x, e, -⟩ := keyB_inv hk; exact ⟨x, e⟩) (fun v y hv => by obtain ⟨o, e, -⟩ := ptrE_inv hv; exact ⟨o, e⟩) m (w.heap.size) cap _ _ _ rfl hrg.out ?_ ?_)
      · intro hc0 hl0
        go_wp2
        go_ret
        exact ⟨A, n, c, L, rfl, how.out, hha.out.stop H.out hl0, hB.out⟩
      · intro x o kl y yp w1 cnt1 hkey hlk hy hatk hrg1 hlt hg1 hs1 hen
        obtain ⟨x', ex, rfl⟩ := keyB_inv hkey
        have hxx : x = x' := by
          unfold isB at ex
          simp at ex
          exact UInt8.toNat_inj.1 (by omega)
        subst hxx
        rw [ptrE_ptr] at hy
        cases hy
        have hNo : N (p ++ [x]) = o := ptD_inj (by rw [← HD.out x, hatk])
        have hown1 : ∀ k, (Value.slice A n c).ownBlock = some k → w.heap.size ≤ k := fun k hk => (how.out.at k hk).1
        have ho1 : OwnI w1 w.heap.size (.slice A n c) (ints L) := how.out.keep fun k u hk hu => (hg1.block k (Array.getElem?_eq_some_iff.1 hu).1 (fun e => hne.out (by rw [hk, e]))).trans hu
        have hB1 : Below w.heap.size w w1 := hB.out.grown hg1 hB.out.size (fun k e => by cases e; exact hr0)
        have hrl := hrg1.lt
        have hLf := hha.out.few H.out
        have HRG1 := Lib.hid hrg1; have HO1 := Lib.hid ho1; have HB1 := Lib.hid hB1; have HLT := Lib.hid hlt; have HLK := Lib.hid hlk; have HW1 := Lib.hid hown1
        clear hrg1 ho1 hB1 hlt hlk hkey hatk hg1 hs1 ex hown1
        have fin : ∀ (L2 : List Nat), IsNums F (p ++ [x]) L2 → ∀ (w2 w3 : World) (A3 : Option Addr) (n3 c3 : Nat), Below w1.heap.size w1 w2 → OwnI w3 w.heap.size (.slice A3 n3 c3) (ints L ++ ints L2) → w2.grownBy w3 (Value.slice A n c).ownBlock → ((Value.slice A3 n3 c3).ownBlock = (Value.slice A n c).ownBlock ∨ (Value.slice A3 n3 c3).ownBlock = some w2.heap.size) →
            (∃ A n c L left cnt, Value.slice A3 n3 c3 = .slice A n c ∧ Hid (w3.ranges Try.prog 5 ptrE m (w.heap.size) cap D left cnt) ∧ Hid (OwnI w3 w.heap.size (.slice A n c) (ints L)) ∧ Hid ((Value.slice A n c).ownBlock ≠ some (w.heap.size)) ∧ Hid (Half F N p left L) ∧ Hid (Below w.heap.size w w3)) ∧ w3.rangeLeft m (w.heap.size) < wr.rangeLeft m (w.heap.size) := by
          intro L2 hn2 w2 w3 A3 n3 c3 hb2 ho3 hg3 hl3
          have hr2 := HRG1.out.kept (row := none) ⟨hb2.os, hb2.tape, hb2.output, hb2.size, fun k hk _ => hb2.block k hk⟩ (by simp) (by simp)
          have hr3 := hr2.kept hg3 (fun e => by have := HW1.out m e.symm; omega) (fun e => hne.out e.symm)
          refine ⟨⟨A3, n3, c3, L ++ L2, _, _, rfl, Lib.hid hr3, Lib.hid (by rw [ints_append]; exact ho3), Lib.hid ?_, Lib.hid (Half.step H.out HLK.out hha.out hn2), Lib.hid ?_⟩, ?_⟩
          · rcases hl3 with e | e
            · rw [e]; exact hne.out
            · rw [e]; intro e2; have e3 := Option.some.inj e2; have := hb2.size; omega
          · have h1 := HB1.out.trans (hb2.mono HB1.out.size)
            exact h1.grown hg3 h1.size (fun k e => HW1.out k e)
          · rw [hr3.left_eq, hrg.out.left_eq]; exact HLT.out
        have FIN := Lib.hid fin
        clear fin
        simp only [isB] at hen ⊢
        cases o with
        | none =>
          simp only [nptr, Option.map_none] at hen ⊢
          have hn2 : IsNums F (p ++ [x]) [] := ⟨List.nodup_nil, fun i => ⟨fun hi => (by cases hi), fun ⟨q, hq⟩ => absurd (H.out.dead _ hNo q) (H.out.ends _ (by rw [hq]; simp))⟩⟩
          have HN2 := Lib.hid hn2
          clear hn2 hNo
          have NIL := Lib.hid (numbers_nil w1)
          go_wp2_with (first
            | (go_at_call 33; (with_reducible refine NIL.out.mono ?_); rintro e w2 ⟨rfl, rfl⟩)
            | (at_builtin; refine wpList_appI w1 rfl _ _ rfl w.heap.size _ (ints L) rfl HO1.out 0 _ [] rfl (OwnI.nil _ _) (by rw [ints_length]; simp; omega) HB1.out.size ?_; intro A3 n3 c3 w3 ho3 hg3 hl3))
          go_roundw
          case rel => exact (FIN.out [] HN2.out w1 w3 A3 n3 c3 (Below.refl _ _) ho3 hg3 hl3).1
          case measure => exact (FIN.out [] HN2.out w1 w3 A3 n3 c3 (Below.refl _ _) ho3 hg3 hl3).2
        | some g =>
          simp only [nptr, Option.map_some] at hen ⊢
          have HI := Lib.hid (IH.out x g w1 hNo (HB1.out))
          clear hNo
          go_wp2_with (first
            | (go_at_call 33; (with_reducible refine HI.out.mono ?_); rintro e w2 ⟨A2, n2, c2, L2, rfl, ho2, hn2, hb2⟩; have HO2 := Lib.hid ho2; have HN2 := Lib.hid hn2; have HB2 := Lib.hid hb2; have HO4 := Lib.hid (HO1.out.below hb2); have hlf2 := IsNums.few H.out hn2; clear ho2 hn2 hb2)
            | (at_builtin; refine wpList_appI w2 rfl _ _ rfl w.heap.size _ (ints L) rfl HO4.out _ _ (ints L2) rfl HO2.out (by rw [ints_length, ints_length]; omega) (Nat.le_trans HB1.out.size HB2.out.size) ?_; intro A3 n3 c3 w3 ho3 hg3 hl3))
          go_roundw
          case rel => exact (FIN.out L2 HN2.out w2 w3 A3 n3 c3 HB2.out ho3 hg3 hl3).1
          case measure => exact (FIN.out L2 HN2.out w2 w3 A3 n3 c3 HB2.out ho3 hg3 hl3).2
  | some i =>
    rw [hF] at c0 c1
    have HL2 : Hid (Half F N p (Maps.has D) [i]) := Lib.hid (by have := HL.out; rwa [hF] at this)
    clear HL hF
    simp only [Option.isSome_some, Option.getD_some] at c0 c1
    have C2 := Lib.hid c2
    go_enter Try.func33, Try.ntmps33
    go_wp2_with (first
      | (at_builtin; refine wpList_app1I _ rfl _ _ rfl w.heap.size _ [] rfl (OwnI.nil _ _) (i : Int) w.heap.size rfl (by go_simp) (by simp) (by simp) ?_; intro A9 n9 k9 w9 ho9 hg9 hl9; have hb9 : Below w.heap.size w w9 := ((Below.refl _ w).alloc (Nat.le_refl _) _).grown hg9 (by simp) (fun k e => by cases e); have c9 := (bcell hb9 a 2 hat).trans C2.out; have HO9 := Lib.hid (HO.out.kept (row := none) ⟨hb9.os, hb9.tape, hb9.output, hb9.size, fun k hk _ => hb9.block k hk⟩ (by simp)); have HB9 := Lib.hid hb9; have HW9 := Lib.hid ho9; have HL9 := Lib.hid hl9; clear hb9 ho9 hg9 hl9)
      | (at_range; refine wpList_range_own (H := Unit) _ rfl _ 55 rfl 5 54 lawB Try.underlying55 ptrE m cap D rfl HO9.out ?_; intro w0 hrg0 hg0 hs0))
    have HRG := Lib.hid hrg0
    have hr0 : w.heap.size ≤ w9.heap.size := HB9.out.size
    have HB0 := Lib.hid (HB9.out.grown hg0 HB9.out.size (fun k e => by cases e))
    have HOW := Lib.hid (HW9.out.keep fun k o _ hk => (hg0.block k (Array.getElem?_eq_some_iff.1 hk).1 (by simp)).trans hk)
    have HNE := Lib.hid (show (Value.slice A9 n9 k9).ownBlock ≠ some w9.heap.size by intro e; have := (HW9.out.at _ e).2; omega)
    clear hrg0 hg0 hs0
    go_frame
    go_loopw [3] (fun l wr => ∃ A n c L left cnt, l = .slice A n c ∧ Hid (wr.ranges Try.prog 5 ptrE m (w9.heap.size) cap D left cnt) ∧ Hid (OwnI wr w.heap.size (.slice A n c) (ints L)) ∧ Hid ((Value.slice A n c).ownBlock ≠ some (w9.heap.size)) ∧ Hid (Half F N p left L) ∧ Hid (Below w.heap.size w wr)) (fun _ wr => wr.rangeLeft m (w9.heap.size))
    case atStart => exact ⟨_, _, _, [i], _, _, rfl, HRG, HOW, HNE, HL2, HB0⟩
    case round =>
      obtain ⟨A, n, c, L, left, cnt, rfl, hrg, how, hne, hha, hB⟩ := hrel
      go_wp2_with (at_next; refine wpList_next_ranges (H := Unit) _ rfl _ rfl 5 lawB ptrE isB nptr (fun key kl hk => by obtain ⟨x, e, -⟩ := keyB_inv hk; exact ⟨x, e⟩) (fun v y hv => by obtain ⟨o, e, -⟩ := ptrE_inv hv; exact ⟨o, e⟩) m (w9.heap.size) cap _ _ _ rfl hrg.out ?_ ?_)
      · intro hc0 hl0
        go_wp2
        go_ret
        exact ⟨A, n, c, L, rfl, how.out, hha.out.stop H.out hl0, hB.out⟩
      · intro x o kl y yp w1 cnt1 hkey hlk hy hatk hrg1 hlt hg1 hs1 hen
        obtain ⟨x', ex, rfl⟩ := keyB_inv hkey
        have hxx : x = x' := by
          unfold isB at ex
          simp at ex
          exact UInt8.toNat_inj.1 (by omega)
        subst hxx
        rw [ptrE_ptr] at hy
        cases hy
        have hNo : N (p ++ [x]) = o := ptD_inj (by rw [← HD.out x, hatk])
        have hown1 : ∀ k, (Value.slice A n c).ownBlock = some k → w.heap.size ≤ k := fun k hk => (how.out.at k hk).1
        have ho1 : OwnI w1 w.heap.size (.slice A n c) (ints L) := how.out.keep fun k u hk hu => (hg1.block k (Array.getElem?_eq_some_iff.1 hu).1 (fun e => hne.out (by rw [hk, e]))).trans hu
        have hB1 : Below w.heap.size w w1 := hB.out.grown hg1 hB.out.size (fun k e => by cases e; exact hr0)
        have hrl := hrg1.lt
        have hLf := hha.out.few H.out
        have HRG1 := Lib.hid hrg1; have HO1 := Lib.hid ho1; have HB1 := Lib.hid hB1; have HLT := Lib.hid hlt; have HLK := Lib.hid hlk; have HW1 := Lib.hid hown1
        clear hrg1 ho1 hB1 hlt hlk hkey hatk hg1 hs1 ex hown1
        have fin : ∀ (L2 : List Nat), IsNums F (p ++ [x]) L2 → ∀ (w2 w3 : World) (A3 : Option Addr) (n3 c3 : Nat), Below w1.heap.size w1 w2 → OwnI w3 w.heap.size (.slice A3 n3 c3) (ints L ++ ints L2) → w2.grownBy w3 (Value.slice A n c).ownBlock → ((Value.slice A3 n3 c3).ownBlock = (Value.slice A n c).ownBlock ∨ (Value.slice A3 n3 c3).ownBlock = some w2.heap.size) →
            (∃ A n c L left cnt, Value.slice A3 n3 c3 = .slice A n c ∧ Hid (w3.ranges Try.prog 5 ptrE m (w9.heap.size) cap D left cnt) ∧ Hid (OwnI w3 w.heap.size (.slice A n c) (ints L)) ∧ Hid ((Value.slice A n c).ownBlock ≠ some (w9.heap.size)) ∧ Hid (Half F N p left L) ∧ Hid (Below w.heap.size w w3)) ∧ w3.rangeLeft m (w9.heap.size) < wr.rangeLeft m (w9.heap.size) := by
          intro L2 hn2 w2 w3 A3 n3 c3 hb2 ho3 hg3 hl3
          have hr2 := HRG1.out.kept (row := none) ⟨hb2.os, hb2.tape, hb2.output, hb2.size, fun k hk _ => hb2.block k hk⟩ (by simp) (by simp)
          have hr3 := hr2.kept hg3 (fun e => by have := HW1.out m e.symm; omega) (fun e => hne.out e.symm)
          refine ⟨⟨A3, n3, c3, L ++ L2, _, _, rfl, Lib.hid hr3, Lib.hid (by rw [ints_append]; exact ho3), Lib.hid ?_, Lib.hid (Half.step H.out HLK.out hha.out hn2), Lib.hid ?_⟩, ?_⟩
          · rcases hl3 with e | e
            · rw [e]; exact hne.out
            · rw [e]; intro e2; have e3 := Option.some.inj e2; have := hb2.size; omega
          · have h1 := HB1.out.trans (hb2.mono HB1.out.size)
            exact h1.grown hg3 h1.size (fun k e => HW1.out k e)
          · rw [hr3.left_eq, hrg.out.left_eq]; exact HLT.out
        have FIN := Lib.hid fin
        clear fin
        simp only [isB] at hen ⊢
        cases o with
        | none =>
          simp only [nptr, Option.map_none] at hen ⊢
          have hn2 : IsNums F (p ++ [x]) [] := ⟨List.nodup_nil, fun i => ⟨fun hi => (by cases hi), fun ⟨q, hq⟩ => absurd (H.out.dead _ hNo q) (H.out.ends _ (by rw [hq]; simp))⟩⟩
          have HN2 := Lib.hid hn2
          clear hn2 hNo
          have NIL := Lib.hid (numbers_nil w1)
          go_wp2_with (first
            | (go_at_call 33; (with_reducible refine NIL.out.mono ?_); rintro e w2 ⟨rfl, rfl⟩)
            | (at_builtin; refine wpList_appI w1 rfl _ _ rfl w.heap.size _ (ints L) rfl HO1.out 0 _ [] rfl (OwnI.nil _ _) (by rw [ints_length]; simp; omega) HB1.out.size ?_; intro A3 n3 c3 w3 ho3 hg3 hl3))
          go_roundw
          case rel => exact (FIN.out [] HN2.out w1 w3 A3 n3 c3 (Below.refl _ _) ho3 hg3 hl3).1
          case measure => exact (FIN.out [] HN2.out w1 w3 A3 n3 c3 (Below.refl _ _) ho3 hg3 hl3).2
        | some g =>
          simp only [nptr, Option.map_some] at hen ⊢
          have HI := Lib.hid (IH.out x g w1 hNo (HB1.out))
          clear hNo
          go_wp2_with (first
            | (go_at_call 33; (with_reducible refine HI.out.mono ?_); rintro e w2 ⟨A2, n2, c2, L2, rfl, ho2, hn2, hb2⟩; have HO2 := Lib.hid ho2; have HN2 := Lib.hid hn2; have HB2 := Lib.hid hb2; have HO4 := Lib.hid (HO1.out.below hb2); have hlf2 := IsNums.few H.out hn2; clear ho2 hn2 hb2)
            | (at_builtin; refine wpList_appI w2 rfl _ _ rfl w.heap.size _ (ints L) rfl HO4.out _ _ (ints L2) rfl HO2.out (by rw [ints_length, ints_length]; omega) (Nat.le_trans HB1.out.size HB2.out.size) ?_; intro A3 n3 c3 w3 ho3 hg3 hl3))
          go_roundw
          case rel => exact (FIN.out L2 HN2.out w2 w3 A3 n3 c3 HB2.out ho3 hg3 hl3).1
          case measure => exact (FIN.out L2 HN2.out w2 w3 A3 n3 c3 HB2.out ho3 hg3 hl3).2
set_option maxRecDepth 100000 in
set_option maxHeartbeats 4000000 in
theorem numbers_bare (h : Tri w base root cap N M F) (p : Tx) (a : Nat) (hp : N p = some a) (hm : M p = none) :
    Calls Try.prog 33 #[.pointer (some ⟨a, 0, none⟩)] w (PostNums F p w) := by
  obtain ⟨c0, c1, c2⟩ := h.cells hp
  rw [hm] at c2
  have hat : a < w.heap.size := h.lt hp
  have hL := (Half.start h (left := fun _ => false) (p := p) (fun b hb => absurd (h.bare p (by rw [hp]; simp) hm b) hb)).stop h (fun _ => rfl)
  have HL := Lib.hid hL
  clear hL h
  have hrg : ∀ W : World, (Instr.range 55 (.map none)).run Try.prog W = _ := fun W => run_range_nilMap W _ _ _ Try.underlying55
  cases hF : F p with
  | none =>
    rw [hF] at c0 c1
    have HL2 : Hid (IsNums F p []) := Lib.hid (by have := HL.out; rwa [hF] at this)
    clear HL hF
    simp only [Option.isSome_none, Option.getD_none] at c0 c1
    have hnx : ∀ ty, (Instr.next (.pointer (some ⟨w.heap.size, 0, none⟩)) false ty).run Try.prog (w.alloc (.mapIter none 0 #[] 0)) = _ := fun ty => run_next_nilMap w ty 0 0 #[]
    have hnb : Below w.heap.size w (w.alloc (.mapIter none 0 #[] 0)) := (Below.refl _ w).alloc (Nat.le_refl _) _
    have HNB := Lib.hid hnb
    clear hnb
    go_enter Try.func33, Try.ntmps33
    go_wp2
    refine wp_loop_rounds 1 ?_
    rw [rounds_succ]
    go_wp2
    go_ret
    exact ⟨_, _, _, [], rfl, OwnI.nil _ _, HL2.out, HNB.out⟩
  | some i =>
    rw [hF] at c0 c1
    have HL2 : Hid (IsNums F p [i]) := Lib.hid (by have := HL.out; rwa [hF] at this)
    clear HL hF
    simp only [Option.isSome_some, Option.getD_some] at c0 c1
    have C2 := Lib.hid c2
    have hnx : ∀ (W : World) ty, (Instr.next (.pointer (some ⟨W.heap.size, 0, none⟩)) false ty).run Try.prog (W.alloc (.mapIter none 0 #[] 0)) = _ := fun W ty => run_next_nilMap W ty 0 0 #[]
    go_enter Try.func33, Try.ntmps33
    go_wp2_with (at_builtin; refine wpList_app1I _ rfl _ _ rfl w.heap.size _ [] rfl (OwnI.nil _ _) (i : Int) w.heap.size rfl (by go_simp) (by simp) (by simp) ?_; intro A9 n9 k9 w9 ho9 hg9 hl9; have hb9 : Below w.heap.size w w9 := ((Below.refl _ w).alloc (Nat.le_refl _) _).grown hg9 (by simp) (fun k e => by cases e); have c9 := (bcell hb9 a 2 hat).trans C2.out; have HB9 := Lib.hid hb9; have HW9 := Lib.hid ho9; clear hb9 ho9 hg9 hl9)
    refine wp_loop_rounds 1 ?_
    rw [rounds_succ]
    go_wp2
    go_ret
    exact ⟨_, _, _, [i], rfl, HW9.out.below ((Below.refl _ _).alloc (Nat.le_refl _) _), HL2.out, HB9.out.alloc HB9.out.size _⟩
theorem numbers_all (n : Nat) : ∀ (w : World) (p : Tx), Tri w base root cap N M F → 41 - p.length ≤ n → ∀ a, N p = some a →
    Calls Try.prog 33 #[.pointer (some ⟨a, 0, none⟩)] w (PostNums F p w) := by
  induction n with
  | zero =>
    intro w p h hn a hp
    have := h.tall p (by rw [hp]; simp)
    omega
  | succ n ih =>
    intro w p h hn a hp
    cases hm : M p with
    | none => exact numbers_bare h p a hp hm
    | some m => exact numbers_step h p a m hp hm fun b g w1 hg hb => ih w1 (p ++ [b]) (h.below hb) (by rw [List.length_append, List.length_singleton]; omega) g hg
theorem numbers_any (h : Tri w base root cap N M F) (p : Tx) : Calls Try.prog 33 #[nptr (N p)] w (PostNums F p w) := by
  cases hp : N p with
  | none =>
    refine (numbers_nil w).mono ?_
    rintro e w' ⟨rfl, rfl⟩
    exact ⟨none, 0, 0, [], rfl, OwnI.nil _ _, ⟨List.nodup_nil, fun i => ⟨fun hi => (by cases hi), fun ⟨q, hq⟩ => absurd (h.dead _ hp q) (h.ends _ (by rw [hq]; simp))⟩⟩, Below.refl _ _⟩
  | some a => exact numbers_all (41 - p.length) w p h (Nat.le_refl _) a hp
end
end Go.Proofs.Ytioncjnjhmnlaaa
