/-
  The methods Len, Word, Find, Prefix.
-/
import Derived.Test.YtioncjnjhmnlaaaLexNew
import Derived.Sort.OwnSortedInts
namespace Go.Proofs.Ytioncjnjhmnlaaa
open Go.RowKit Lx
set_option linter.unusedVariables false
set_option linter.unusedSimpArgs false

theorem field_root (A : Option Addr) (n c root : Nat) (W : World) : (Instr.field 61 (.agg #[.slice A n c, .pointer (some ⟨root, 0, none⟩)]) 1).run Try.prog W = .ok (.pointer (some ⟨root, 0, none⟩)) W := by
  simp [Instr.field, run_underlying Try.underlying61, part, go_sem, isAgg, sizeOf, typeInfo, asAgg]
set_option maxRecDepth 100000 in
set_option maxHeartbeats 2000000 in
theorem parts_any (x root n c : Nat) (A : Option Addr) (w : World) (h : w.heap[x]? = some (.cells #[.slice A n c, .pointer (some ⟨root, 0, none⟩)] 61 (0, 0))) :
    Calls Try.prog 23 #[.pointer (some ⟨x, 0, none⟩)] w fun e w' => e = .returned (.agg #[.slice A n c, .pointer (some ⟨root, 0, none⟩)]) ∧ Below w.heap.size w w' := by
  have hlt := (Array.getElem?_eq_some_iff.1 h).1
  have c0 : w.cell? ⟨x, 0, none⟩ = some (.slice A n c) := by simp [World.cell?, h]
  have c1 : w.cell? ⟨x, 1, none⟩ = some (.pointer (some ⟨root, 0, none⟩)) := by simp [World.cell?, h]
  have HB := Lib.hid (below_new w (.cells #[.slice A n c, .pointer (some ⟨root, 0, none⟩)] 61))
  clear h
  go_enter Try.func23, Try.ntmps23
  go_wp2
  refine bodyPost_ret (results_cell_row (fn := Try.f23) (p := 2) (ty := 61) rfl _ _ w.heap.size 61 _ (0, 0) _ rfl (heap_alloc_new w _) Try.underlying61 rfl (by kernel_rfl)) rfl ⟨rfl, HB.out⟩
set_option maxRecDepth 100000 in
set_option maxHeartbeats 2000000 in
theorem find_any (base x : Nat) (ws : List ByteArray) (s : ByteArray) (w : World) (h : LexO w base x ws) (hs : s.size ≤ 1000000) :
    Calls Try.prog 15 #[.pointer (some ⟨x, 0, none⟩), .string s] w fun e w' =>
      e = .returned (.tuple #[.int .i64 (((fnd (txs ws) (tx s)).getD 0 : Nat) : Int), .bool (fnd (txs ws) (tx s)).isSome]) ∧ Below w.heap.size w w' := by
  obtain ⟨A, c, root, cap, N, M, h1, h2, h3, h4, h5⟩ := h
  have P := Lib.hid (parts_any x root _ c A w h2)
  have T := Lib.hid h4
  cases hN : N (tx s) with
  | none =>
    have hF : fnd (txs ws) (tx s) = none := Classical.not_not.1 fun hh => h4.ends _ hh hN
    rw [hF]
    have HN := Lib.hid hN
    clear hN hF h1 h2 h3 h4 h5
    go_enter Try.func15, Try.ntmps15
    go_wp2_with (first
      | (go_at_call 23; (with_reducible refine P.out.mono ?_); rintro e w1 ⟨rfl, hb1⟩; have B1 := Lib.hid hb1; have AT := Lib.hid (at_any (T.out.below hb1) s hs); have fr := field_root A ws.length c root w1; clear hb1)
      | (go_at_call 31; (with_reducible refine AT.out.mono ?_); rintro e w2 ⟨rfl, hb2⟩; have B2 := Lib.hid hb2; clear hb2; rw [HN.out]; simp only [nptr, Option.map_none]))
    go_ret2
    exact ⟨rfl, B1.out.trans (B2.out.mono B1.out.size)⟩
  | some a =>
    have HN := Lib.hid hN
    cases hF : fnd (txs ws) (tx s) with
    | none =>
      have HF := Lib.hid hF
      clear hN hF h1 h2 h3 h4 h5
      go_enter Try.func15, Try.ntmps15
      go_wp2_with (first
        | (go_at_call 23; (with_reducible refine P.out.mono ?_); rintro e w1 ⟨rfl, hb1⟩; have B1 := Lib.hid hb1; have AT := Lib.hid (at_any (T.out.below hb1) s hs); have fr := field_root A ws.length c root w1; clear hb1)
        | (go_at_call 31; (with_reducible refine AT.out.mono ?_); rintro e w2 ⟨rfl, hb2⟩; obtain ⟨c0, c1, c2⟩ := (T.out.below (B1.out.trans (hb2.mono B1.out.size))).cells HN.out; rw [HF.out] at c0 c1; simp only [Option.isSome_none] at c0; have B2 := Lib.hid hb2; clear hb2; rw [HN.out]; simp only [nptr, Option.map_some]))
      go_ret2
      exact ⟨rfl, B1.out.trans (B2.out.mono B1.out.size)⟩
    | some i =>
      have HF := Lib.hid hF
      clear hN hF h1 h2 h3 h4 h5
      go_enter Try.func15, Try.ntmps15
      go_wp2_with (first
        | (go_at_call 23; (with_reducible refine P.out.mono ?_); rintro e w1 ⟨rfl, hb1⟩; have B1 := Lib.hid hb1; have AT := Lib.hid (at_any (T.out.below hb1) s hs); have fr := field_root A ws.length c root w1; clear hb1)
        | (go_at_call 31; (with_reducible refine AT.out.mono ?_); rintro e w2 ⟨rfl, hb2⟩; obtain ⟨c0, c1, c2⟩ := (T.out.below (B1.out.trans (hb2.mono B1.out.size))).cells HN.out; rw [HF.out] at c0 c1; simp only [Option.isSome_some, Option.getD_some] at c0 c1; have B2 := Lib.hid hb2; clear hb2; rw [HN.out]; simp only [nptr, Option.map_some]))
      go_ret2
      exact ⟨rfl, B1.out.trans (B2.out.mono B1.out.size)⟩
/-- numbers in order -/
def srt (zs : List Int) : List Int := zs.mergeSort fun x y => decide (x ≤ y)
theorem srt_length (zs : List Int) : (srt zs).length = zs.length := List.length_mergeSort zs
theorem srt_pre (l : List Tx) (hn : l.Nodup) (p : Tx) (L : List Nat) (h : IsNums (fnd l) p L) : srt (ints L) = ints (pre l p) := by
  have hp : L.Perm (pre l p) := perm_of h.1 ((pre_sorted l p).imp fun {a b} h e => by omega) fun i => by
    rw [h.2, pre_mem]
    constructor
    · rintro ⟨q, hq⟩
      exact ⟨_, fnd_at hq, q, rfl⟩
    · rintro ⟨x, hx, q, rfl⟩
      exact ⟨q, fnd_of hn hx⟩
  refine List.Perm.eq_of_pairwise (le := (· ≤ ·)) (fun a b _ _ h1 h2 => by omega) ?_ ?_ ?_
  · have := List.pairwise_mergeSort (le := fun x y : Int => decide (x ≤ y)) (by simp; omega) (by simp; omega) (ints L)
    exact this.imp fun {a b} h => by simpa using h
  · unfold ints
    rw [List.pairwise_map]
    exact (pre_sorted l p).imp fun {a b} h => by omega
  · exact (List.mergeSort_perm _ _).trans (hp.map _)
theorem sort_any (base : Nat) (A : Option Addr) (n c : Nat) (l : List Int) (w : World) (h : OwnI w base (.slice A n c) l) (hb : base ≤ w.heap.size) (hl : l.length ≤ 1000000) :
    Calls Try.prog 34 #[.slice A n c] w fun e w' => e = .returned (.tuple #[]) ∧ OwnI w' base (.slice A n c) (srt l) ∧ Below base w w' := by
  rcases h.2 with ⟨h1, h2⟩ | ⟨g, cap, cur, hv, h4, h5, r1, r2, r3, r4⟩
  · have hnil : l = [] := List.eq_nil_of_length_eq_zero h2
    subst hnil
    cases h1
    refine (Try.slices_Sort_int_none none 0 w).mono ?_
    rintro e w' ⟨rfl, rfl⟩
    exact ⟨rfl, by unfold srt; rw [List.mergeSort_nil]; exact h, Below.refl _ _⟩
  · cases hv
    have hH := holds_of_blockI h5 (by simpa using r4)
    have hgl := (Array.getElem?_eq_some_iff.1 h5).1
    refine (Try.slices_Sort_int g 0 c l w hH hgl (by omega)).mono ?_
    rintro e w' ⟨rfl, nn, os, rfl⟩
    refine ⟨rfl, OwnI.of (ownsRow_sortedI (n := nn) (os := os) (ss := l) (ts := srt l) (srt_length l) h4 h5 r1 r2 r3), ?_⟩
    exact (Below.refl base w).grown (grownBy_sortedI (w := w) (g := g) (n := nn) (os := os) (srt l).toArray) hb (fun k e => by cases e; exact h4)
set_option maxRecDepth 100000 in
set_option maxHeartbeats 2000000 in
theorem prefix_any (base x : Nat) (ws : List ByteArray) (s : ByteArray) (w : World) (h : LexO w base x ws) (hs : s.size ≤ 1000000) :
    Calls Try.prog 19 #[.pointer (some ⟨x, 0, none⟩), .string s] w fun e w' =>
      ∃ A n c, e = .returned (.slice A n c) ∧ OwnI w' w.heap.size (.slice A n c) (ints (pre (txs ws) (tx s))) ∧ Below w.heap.size w w' := by
  obtain ⟨A, c, root, cap, N, M, h1, h2, h3, h4, h5⟩ := h
  have P := Lib.hid (parts_any x root _ c A w h2)
  have T := Lib.hid h4
  have ONE := Lib.hid h5.one
  clear h1 h2 h3 h4 h5
  go_enter Try.func19, Try.ntmps19
  go_wp2_with (first
    | (go_at_call 23; (with_reducible refine P.out.mono ?_); rintro e w1 ⟨rfl, hb1⟩; have B1 := Lib.hid hb1; have AT := Lib.hid (at_any (T.out.below hb1) s hs); have fr := field_root A ws.length c root w1; clear hb1)
    | (go_at_call 31; (with_reducible refine AT.out.mono ?_); rintro e w2 ⟨rfl, hb2⟩; have B2 := Lib.hid (B1.out.trans (hb2.mono B1.out.size)); clear hb2; have NU := Lib.hid (numbers_any (T.out.below B2.out) (tx s)))
    | (go_at_call 33; (with_reducible refine NU.out.mono ?_); rintro e w3 ⟨A3, n3, c3, L3, rfl, ho3, hn3, hb3⟩; have HO3 := Lib.hid (ho3.mono B2.out.size); have HN3 := Lib.hid hn3; have B3 := Lib.hid (B2.out.trans (hb3.mono B2.out.size)); have few := IsNums.few T.out hn3; have SO := Lib.hid (sort_any w.heap.size A3 n3 c3 (ints L3) w3 HO3.out B3.out.size (by rw [ints_length]; omega)); clear ho3 hn3 hb3)
    | (go_at_call 34; (with_reducible refine SO.out.mono ?_); rintro e w4 ⟨rfl, ho4, hb4⟩; have HO4 := Lib.hid ho4; have B4 := Lib.hid (B3.out.trans hb4); clear ho4 hb4))
  go_ret
  exact ⟨A3, n3, c3, rfl, by rw [← srt_pre _ ONE.out _ _ HN3.out]; exact HO4.out, B4.out⟩
end Go.Proofs.Ytioncjnjhmnlaaa
