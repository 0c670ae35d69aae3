/-
  The walks of stats' chanceOf, lower, upper, Choose, Chance, Upper, Lower.
-/
import Derived.Test.YtgbifcfdbelfpaaStaChan
namespace Go.Proofs.Ytgbifcfdbelfpaa
open Go.RowKit Go.Shelf
set_option linter.unusedVariables false
attribute [local go_sem] Oper.semAt_some

/-- what holds of limbs is kept by what turns no cell -/
theorem Num.kept {X Y : World} {A : Option Addr} {l : List Int} {z : Int} {row : Option Nat} (h : Num X A l z) (hg : X.grownBy Y row) (hr : ∀ r, row = some r → ∃ o : Obj, X.heap[r]? = some o ∧ o.isCells = false) : Num Y A l z := by
  refine ⟨fun h0 => ?_, h.can, h.len, h.val⟩
  obtain ⟨b, off, rfl, hb, hc⟩ := h.rd h0
  exact ⟨b, off, rfl, by have := hg.size; omega, fun i hi => cell_kept (hc i hi) hg hr⟩
theorem Num.putObj {X : World} {A : Option Addr} {l : List Int} {z : Int} (h : Num X A l z) (k : Nat) (o o' : Obj) (ho : X.heap[k]? = some o) (hc : o.isCells = false) : Num (X.putObj k o') A l z :=
  h.kept (grownBy_putObj' X k o') (fun r e => by cases e; exact ⟨o, ho, hc⟩)
theorem tl_putObj {n : Nat} {p q : Int} (pre : List Val) (x : Val) (W : World) (k : Nat) (o o' : Obj) (h : Tl n p q pre x W) (ho : W.heap[k]? = some o) (hc : o.isCells = false) : Tl n p q pre x (W.putObj k o') :=
  ⟨h.1, h.2.1, h.2.2.putObj k o o' ho hc⟩

theorem KB.setBox {W : World} {B : Nat} {v : Value} (A : Option Addr) (n c : Nat) (h : Boxed W B 29 v) : KB B W (W.setCell ⟨B, 0, none⟩ (.slice A n c)) := by
  refine ⟨by show W.heap.size ≤ (W.heap.modify _ _).size; rw [Array.size_modify]; exact Nat.le_refl _, fun k o hk ho _ => (Below.heap_setCell W ⟨B, 0, none⟩ _ k hk).trans ho, fun _ => ?_⟩
  exact ⟨A, n, c, h.set _⟩

set_option maxRecDepth 100000 in
set_option maxHeartbeats 2000000 in
theorem chanceOf_any (n k : Nat) (p q : Int) (w : World) (hp : 0 ≤ p) (hp1 : p ≤ 10000) (hq : 0 ≤ q) (hpq : p + q ≤ 10000) (hn : n ≤ 500) (hk : k ≤ n) :
    Calls Try.prog 52 #[.int .i64 n, .int .i64 k, .int .i64 p, .int .i64 q] w (PostNum (Sb.cn n k p q) w) := by
  refine (callsIn_wide (n := 6)).1 ?_
  refine callsIn_of_wp_marks Try.func52 rfl trivial ?_ rfl
  simp only [Try.ntmps52, List.size_toArray, List.length_cons, List.length_nil, Nat.reduceAdd, Nat.reduceSub, Array.replicate_succ, Array.replicate_zero, List.push_toArray, List.append_toArray, List.nil_append, List.cons_append]
  gi_wp2_with (refine ⟨trivial, ?_⟩; gi_at_call 77; (with_reducible refine (callsIn_wide.2 (chances_any _ _ _ _)).mono ?_); rintro e w1 ⟨rfl, rfl⟩)
  obtain ⟨W0, hW0⟩ : ∃ W0, W0 = ((((w.alloc (.cells #[.int .i64 k] 3)).alloc (.cells #[.slice none 0 0] 29)).alloc (.cells #[.int .i64 n] 3)).alloc (.cells #[.int .i64 p] 3)).alloc (.cells #[.int .i64 q] 3) := ⟨_, rfl⟩
  have hsz : W0.heap.size = w.heap.size + 5 := by rw [hW0]; simp
  have bB : Boxed W0 (w.heap.size + 1) 29 (.slice none 0 0) := by
    have h := Boxed.new (w.alloc (.cells #[.int .i64 k] 3)) 29 (.slice none 0 0)
    rw [World.size_alloc] at h; rw [hW0]; exact ((h.alloc _).alloc _).alloc _
  have ck : W0.cell? ⟨w.heap.size, 0, none⟩ = some (.int .i64 k) := by rw [hW0]; go_simp
  have x1 : W0.cell? ⟨w.heap.size + 1 + 1, 0, none⟩ = some (.int .i64 n) := by rw [hW0]; go_simp
  have x2 : W0.cell? ⟨w.heap.size + 1 + 1 + 1, 0, none⟩ = some (.int .i64 p) := by rw [hW0]; go_simp
  have x3 : W0.cell? ⟨w.heap.size + 1 + 1 + 2, 0, none⟩ = some (.int .i64 q) := by rw [hW0]; go_simp
  have hB0 : Below w.heap.size w W0 := by rw [hW0]; exact (((((Below.refl _ w).alloc (Nat.le_refl _) _).alloc (by simp) _).alloc (by simp; omega) _).alloc (by simp; omega) _).alloc (by simp; omega) _
  rw [← hW0]
  clear hW0
  refine wp_told (gf := 92) (lb := #[.pointer (some ⟨w.heap.size + 1 + 1 + 2, 0, none⟩), .pointer (some ⟨w.heap.size + 1 + 1, 0, none⟩), .pointer (some ⟨w.heap.size + 1 + 1 + 1, 0, none⟩)]) rfl (enters_of Try.func92 (by kernel_rfl) rfl)
    (chances_told n p q hp hp1 hq hpq hn (w.heap.size + 1) (w.heap.size + 1 + 1) W0 (by omega) ⟨_, _, _, bB⟩ x1 x2 x3) (Below.refl _ _) KB.trans (fun W k o o' _ h hc => KB.putObj W k o o' h hc) tl_putObj (fun _ => rfl)
    (fun pre W => (pre.length ≤ k ∧ Boxed W (w.heap.size + 1) 29 (.slice none 0 0) ∧ W.cell? ⟨w.heap.size, 0, none⟩ = some (.int .i64 k)) ∧ Below w.heap.size w W)
    (fun c pre W => (c = .ret ∧ ∃ A cc l, W.cell? ⟨w.heap.size + 1, 0, none⟩ = some (.slice A (List.length l) cc) ∧ Num W A l (Sb.cn n k p q)) ∧ Below w.heap.size w W)
    (OwnFrom.and (Own.from (fun s X Y row hs hg hr => ⟨hs.1, boxed_own _ _ (fun _ => _) s X Y row hs.2.1 hg hr, cell_kept hs.2.2 hg hr⟩) _) (ownFrom_below (Nat.le_refl _) (by omega)))
    (fun c => OwnFrom.and (Own.from (fun s X Y row hs hg hr => by obtain ⟨hc, A, cc, l, h1, h2⟩ := hs; exact ⟨hc, A, cc, l, cell_kept h1 hg hr, h2.kept hg hr⟩) _) (ownFrom_below (Nat.le_refl _) (by omega)))
    ⟨⟨by simp, bB, ck⟩, hB0⟩
    (fun x => { tmps := #[.int .i64 n, .int .i64 k, .int .i64 p, .int .i64 q, undef, .pointer (some ⟨w.heap.size, 0, none⟩), undef, undef, .pointer (some ⟨w.heap.size + 1, 0, none⟩), .int .i64 x.k, .slice x.A x.l.length x.c, .int .i64 n, .int .i64 p, .int .i64 q,
      .func (.func 92) #[] #[.pointer (some ⟨w.heap.size + 1 + 1 + 2, 0, none⟩), .pointer (some ⟨w.heap.size + 1 + 1, 0, none⟩), .pointer (some ⟨w.heap.size + 1 + 1 + 1, 0, none⟩)], .int .i64 x.k, .slice x.A x.l.length x.c, undef, undef, undef, undef], defers := [] }) ?assign ?body ?done ?stop
  case assign =>
    intro l x W K hK
    unfold Val.encs
    gi_wp2
    exact hK
  case body =>
    rintro l pre ⟨i, A, c, ll⟩ W ⟨⟨hle, hbx, hck⟩, hB⟩ ⟨hi, hin, hN⟩
    obtain rfl : i = pre.length := hi
    have HN := Lib.hid hN; have HB := Lib.hid hB; have Hbx := Lib.hid hbx
    have hcb := hbx.cell; have hfb := hbx.frozen
    clear hN hB hbx
    by_cases he : pre.length = k
    · have f1 : ((pre.length : Int) == (k : Int)) = true := by rw [beq_iff_eq, he]
      gi_wp2
      have hkb := KB.setBox (W := W) (B := w.heap.size + 1) A ll.length c Hbx.out
      refine ⟨(KeepsOthers.setCell _ _ _).from _, ⟨rfl, A, c, ll, World.cell?_setCell_same' _ _ _ (by rw [hcb]; rfl), ?_⟩, HB.out.setCell (p := ⟨w.heap.size + 1, 0, none⟩) (by simp) _⟩
      rw [← he]
      exact HN.out.kb ⟨_, _, _, Hbx.out⟩ hkb
    · have f1 : ((pre.length : Int) == (k : Int)) = false := by rw [beq_eq_false_iff_ne]; omega
      gi_wp2
      exact ⟨KeepsFrom.refl _ _, KB.below (Below.refl _ _), ⟨by rw [List.length_append]; show pre.length + 1 ≤ k; omega, Hbx.out, hck⟩, HB.out⟩
  case done =>
    rintro D xs W hD hS ⟨⟨hle, _⟩, _⟩ hK
    omega
  case stop =>
    rintro D c pre W hD _ ⟨⟨rfl, A, cc, l, hc, hN⟩, hB⟩ hK
    gi_wp2
    refine ⟨by simp, .inl ⟨_, _, rfl, run_takeDeferred hK, ?_⟩⟩
    have hc5 := cell_kept hc (grownBy_putObj' _ D (.deferred none)) (fun r e => by cases e; exact ⟨_, hK, rfl⟩)
    refine ⟨.slice A l.length cc, ?_, A, cc, l, rfl, hN.putObj D _ _ hK rfl, hB.trans (belowK_b (w := w) (Nat.le_refl _) W D _ _ (by omega) hK rfl rfl)⟩
    simp [results, Try.f52, go_sem, hc5]
end Go.Proofs.Ytgbifcfdbelfpaa
