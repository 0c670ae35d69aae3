/-
  Blocks of limbs that a call itself has made; the captured cell that carries; the small functions of nat.
-/
import Derived.Test.YtgbifcfdbelfpaaBase
import Derived.Test.YtgbifcfdbelfpaaNatPlain2
import Derived.OneCell
namespace Go.Proofs.Ytgbifcfdbelfpaa
open Go.RowKit
set_option linter.unusedVariables false

theorem grown_then {a b c : World} {r r' : Option Nat} (h : a.grownBy b r) (k : b.grownBy c r') (hr : ∀ j, r' = some j → a.heap.size ≤ j ∨ r = some j) : a.grownBy c r :=
  ⟨k.os.trans h.os, k.tape.trans h.tape, k.output.trans h.output, Nat.le_trans h.size k.size, fun i hi hne =>
    (k.block i (by have := h.size; omega) (fun e => by
      rcases hr i e.symm with x | x
      · omega
      · exact hne x.symm)).trans (h.block i hi hne)⟩
theorem grown_refl (a : World) (r : Option Nat) : a.grownBy a r := ⟨rfl, rfl, rfl, Nat.le_refl _, fun _ _ _ => rfl⟩
theorem grown_set (w : World) (a : Addr) (u : Value) : w.grownBy (w.setCell a u) (some a.block) :=
  ⟨rfl, rfl, rfl, by simp [World.setCell], fun k _ hk => Below.heap_setCell _ _ _ _ (fun e => hk (by rw [e]))⟩
theorem grown_drewN (w : World) (n : Nat) (r : Option Nat) : w.grownBy (w.drewN n) r := ⟨rfl, rfl, rfl, Nat.le_refl _, fun _ _ _ => rfl⟩
theorem grown_drew (w : World) (r : Option Nat) : w.grownBy w.drew r := ⟨rfl, rfl, rfl, Nat.le_refl _, fun _ _ _ => rfl⟩

theorem ret_sl {A B : Option Addr} {n m c d : Nat} (h : A = B) (i : n = m) (j : c = d) : Ending.returned (.slice A n c) = .returned (.slice B m d) := by rw [h, i, j]
theorem ret_sle {A B : Option Addr} {n m c d : Nat} {e f : Int} (h : A = B) (i : n = m) (j : c = d) (k : e = f) : Ending.returned (.tuple #[.slice A n c, .int .i64 e]) = .returned (.tuple #[.slice B m d, .int .i64 f]) := by rw [h, i, j, k]
def lenOf : Value → Nat | .slice _ n _ => n | _ => 0

/-- block g: what lies ahead, the limbs m, what lies behind -/
def Blk (w : World) (g : Nat) (p : List Value) (m : List Int) (s : List Value) : Prop :=
  w.heap[g]? = some (.cells (p ++ (m.map (Value.int .u32) ++ s)).toArray 55 (0, 0))
section
variable {w w' : World} {g : Nat} {p s : List Value} {m : List Int}
theorem Blk.lt (h : Blk w g p m s) : g < w.heap.size := lt_of_block h
theorem Blk.cell (h : Blk w g p m s) (k : Nat) (hk : k < m.length) {i : Nat} (hi : i = p.length + k) : w.cell? ⟨g, i, none⟩ = some (.int .u32 (m.getD k 0)) := by
  subst hi
  rw [cell_of_row w g _ _ _ (0, 0) h]
  simp [List.getElem?_append_right, List.getElem?_append_left, hk, List.getD_eq_getElem?_getD]
theorem Blk.free (h : Blk w g p m s) (i : Nat) : w.frozen? ⟨g, i, none⟩ = false := frozen_of_row w g i _ _ h
theorem Blk.set (h : Blk w g p m s) (k : Nat) (hk : k < m.length) (v : Int) {i : Nat} (hi : i = p.length + k) : Blk (w.setCell ⟨g, i, none⟩ (.int .u32 v)) g p (m.set k v) s := by
  subst hi
  unfold Blk
  rw [heap_setCell_same w g _ _ _ _ h]
  congr 2
  rw [List.setIfInBounds_toArray, List.set_append_right _ _ (by omega), List.set_append_left _ _ (by simp; omega)]
  simp [List.map_set]
theorem Blk.kept {r : Option Nat} (h : Blk w g p m s) (hg : w.grownBy w' r) (hne : some g ≠ r) : Blk w' g p m s := (hg.block g h.lt hne).trans h
theorem Blk.alloc (h : Blk w g p m s) (o : Obj) : Blk (w.alloc o) g p m s := h.kept (World.grownBy_alloc w o none) (by simp)
theorem Blk.split {a b c : List Int} : Blk w g p (a ++ (b ++ c)) s ↔ Blk w g (p ++ a.map (Value.int .u32)) b (c.map (Value.int .u32) ++ s) := by
  unfold Blk
  simp [List.map_append, List.append_assoc]
theorem Blk.fore {a b : List Int} : Blk w g p (a ++ b) s ↔ Blk w g p a (b.map (Value.int .u32) ++ s) := by
  unfold Blk
  simp [List.map_append, List.append_assoc]
theorem Blk.rd (h : Blk w g p m s) {i : Nat} (hi : i = p.length) : RdK .u32 w (some ⟨g, i, none⟩) m := by
  intro h0
  exact ⟨g, i, rfl, h.lt, fun k hk => h.cell k hk (by omega)⟩
theorem Blk.own (h : Blk w g [] m s) {base : Nat} (hb : base ≤ g) (hl : m.length + s.length ≤ maxLen) : w.ownsRow base 55 1 (.slice (some ⟨g, 0, none⟩) m.length (m.length + s.length)) m.length (m.map (Value.int .u32)) := by
  refine ⟨by simp, .inr ⟨g, m.length + s.length, _, rfl, hb, h, by omega, hl, by simp, ?_⟩⟩
  simp
end
theorem own_blk {w : World} {base g n cap : Nat} {xs : List Int} (h : w.ownsRow base 55 1 (.slice (some ⟨g, 0, none⟩) n cap) n (xs.map (Value.int .u32))) :
    ∃ s, Blk w g [] xs s ∧ xs.length = n ∧ base ≤ g ∧ n + s.length = cap ∧ cap ≤ maxLen := by
  have hl := h.1
  rcases h.2 with ⟨h', _⟩ | ⟨g', cap', cur, h', hb, hg, hnc, hcm, hcs, htake⟩
  · simp at h'
  · simp only [Value.slice.injEq, Option.some.injEq, Addr.mk.injEq, and_true, true_and] at h'
    obtain ⟨rfl, rfl⟩ := h'
    simp only [Nat.mul_one] at hl hcs htake
    refine ⟨cur.toList.drop n, ?_, by simpa using hl, hb, by simp [hcs]; omega, hcm⟩
    unfold Blk
    rw [hg, ← htake, List.nil_append, List.take_append_drop]
theorem own_val {w : World} {base n : Nat} {v : Value} {xs : List Int} (h : w.ownsRow base 55 1 v n (xs.map (Value.int .u32))) :
    (v = .slice none 0 0 ∧ xs = [] ∧ n = 0) ∨ ∃ g s, v = .slice (some ⟨g, 0, none⟩) n (n + s.length) ∧ Blk w g [] xs s ∧ xs.length = n ∧ base ≤ g ∧ n + s.length ≤ maxLen := by
  have hl := h.1
  simp at hl
  rcases h.2 with ⟨rfl, rfl⟩ | ⟨g, cap, cur, rfl, r⟩
  · exact .inl ⟨rfl, List.eq_nil_of_length_eq_zero hl, rfl⟩
  · obtain ⟨s, h1, h2, h3, h4, h5⟩ := own_blk h
    exact .inr ⟨g, s, by rw [h4], h1, h2, h3, by omega⟩

/-- the cell in which a closure keeps what it carries -/
def One (w : World) (b : Nat) (c : Int) : Prop := w.heap[b]? = some (.cells #[.int .u32 c] 55 (0, 0))
theorem One.lt {w : World} {b : Nat} {c : Int} (h : One w b c) : b < w.heap.size := lt_of_block h
theorem One.kept {w w' : World} {b : Nat} {c : Int} {r : Option Nat} (h : One w b c) (hg : w.grownBy w' r) (hne : some b ≠ r) : One w' b c := (hg.block b h.lt hne).trans h
theorem One.new (w : World) (c : Int) : One (w.alloc (.cells #[.int .u32 c] 55)) w.heap.size c := heap_alloc_new w _

theorem carrying_any (c : Int) (w : World) :
    Calls Try.prog 60 #[.int .u32 c] w fun e w' => e = .returned (.func (.func 82) #[] #[.pointer (some ⟨w.heap.size, 0, none⟩)]) ∧ w' = w.alloc (.cells #[.int .u32 c] 55) := by
  go_enter Try.func60, Try.ntmps60
  go_wp2
  go_ret
  exact ⟨rfl, rfl⟩
theorem u64_in (x : Int) (h0 : 0 ≤ x) (h1 : x ≤ 18446744073709551615) : IntKind.u64.wrap x = x := by simp [IntKind.wrap, IntKind.bits, IntKind.signed]; omega
theorem u32_in (x : Int) (h0 : 0 ≤ x) (h1 : x ≤ 4294967295) : IntKind.u32.wrap x = x := by simp [IntKind.wrap, IntKind.bits, IntKind.signed]; omega
theorem next_any (n c : Int) (b : Nat) (w : World) (h : One w b c) (n0 : 0 ≤ n) (c0 : 0 ≤ c) (n1 : n + c ≤ 18446744073709551615) :
    Calls Try.prog 82 #[.int .u64 n, .pointer (some ⟨b, 0, none⟩)] w fun e w' => e = .returned (.int .u32 ((n + c) % 4294967296)) ∧ One w' b ((n + c) / 4294967296) ∧ w.grownBy w' (some b) := by
  have hc := cell_of_one h
  have hf := free_of_one h
  have h2 := one_setCell (u := .int .u32 ((n + c) / 4294967296)) h
  have hg := grown_set w ⟨b, 0, none⟩ (.int .u32 ((n + c) / 4294967296))
  have H2 := Lib.hid h2; have HG := Lib.hid hg; clear h h2 hg
  go_enter Try.func82, Try.ntmps82
  go_wp2
  go_ret
  exact ⟨rfl, H2.out, HG.out⟩

end Go.Proofs.Ytgbifcfdbelfpaa
