/-
  The closures that tell of the steps.
-/
import Derived.Test.YthojojjdamchpaaEdiPlain
import Derived.Test.YthojojjdamchpaaShelf
import Derived.Test.YthojojjdamchpaaBase
import Derived.BigRegion
import Derived.Deep.RegionHeld3
import Derived.Lib.Hide
import Derived.Laws.Rows
import Derived.Laws.ResultCell
namespace Go.Proofs.Ythojojjdamchpaa
open Go.RowKit
set_option linter.unusedVariables false
set_option linter.unusedSimpArgs false

/-- the bytes of a string -/
def tx (s : ByteArray) : List UInt8 := s.data.toList
theorem tx_len (s : ByteArray) : (tx s).length = s.size := by simp [tx]
theorem tx_drop (s : ByteArray) (i : Nat) (h : i < s.size) : (tx s).drop i = s[i] :: (tx s).drop (i + 1) := by
  unfold tx; rw [List.drop_eq_getElem_cons (by simpa using h)]; rfl
theorem tx_end (s : ByteArray) (i : Nat) (h : s.size ≤ i) : (tx s).drop i = [] := List.drop_eq_nil_of_le (by rw [tx_len]; exact h)
/-- what a step tells -/
def stV (c : Ed.Cst) (k : Nat) (f : Bool) : Value := .tuple #[.agg #[.int .i64 (Ed.tk k), .int .i64 (Ed.wr k), .int .i64 (Ed.cst c k)], .bool f]
def PostSt (c : Ed.Cst) (k : Nat) (f : Bool) (w : World) (e : Ending) (w' : World) : Prop := e = .returned (stV c k f) ∧ Below w.heap.size w w'
theorem postSt_eq {c : Ed.Cst} {k : Nat} {f g : Bool} (h : f = g) : PostSt c k f = PostSt c k g := by rw [h]
theorem fit12_at (a b : ByteArray) (i j : Nat) (hi : i < a.size) (hj : j < b.size) : Ed.fit 1 ((tx a).drop i) ((tx b).drop j) = (a[i] == b[j]) ∧ Ed.fit 2 ((tx a).drop i) ((tx b).drop j) = (a[i] != b[j]) := by
  rw [tx_drop a i hi, tx_drop b j hj]; exact ⟨rfl, rfl⟩
theorem fit12_a (a b : ByteArray) (i j : Nat) (hi : a.size ≤ i) : Ed.fit 1 ((tx a).drop i) ((tx b).drop j) = false ∧ Ed.fit 2 ((tx a).drop i) ((tx b).drop j) = false := by rw [tx_end a i hi]; exact ⟨rfl, rfl⟩
theorem fit12_b (a b : ByteArray) (i j : Nat) (hj : b.size ≤ j) : Ed.fit 1 ((tx a).drop i) ((tx b).drop j) = false ∧ Ed.fit 2 ((tx a).drop i) ((tx b).drop j) = false := by
  rw [tx_end b j hj]; cases (tx a).drop i <;> exact ⟨rfl, rfl⟩
theorem fit3_at (a b : ByteArray) (i j : Nat) (hi : i + 1 < a.size) (hj : j + 1 < b.size) : Ed.fit 3 ((tx a).drop i) ((tx b).drop j) = (a[i] != a[i + 1] && a[i] == b[j + 1] && a[i + 1] == b[j]) := by
  rw [tx_drop a i (by omega), tx_drop b j (by omega), tx_drop a (i + 1) hi, tx_drop b (j + 1) hj]; rfl
theorem fit3_a (a b : ByteArray) (i j : Nat) (hi : a.size ≤ i + 1) : Ed.fit 3 ((tx a).drop i) ((tx b).drop j) = false := by
  by_cases h : i < a.size
  · rw [tx_drop a i h, tx_end a (i + 1) hi]; rfl
  · rw [tx_end a i (by omega)]; rfl
theorem fit3_b (a b : ByteArray) (i j : Nat) (hj : b.size ≤ j + 1) : Ed.fit 3 ((tx a).drop i) ((tx b).drop j) = false := by
  have h0 : ∀ (l : List UInt8) (y : UInt8), Ed.fit 3 l [y] = false := fun l y => by
    match l with
    | [] => rfl
    | [_] => rfl
    | _ :: _ :: _ => rfl
  have h1 : ∀ (l : List UInt8), Ed.fit 3 l [] = false := fun l => by
    match l with
    | [] => rfl
    | [_] => rfl
    | _ :: _ :: _ => rfl
  by_cases h : j < b.size
  · rw [tx_drop b j h, tx_end b (j + 1) hj]; exact h0 _ _
  · rw [tx_end b j (by omega)]; exact h1 _
theorem fit4_at (a b : ByteArray) (i j : Nat) (hi : i < a.size) : Ed.fit 4 ((tx a).drop i) ((tx b).drop j) = true := by rw [tx_drop a i hi]; rfl
theorem fit4_no (a b : ByteArray) (i j : Nat) (hi : a.size ≤ i) : Ed.fit 4 ((tx a).drop i) ((tx b).drop j) = false := by rw [tx_end a i hi]; rfl
theorem fit5_at (a b : ByteArray) (i j : Nat) (hj : j < b.size) : Ed.fit 5 ((tx a).drop i) ((tx b).drop j) = true := by rw [tx_drop b j hj]; rfl
theorem fit5_no (a b : ByteArray) (i j : Nat) (hj : b.size ≤ j) : Ed.fit 5 ((tx a).drop i) ((tx b).drop j) = false := by rw [tx_end b j hj]; rfl
theorem lt_of_cell {w : World} {b o : Nat} {v : Value} (h : w.cell? ⟨b, o, none⟩ = some v) : b < w.heap.size := by
  unfold World.cell? at h
  cases ho : w.heap[b]? with
  | none => simp [ho] at h
  | some u => exact (Array.getElem?_eq_some_iff.1 ho).1
theorem below_new (w : World) (o : Obj) : Below w.heap.size w (w.alloc o) := (Below.refl _ w).alloc (Nat.le_refl _) o
/-- the new block of a step -/
structure NewSt (w V : World) (g : Nat) (x y z : Value) : Prop where
  pos : w.heap.size ≤ g
  bel : Below w.heap.size w V
  blk : V.heap[g]? = some (.cells #[x, y, z] 79 (0, 0))
theorem blk_frozen {w : World} {g : Nat} {cs : Array Value} {t : TypeId} (h : w.heap[g]? = some (.cells cs t (0, 0))) (i : Nat) : w.frozen? ⟨g, i, none⟩ = false := by
  simp [World.frozen?, h]
theorem res_facts {w : World} {g : Nat} {x y z : Value} {t : TypeId} (h : w.heap[g]? = some (.cells #[x, y, z] t (0, 0))) :
    (w.cell? ⟨g, 0, none⟩ = some x ∧ w.cell? ⟨g, 1, none⟩ = some y ∧ w.cell? ⟨g, 2, none⟩ = some z) ∧ w.frozen? ⟨g, 0, none⟩ = false ∧ w.frozen? ⟨g, 1, none⟩ = false ∧ w.frozen? ⟨g, 2, none⟩ = false :=
  ⟨⟨cell_of_row _ _ 0 _ _ _ h, cell_of_row _ _ 1 _ _ _ h, cell_of_row _ _ 2 _ _ _ h⟩, blk_frozen h 0, blk_frozen h 1, blk_frozen h 2⟩

theorem set3 {w : World} {g : Nat} {x y z : Value} {t : TypeId} (h : w.heap[g]? = some (.cells #[x, y, z] t (0, 0))) (a b c : Value) :
    (((w.setCell ⟨g, 0, none⟩ a).setCell ⟨g, 1, none⟩ b).setCell ⟨g, 2, none⟩ c).heap[g]? = some (.cells #[a, b, c] t (0, 0)) := by
  simp [World.setCell, Array.getElem?_modify, h]
/-- a step's result: a struct in a cell, and a truth value -/
theorem res_step {fn : Func} {p u : Tmp} (h : fn.results = #[.cell p 79, .tmp u]) (tmps : Array Value) (w : World) (g : Nat) (x y z : Value)
    (hp : tmps.getD p undef = .pointer (some ⟨g, 0, none⟩)) (hg : w.heap[g]? = some (.cells #[x, y, z] 79 (0, 0))) :
    (results fn tmps).run Try.prog w = .ok (.tuple #[.agg #[x, y, z], tmps.getD u undef]) w := by
  rw [results_cell_tmp h, hp]
  simp [asAddr, run_loadVar_row (P := Try.prog) w g 79 79 #[x, y, z] (0, 0) _ hg Try.underlying79 rfl (by kernel_rfl)]
theorem bel_new3 {w V : World} {g : Nat} {x y z : Value} (h : NewSt w V g x y z) (p q r : Value) (W : World) (hW : W = (((V.setCell ⟨g, 0, none⟩ p).setCell ⟨g, 1, none⟩ q).setCell ⟨g, 2, none⟩ r)) :
    Below w.heap.size w W ∧ W.heap[g]? = some (.cells #[p, q, r] 79 (0, 0)) := by
  subst hW
  exact ⟨((h.bel.setCell h.pos _).setCell h.pos _).setCell h.pos _, set3 h.blk _ _ _⟩

theorem ret_st {c : Ed.Cst} {k : Nat} {f g : Bool} {x y z : Int} {v : Value} (hv : v = .bool f) (hx : x = Ed.tk k) (hy : y = Ed.wr k) (hz : z = Ed.cst c k) (h : f = g) :
    Ending.returned (.tuple #[.agg #[.int .i64 x, .int .i64 y, .int .i64 z], v]) = .returned (stV c k g) := by rw [hv, hx, hy, hz, h]; rfl
theorem u8_beq (x y : UInt8) : ((x.toNat : Int) == (y.toNat : Int)) = (x == y) := by
  rw [Bool.eq_iff_iff, beq_iff_eq, beq_iff_eq, ← UInt8.toNat_inj]; omega

theorem u8_bne (x y : UInt8) : ((x.toNat : Int) != (y.toNat : Int)) = (x != y) := by
  rw [bne, bne, u8_beq]

set_option maxHeartbeats 4000000 in
theorem st1_any (c : Ed.Cst) (A B C : Nat) (a b : ByteArray) (i j : Nat) (w : World) (ha : a.size ≤ 1000) (hb : b.size ≤ 1000) (h1 : w.cell? ⟨A, 0, none⟩ = some (.string a)) (h2 : w.cell? ⟨B, 0, none⟩ = some (.string b)) :
    Calls Try.prog 32 #[.int .i64 i, .int .i64 j, .pointer (some ⟨A, 0, none⟩), .pointer (some ⟨B, 0, none⟩)] w (PostSt c 1 (Ed.fit 1 ((tx a).drop i) ((tx b).drop j)) w) := by
  by_cases hi : i < a.size
  · by_cases hj : j < b.size
    · rw [(fit12_at a b i j hi hj).1]
      have i1 : decide ((i : Int) < (a.size : Int)) = true := decide_eq_true (by omega)
      have i2 : decide ((j : Int) < (b.size : Int)) = true := decide_eq_true (by omega)
      obtain ⟨x, hx⟩ : ∃ x, a[i] = x := ⟨_, rfl⟩
      obtain ⟨y, hy⟩ : ∃ y, b[j] = y := ⟨_, rfl⟩
      rw [hx, hy]
      go_enter Try.func32, Try.ntmps32
      go_wp2
      obtain ⟨g, hg⟩ : ∃ g, w.heap.size = g := ⟨_, rfl⟩
      rw [hg]
      obtain ⟨V, hV⟩ : ∃ V, w.alloc (.cells #[.int .i64 0, .int .i64 0, .int .i64 0] 79) = V := ⟨_, rfl⟩
      rw [hV]
      have v1 : V.cell? ⟨A, 0, none⟩ = some (.string a) := by rw [← hV]; exact ((below_new w _).cell (p := ⟨A, 0, none⟩) (lt_of_cell h1)).trans h1
      have n1 : A ≠ g := by have := lt_of_cell h1; omega
      have v2 : V.cell? ⟨B, 0, none⟩ = some (.string b) := by rw [← hV]; exact ((below_new w _).cell (p := ⟨B, 0, none⟩) (lt_of_cell h2)).trans h2
      have n2 : B ≠ g := by have := lt_of_cell h2; omega
      have v3 : V.heap[g]? = some (.cells #[.int .i64 0, .int .i64 0, .int .i64 0] 79 (0, 0)) := by rw [← hV, ← hg]; exact heap_alloc_new w _
      obtain ⟨⟨d0, d1, d2⟩, f0, f1, f2⟩ := res_facts v3
      have HN := Lib.hid (show NewSt w V g _ _ _ from ⟨by omega, by rw [← hV]; exact below_new w _, v3⟩)
      clear h1 h2 hV hg v3
      go_region
      go_wp2
      obtain ⟨B3, G3⟩ := bel_new3 HN.out (.int .i64 1) (.int .i64 1) (.int .i64 0) _ rfl
      refine bodyPost_ret (res_step rfl _ _ g _ _ _ rfl G3) rfl ⟨ret_st rfl rfl rfl rfl (u8_beq x y), B3.drew⟩
    · rw [(fit12_b a b i j (by omega)).1]
      have i1 : decide ((i : Int) < (a.size : Int)) = true := decide_eq_true (by omega)
      have i2 : decide ((j : Int) < (b.size : Int)) = false := decide_eq_false (by omega)
      go_enter Try.func32, Try.ntmps32
      go_wp2
      obtain ⟨g, hg⟩ : ∃ g, w.heap.size = g := ⟨_, rfl⟩
      rw [hg]
      obtain ⟨V, hV⟩ : ∃ V, w.alloc (.cells #[.int .i64 0, .int .i64 0, .int .i64 0] 79) = V := ⟨_, rfl⟩
      rw [hV]
      have v1 : V.cell? ⟨A, 0, none⟩ = some (.string a) := by rw [← hV]; exact ((below_new w _).cell (p := ⟨A, 0, none⟩) (lt_of_cell h1)).trans h1
      have n1 : A ≠ g := by have := lt_of_cell h1; omega
      have v2 : V.cell? ⟨B, 0, none⟩ = some (.string b) := by rw [← hV]; exact ((below_new w _).cell (p := ⟨B, 0, none⟩) (lt_of_cell h2)).trans h2
      have n2 : B ≠ g := by have := lt_of_cell h2; omega
      have v3 : V.heap[g]? = some (.cells #[.int .i64 0, .int .i64 0, .int .i64 0] 79 (0, 0)) := by rw [← hV, ← hg]; exact heap_alloc_new w _
      obtain ⟨⟨d0, d1, d2⟩, f0, f1, f2⟩ := res_facts v3
      have HN := Lib.hid (show NewSt w V g _ _ _ from ⟨by omega, by rw [← hV]; exact below_new w _, v3⟩)
      clear h1 h2 hV hg v3
      go_region
      go_wp2
      obtain ⟨B3, G3⟩ := bel_new3 HN.out (.int .i64 1) (.int .i64 1) (.int .i64 0) _ rfl
      refine bodyPost_ret (res_step rfl _ _ g _ _ _ rfl G3) rfl ⟨ret_st rfl rfl rfl rfl rfl, B3.drew⟩
  · rw [(fit12_a a b i j (by omega)).1]
    have i1 : decide ((i : Int) < (a.size : Int)) = false := decide_eq_false (by omega)
    go_enter Try.func32, Try.ntmps32
    go_wp2
    obtain ⟨g, hg⟩ : ∃ g, w.heap.size = g := ⟨_, rfl⟩
    rw [hg]
    obtain ⟨V, hV⟩ : ∃ V, w.alloc (.cells #[.int .i64 0, .int .i64 0, .int .i64 0] 79) = V := ⟨_, rfl⟩
    rw [hV]
    have v1 : V.cell? ⟨A, 0, none⟩ = some (.string a) := by rw [← hV]; exact ((below_new w _).cell (p := ⟨A, 0, none⟩) (lt_of_cell h1)).trans h1
    have n1 : A ≠ g := by have := lt_of_cell h1; omega
    have v2 : V.cell? ⟨B, 0, none⟩ = some (.string b) := by rw [← hV]; exact ((below_new w _).cell (p := ⟨B, 0, none⟩) (lt_of_cell h2)).trans h2
    have n2 : B ≠ g := by have := lt_of_cell h2; omega
    have v3 : V.heap[g]? = some (.cells #[.int .i64 0, .int .i64 0, .int .i64 0] 79 (0, 0)) := by rw [← hV, ← hg]; exact heap_alloc_new w _
    obtain ⟨⟨d0, d1, d2⟩, f0, f1, f2⟩ := res_facts v3
    have HN := Lib.hid (show NewSt w V g _ _ _ from ⟨by omega, by rw [← hV]; exact below_new w _, v3⟩)
    clear h1 h2 hV hg v3
    go_region
    go_wp2
    obtain ⟨B3, G3⟩ := bel_new3 HN.out (.int .i64 1) (.int .i64 1) (.int .i64 0) _ rfl
    refine bodyPost_ret (res_step rfl _ _ g _ _ _ rfl G3) rfl ⟨ret_st rfl rfl rfl rfl rfl, B3.drew⟩
set_option maxHeartbeats 4000000 in
theorem st2_any (c : Ed.Cst) (A B C : Nat) (a b : ByteArray) (i j : Nat) (w : World) (ha : a.size ≤ 1000) (hb : b.size ≤ 1000) (h1 : w.cell? ⟨A, 0, none⟩ = some (.string a)) (h2 : w.cell? ⟨B, 0, none⟩ = some (.string b)) (h3 : w.cell? ⟨C, 2, none⟩ = some (.int .i64 c.chg)) :
    Calls Try.prog 33 #[.int .i64 i, .int .i64 j, .pointer (some ⟨C, 0, none⟩), .pointer (some ⟨A, 0, none⟩), .pointer (some ⟨B, 0, none⟩)] w (PostSt c 2 (Ed.fit 2 ((tx a).drop i) ((tx b).drop j)) w) := by
  by_cases hi : i < a.size
  · by_cases hj : j < b.size
    · rw [(fit12_at a b i j hi hj).2]
      have i1 : decide ((i : Int) < (a.size : Int)) = true := decide_eq_true (by omega)
      have i2 : decide ((j : Int) < (b.size : Int)) = true := decide_eq_true (by omega)
      obtain ⟨x, hx⟩ : ∃ x, a[i] = x := ⟨_, rfl⟩
      obtain ⟨y, hy⟩ : ∃ y, b[j] = y := ⟨_, rfl⟩
      rw [hx, hy]
      go_enter Try.func33, Try.ntmps33
      go_wp2
      obtain ⟨g, hg⟩ : ∃ g, w.heap.size = g := ⟨_, rfl⟩
      rw [hg]
      obtain ⟨V, hV⟩ : ∃ V, w.alloc (.cells #[.int .i64 0, .int .i64 0, .int .i64 0] 79) = V := ⟨_, rfl⟩
      rw [hV]
      have v1 : V.cell? ⟨A, 0, none⟩ = some (.string a) := by rw [← hV]; exact ((below_new w _).cell (p := ⟨A, 0, none⟩) (lt_of_cell h1)).trans h1
      have n1 : A ≠ g := by have := lt_of_cell h1; omega
      have v2 : V.cell? ⟨B, 0, none⟩ = some (.string b) := by rw [← hV]; exact ((below_new w _).cell (p := ⟨B, 0, none⟩) (lt_of_cell h2)).trans h2
      have n2 : B ≠ g := by have := lt_of_cell h2; omega
      have v4 : V.cell? ⟨C, 2, none⟩ = some (.int .i64 c.chg) := by rw [← hV]; exact ((below_new w _).cell (p := ⟨C, 2, none⟩) (lt_of_cell h3)).trans h3
      have n3 : C ≠ g := by have := lt_of_cell h3; omega
      have v3 : V.heap[g]? = some (.cells #[.int .i64 0, .int .i64 0, .int .i64 0] 79 (0, 0)) := by rw [← hV, ← hg]; exact heap_alloc_new w _
      obtain ⟨⟨d0, d1, d2⟩, f0, f1, f2⟩ := res_facts v3
      have HN := Lib.hid (show NewSt w V g _ _ _ from ⟨by omega, by rw [← hV]; exact below_new w _, v3⟩)
      clear h1 h2 h3 hV hg v3
      go_region
      go_wp2
      obtain ⟨B3, G3⟩ := bel_new3 HN.out (.int .i64 1) (.int .i64 1) (.int .i64 c.chg) _ rfl
      refine bodyPost_ret (res_step rfl _ _ g _ _ _ rfl G3) rfl ⟨ret_st rfl rfl rfl rfl (u8_bne x y), B3.drew⟩
    · rw [(fit12_b a b i j (by omega)).2]
      have i1 : decide ((i : Int) < (a.size : Int)) = true := decide_eq_true (by omega)
      have i2 : decide ((j : Int) < (b.size : Int)) = false := decide_eq_false (by omega)
      go_enter Try.func33, Try.ntmps33
      go_wp2
      obtain ⟨g, hg⟩ : ∃ g, w.heap.size = g := ⟨_, rfl⟩
      rw [hg]
      obtain ⟨V, hV⟩ : ∃ V, w.alloc (.cells #[.int .i64 0, .int .i64 0, .int .i64 0] 79) = V := ⟨_, rfl⟩
      rw [hV]
      have v1 : V.cell? ⟨A, 0, none⟩ = some (.string a) := by rw [← hV]; exact ((below_new w _).cell (p := ⟨A, 0, none⟩) (lt_of_cell h1)).trans h1
      have n1 : A ≠ g := by have := lt_of_cell h1; omega
      have v2 : V.cell? ⟨B, 0, none⟩ = some (.string b) := by rw [← hV]; exact ((below_new w _).cell (p := ⟨B, 0, none⟩) (lt_of_cell h2)).trans h2
      have n2 : B ≠ g := by have := lt_of_cell h2; omega
      have v4 : V.cell? ⟨C, 2, none⟩ = some (.int .i64 c.chg) := by rw [← hV]; exact ((below_new w _).cell (p := ⟨C, 2, none⟩) (lt_of_cell h3)).trans h3
      have n3 : C ≠ g := by have := lt_of_cell h3; omega
      have v3 : V.heap[g]? = some (.cells #[.int .i64 0, .int .i64 0, .int .i64 0] 79 (0, 0)) := by rw [← hV, ← hg]; exact heap_alloc_new w _
      obtain ⟨⟨d0, d1, d2⟩, f0, f1, f2⟩ := res_facts v3
      have HN := Lib.hid (show NewSt w V g _ _ _ from ⟨by omega, by rw [← hV]; exact below_new w _, v3⟩)
      clear h1 h2 h3 hV hg v3
      go_region
      go_wp2
      obtain ⟨B3, G3⟩ := bel_new3 HN.out (.int .i64 1) (.int .i64 1) (.int .i64 c.chg) _ rfl
      refine bodyPost_ret (res_step rfl _ _ g _ _ _ rfl G3) rfl ⟨ret_st rfl rfl rfl rfl rfl, B3.drew⟩
  · rw [(fit12_a a b i j (by omega)).2]
    have i1 : decide ((i : Int) < (a.size : Int)) = false := decide_eq_false (by omega)
    go_enter Try.func33, Try.ntmps33
    go_wp2
    obtain ⟨g, hg⟩ : ∃ g, w.heap.size = g := ⟨_, rfl⟩
    rw [hg]
    obtain ⟨V, hV⟩ : ∃ V, w.alloc (.cells #[.int .i64 0, .int .i64 0, .int .i64 0] 79) = V := ⟨_, rfl⟩
    rw [hV]
    have v1 : V.cell? ⟨A, 0, none⟩ = some (.string a) := by rw [← hV]; exact ((below_new w _).cell (p := ⟨A, 0, none⟩) (lt_of_cell h1)).trans h1
    have n1 : A ≠ g := by have := lt_of_cell h1; omega
    have v2 : V.cell? ⟨B, 0, none⟩ = some (.string b) := by rw [← hV]; exact ((below_new w _).cell (p := ⟨B, 0, none⟩) (lt_of_cell h2)).trans h2
    have n2 : B ≠ g := by have := lt_of_cell h2; omega
    have v4 : V.cell? ⟨C, 2, none⟩ = some (.int .i64 c.chg) := by rw [← hV]; exact ((below_new w _).cell (p := ⟨C, 2, none⟩) (lt_of_cell h3)).trans h3
    have n3 : C ≠ g := by have := lt_of_cell h3; omega
    have v3 : V.heap[g]? = some (.cells #[.int .i64 0, .int .i64 0, .int .i64 0] 79 (0, 0)) := by rw [← hV, ← hg]; exact heap_alloc_new w _
    obtain ⟨⟨d0, d1, d2⟩, f0, f1, f2⟩ := res_facts v3
    have HN := Lib.hid (show NewSt w V g _ _ _ from ⟨by omega, by rw [← hV]; exact below_new w _, v3⟩)
    clear h1 h2 h3 hV hg v3
    go_region
    go_wp2
    obtain ⟨B3, G3⟩ := bel_new3 HN.out (.int .i64 1) (.int .i64 1) (.int .i64 c.chg) _ rfl
    refine bodyPost_ret (res_step rfl _ _ g _ _ _ rfl G3) rfl ⟨ret_st rfl rfl rfl rfl rfl, B3.drew⟩
set_option maxHeartbeats 4000000 in
theorem st4_any (c : Ed.Cst) (A B C : Nat) (a b : ByteArray) (i j : Nat) (w : World) (ha : a.size ≤ 1000) (hb : b.size ≤ 1000) (h1 : w.cell? ⟨A, 0, none⟩ = some (.string a)) (h3 : w.cell? ⟨C, 1, none⟩ = some (.int .i64 c.del)) :
    Calls Try.prog 35 #[.int .i64 i, .int .i64 j, .pointer (some ⟨C, 0, none⟩), .pointer (some ⟨A, 0, none⟩)] w (PostSt c 4 (Ed.fit 4 ((tx a).drop i) ((tx b).drop j)) w) := by
  by_cases hi : i < a.size
  · rw [fit4_at a b i j hi]
    have i1 : decide ((i : Int) < (a.size : Int)) = true := decide_eq_true (by omega)
    go_enter Try.func35, Try.ntmps35
    go_wp2
    obtain ⟨g, hg⟩ : ∃ g, w.heap.size = g := ⟨_, rfl⟩
    rw [hg]
    obtain ⟨V, hV⟩ : ∃ V, w.alloc (.cells #[.int .i64 0, .int .i64 0, .int .i64 0] 79) = V := ⟨_, rfl⟩
    rw [hV]
    have v1 : V.cell? ⟨A, 0, none⟩ = some (.string a) := by rw [← hV]; exact ((below_new w _).cell (p := ⟨A, 0, none⟩) (lt_of_cell h1)).trans h1
    have n1 : A ≠ g := by have := lt_of_cell h1; omega
    have v4 : V.cell? ⟨C, 1, none⟩ = some (.int .i64 c.del) := by rw [← hV]; exact ((below_new w _).cell (p := ⟨C, 1, none⟩) (lt_of_cell h3)).trans h3
    have n3 : C ≠ g := by have := lt_of_cell h3; omega
    have v3 : V.heap[g]? = some (.cells #[.int .i64 0, .int .i64 0, .int .i64 0] 79 (0, 0)) := by rw [← hV, ← hg]; exact heap_alloc_new w _
    obtain ⟨⟨d0, d1, d2⟩, f0, f1, f2⟩ := res_facts v3
    have HN := Lib.hid (show NewSt w V g _ _ _ from ⟨by omega, by rw [← hV]; exact below_new w _, v3⟩)
    clear h1 h3 hV hg v3
    go_region
    go_wp2
    obtain ⟨B3, G3⟩ := bel_new3 HN.out (.int .i64 1) (.int .i64 0) (.int .i64 c.del) _ rfl
    refine bodyPost_ret (res_step rfl _ _ g _ _ _ rfl G3) rfl ⟨ret_st rfl rfl rfl rfl rfl, B3.drew⟩
  · rw [fit4_no a b i j (by omega)]
    have i1 : decide ((i : Int) < (a.size : Int)) = false := decide_eq_false (by omega)
    go_enter Try.func35, Try.ntmps35
    go_wp2
    obtain ⟨g, hg⟩ : ∃ g, w.heap.size = g := ⟨_, rfl⟩
    rw [hg]
    obtain ⟨V, hV⟩ : ∃ V, w.alloc (.cells #[.int .i64 0, .int .i64 0, .int .i64 0] 79) = V := ⟨_, rfl⟩
    rw [hV]
    have v1 : V.cell? ⟨A, 0, none⟩ = some (.string a) := by rw [← hV]; exact ((below_new w _).cell (p := ⟨A, 0, none⟩) (lt_of_cell h1)).trans h1
    have n1 : A ≠ g := by have := lt_of_cell h1; omega
    have v4 : V.cell? ⟨C, 1, none⟩ = some (.int .i64 c.del) := by rw [← hV]; exact ((below_new w _).cell (p := ⟨C, 1, none⟩) (lt_of_cell h3)).trans h3
    have n3 : C ≠ g := by have := lt_of_cell h3; omega
    have v3 : V.heap[g]? = some (.cells #[.int .i64 0, .int .i64 0, .int .i64 0] 79 (0, 0)) := by rw [← hV, ← hg]; exact heap_alloc_new w _
    obtain ⟨⟨d0, d1, d2⟩, f0, f1, f2⟩ := res_facts v3
    have HN := Lib.hid (show NewSt w V g _ _ _ from ⟨by omega, by rw [← hV]; exact below_new w _, v3⟩)
    clear h1 h3 hV hg v3
    go_region
    go_wp2
    obtain ⟨B3, G3⟩ := bel_new3 HN.out (.int .i64 1) (.int .i64 0) (.int .i64 c.del) _ rfl
    refine bodyPost_ret (res_step rfl _ _ g _ _ _ rfl G3) rfl ⟨ret_st rfl rfl rfl rfl rfl, B3.drew⟩
set_option maxHeartbeats 4000000 in
theorem st5_any (c : Ed.Cst) (A B C : Nat) (a b : ByteArray) (i j : Nat) (w : World) (ha : a.size ≤ 1000) (hb : b.size ≤ 1000) (h2 : w.cell? ⟨B, 0, none⟩ = some (.string b)) (h3 : w.cell? ⟨C, 0, none⟩ = some (.int .i64 c.ins)) :
    Calls Try.prog 36 #[.int .i64 i, .int .i64 j, .pointer (some ⟨C, 0, none⟩), .pointer (some ⟨B, 0, none⟩)] w (PostSt c 5 (Ed.fit 5 ((tx a).drop i) ((tx b).drop j)) w) := by
  by_cases hi : j < b.size
  · rw [fit5_at a b i j hi]
    have i1 : decide ((j : Int) < (b.size : Int)) = true := decide_eq_true (by omega)
    go_enter Try.func36, Try.ntmps36
    go_wp2
    obtain ⟨g, hg⟩ : ∃ g, w.heap.size = g := ⟨_, rfl⟩
    rw [hg]
    obtain ⟨V, hV⟩ : ∃ V, w.alloc (.cells #[.int .i64 0, .int .i64 0, .int .i64 0] 79) = V := ⟨_, rfl⟩
    rw [hV]
    have v2 : V.cell? ⟨B, 0, none⟩ = some (.string b) := by rw [← hV]; exact ((below_new w _).cell (p := ⟨B, 0, none⟩) (lt_of_cell h2)).trans h2
    have n2 : B ≠ g := by have := lt_of_cell h2; omega
    have v4 : V.cell? ⟨C, 0, none⟩ = some (.int .i64 c.ins) := by rw [← hV]; exact ((below_new w _).cell (p := ⟨C, 0, none⟩) (lt_of_cell h3)).trans h3
    have n3 : C ≠ g := by have := lt_of_cell h3; omega
    have v3 : V.heap[g]? = some (.cells #[.int .i64 0, .int .i64 0, .int .i64 0] 79 (0, 0)) := by rw [← hV, ← hg]; exact heap_alloc_new w _
    obtain ⟨⟨d0, d1, d2⟩, f0, f1, f2⟩ := res_facts v3
    have HN := Lib.hid (show NewSt w V g _ _ _ from ⟨by omega, by rw [← hV]; exact below_new w _, v3⟩)
    clear h2 h3 hV hg v3
    go_region
    go_wp2
    obtain ⟨B3, G3⟩ := bel_new3 HN.out (.int .i64 0) (.int .i64 1) (.int .i64 c.ins) _ rfl
    refine bodyPost_ret (res_step rfl _ _ g _ _ _ rfl G3) rfl ⟨ret_st rfl rfl rfl rfl rfl, B3.drew⟩
  · rw [fit5_no a b i j (by omega)]
    have i1 : decide ((j : Int) < (b.size : Int)) = false := decide_eq_false (by omega)
    go_enter Try.func36, Try.ntmps36
    go_wp2
    obtain ⟨g, hg⟩ : ∃ g, w.heap.size = g := ⟨_, rfl⟩
    rw [hg]
    obtain ⟨V, hV⟩ : ∃ V, w.alloc (.cells #[.int .i64 0, .int .i64 0, .int .i64 0] 79) = V := ⟨_, rfl⟩
    rw [hV]
    have v2 : V.cell? ⟨B, 0, none⟩ = some (.string b) := by rw [← hV]; exact ((below_new w _).cell (p := ⟨B, 0, none⟩) (lt_of_cell h2)).trans h2
    have n2 : B ≠ g := by have := lt_of_cell h2; omega
    have v4 : V.cell? ⟨C, 0, none⟩ = some (.int .i64 c.ins) := by rw [← hV]; exact ((below_new w _).cell (p := ⟨C, 0, none⟩) (lt_of_cell h3)).trans h3
    have n3 : C ≠ g := by have := lt_of_cell h3; omega
    have v3 : V.heap[g]? = some (.cells #[.int .i64 0, .int .i64 0, .int .i64 0] 79 (0, 0)) := by rw [← hV, ← hg]; exact heap_alloc_new w _
    obtain ⟨⟨d0, d1, d2⟩, f0, f1, f2⟩ := res_facts v3
    have HN := Lib.hid (show NewSt w V g _ _ _ from ⟨by omega, by rw [← hV]; exact below_new w _, v3⟩)
    clear h2 h3 hV hg v3
    go_region
    go_wp2
    obtain ⟨B3, G3⟩ := bel_new3 HN.out (.int .i64 0) (.int .i64 1) (.int .i64 c.ins) _ rfl
    refine bodyPost_ret (res_step rfl _ _ g _ _ _ rfl G3) rfl ⟨ret_st rfl rfl rfl rfl rfl, B3.drew⟩
end Go.Proofs.Ythojojjdamchpaa
