/-
  The closure that tells of an exchange: where a text ends.
-/
import Derived.Test.YthojojjdamchpaaEdiStep
namespace Go.Proofs.Ythojojjdamchpaa
open Go.RowKit
set_option linter.unusedVariables false
set_option linter.unusedSimpArgs false
set_option maxHeartbeats 4000000 in
theorem st3_b (c : Ed.Cst) (A B C : Nat) (a b : ByteArray) (i j : Nat) (w : World) (ha : a.size ≤ 1000) (hb : b.size ≤ 1000) (h1 : w.cell? ⟨A, 0, none⟩ = some (.string a)) (h2 : w.cell? ⟨B, 0, none⟩ = some (.string b)) (h3 : w.cell? ⟨C, 3, none⟩ = some (.int .i64 c.swp)) (hj0 : j ≤ 1000) (hi : i + 1 < a.size) (hj : b.size ≤ j + 1) :
    Calls Try.prog 34 #[.int .i64 i, .int .i64 j, .pointer (some ⟨C, 0, none⟩), .pointer (some ⟨A, 0, none⟩), .pointer (some ⟨B, 0, none⟩)] w (PostSt c 3 (Ed.fit 3 ((tx a).drop i) ((tx b).drop j)) w) := by
  rw [fit3_b a b i j (by omega)]
  have i1 : decide ((i : Int) + 1 < (a.size : Int)) = true := decide_eq_true (by omega)
  have i2 : decide ((j : Int) + 1 < (b.size : Int)) = false := decide_eq_false (by omega)
  have i3 : (j : Int) ≤ 1000 := by omega
  go_enter Try.func34, Try.ntmps34
  go_wp2
  obtain ⟨g, hg⟩ : ∃ g, w.heap.size = g := ⟨_, rfl⟩
  rw [hg]
  obtain ⟨V, hV⟩ : ∃ V, w.alloc (.cells #[.int .i64 0, .int .i64 0, .int .i64 0] 79) = V := ⟨_, rfl⟩
  rw [hV]
  have v1 : V.cell? ⟨A, 0, none⟩ = some (.string a) := by rw [← hV]; exact ((below_new w _).cell (p := ⟨A, 0, none⟩) (lt_of_cell h1)).trans h1
  have n1 : A ≠ g := by have := lt_of_cell h1; omega
  have v2 : V.cell? ⟨B, 0, none⟩ = some (.string b) := by rw [← hV]; exact ((below_new w _).cell (p := ⟨B, 0, none⟩) (lt_of_cell h2)).trans h2
  have n2 : B ≠ g := by have := lt_of_cell h2; omega
  have v4 : V.cell? ⟨C, 3, none⟩ = some (.int .i64 c.swp) := by rw [← hV]; exact ((below_new w _).cell (p := ⟨C, 3, none⟩) (lt_of_cell h3)).trans h3
  have n3 : C ≠ g := by have := lt_of_cell h3; omega
  have v3 : V.heap[g]? = some (.cells #[.int .i64 0, .int .i64 0, .int .i64 0] 79 (0, 0)) := by rw [← hV, ← hg]; exact heap_alloc_new w _
  obtain ⟨⟨d0, d1, d2⟩, f0, f1, f2⟩ := res_facts v3
  have HN := Lib.hid (show NewSt w V g _ _ _ from ⟨by omega, by rw [← hV]; exact below_new w _, v3⟩)
  clear h1 h2 h3 hV hg v3
  go_region
  go_wp2
  obtain ⟨B3, G3⟩ := bel_new3 HN.out (.int .i64 2) (.int .i64 2) (.int .i64 c.swp) _ rfl
  refine bodyPost_ret (res_step rfl _ _ g _ _ _ rfl G3) rfl ⟨ret_st rfl rfl rfl rfl rfl, B3.drew⟩
set_option maxHeartbeats 4000000 in
theorem st3_a (c : Ed.Cst) (A B C : Nat) (a b : ByteArray) (i j : Nat) (w : World) (ha : a.size ≤ 1000) (hb : b.size ≤ 1000) (h1 : w.cell? ⟨A, 0, none⟩ = some (.string a)) (h2 : w.cell? ⟨B, 0, none⟩ = some (.string b)) (h3 : w.cell? ⟨C, 3, none⟩ = some (.int .i64 c.swp)) (hi0 : i ≤ 1000) (hj0 : j ≤ 1000) (hi : a.size ≤ i + 1) :
    Calls Try.prog 34 #[.int .i64 i, .int .i64 j, .pointer (some ⟨C, 0, none⟩), .pointer (some ⟨A, 0, none⟩), .pointer (some ⟨B, 0, none⟩)] w (PostSt c 3 (Ed.fit 3 ((tx a).drop i) ((tx b).drop j)) w) := by
  rw [fit3_a a b i j (by omega)]
  have i1 : decide ((i : Int) + 1 < (a.size : Int)) = false := decide_eq_false (by omega)
  have i3 : (i : Int) ≤ 1000 := by omega
  have i4 : (j : Int) ≤ 1000 := by omega
  go_enter Try.func34, Try.ntmps34
  go_wp2
  obtain ⟨g, hg⟩ : ∃ g, w.heap.size = g := ⟨_, rfl⟩
  rw [hg]
  obtain ⟨V, hV⟩ : ∃ V, w.alloc (.cells #[.int .i64 0, .int .i64 0, .int .i64 0] 79) = V := ⟨_, rfl⟩
  rw [hV]
  have v1 : V.cell? ⟨A, 0, none⟩ = some (.string a) := by rw [← hV]; exact ((below_new w _).cell (p := ⟨A, 0, none⟩) (lt_of_cell h1)).trans h1
  have n1 : A ≠ g := by have := lt_of_cell h1; omega
  have v2 : V.cell? ⟨B, 0, none⟩ = some (.string b) := by rw [← hV]; exact ((below_new w _).cell (p := ⟨B, 0, none⟩) (lt_of_cell h2)).trans h2
  have n2 : B ≠ g := by have := lt_of_cell h2; omega
  have v4 : V.cell? ⟨C, 3, none⟩ = some (.int .i64 c.swp) := by rw [← hV]; exact ((below_new w _).cell (p := ⟨C, 3, none⟩) (lt_of_cell h3)).trans h3
  have n3 : C ≠ g := by have := lt_of_cell h3; omega
  have v3 : V.heap[g]? = some (.cells #[.int .i64 0, .int .i64 0, .int .i64 0] 79 (0, 0)) := by rw [← hV, ← hg]; exact heap_alloc_new w _
  obtain ⟨⟨d0, d1, d2⟩, f0, f1, f2⟩ := res_facts v3
  have HN := Lib.hid (show NewSt w V g _ _ _ from ⟨by omega, by rw [← hV]; exact below_new w _, v3⟩)
  clear h1 h2 h3 hV hg v3
  go_region
  go_wp2
  obtain ⟨B3, G3⟩ := bel_new3 HN.out (.int .i64 2) (.int .i64 2) (.int .i64 c.swp) _ rfl
  refine bodyPost_ret (res_step rfl _ _ g _ _ _ rfl G3) rfl ⟨ret_st rfl rfl rfl rfl rfl, B3.drew⟩
end Go.Proofs.Ythojojjdamchpaa
