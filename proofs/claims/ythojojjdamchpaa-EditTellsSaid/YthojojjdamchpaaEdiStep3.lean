/-
  The closure that tells of an exchange.
-/
import Derived.Test.YthojojjdamchpaaEdiStep
namespace Go.Proofs.Ythojojjdamchpaa
open Go.RowKit
set_option linter.unusedVariables false
set_option linter.unusedSimpArgs false
set_option maxHeartbeats 4000000 in
theorem st3_yes (c : Ed.Cst) (A B C : Nat) (a b : ByteArray) (i j : Nat) (w : World) (ha : a.size ≤ 1000) (hb : b.size ≤ 1000) (h1 : w.cell? ⟨A, 0, none⟩ = some (.string a)) (h2 : w.cell? ⟨B, 0, none⟩ = some (.string b)) (h3 : w.cell? ⟨C, 3, none⟩ = some (.int .i64 c.swp)) (hi : i + 1 < a.size) (hj : j + 1 < b.size) :
    Calls Try.prog 34 #[.int .i64 i, .int .i64 j, .pointer (some ⟨C, 0, none⟩), .pointer (some ⟨A, 0, none⟩), .pointer (some ⟨B, 0, none⟩)] w (PostSt c 3 (Ed.fit 3 ((tx a).drop i) ((tx b).drop j)) w) := by
  rw [fit3_at a b i j hi hj]
  have i1 : decide ((i : Int) + 1 < (a.size : Int)) = true := decide_eq_true (by omega)
  have i2 : decide ((j : Int) + 1 < (b.size : Int)) = true := decide_eq_true (by omega)
  have i3 : i < a.size := by omega
  have i4 : j < b.size := by omega
  obtain ⟨x, hx⟩ : ∃ x, a[i] = x := ⟨_, rfl⟩
  obtain ⟨y, hy⟩ : ∃ y, b[j] = y := ⟨_, rfl⟩
  obtain ⟨x2, hx2⟩ : ∃ x2, a[i + 1] = x2 := ⟨_, rfl⟩
  obtain ⟨y2, hy2⟩ : ∃ y2, b[j + 1] = y2 := ⟨_, rfl⟩
  rw [hx, hy, hx2, hy2]
  rcases (show x = x2 ∨ (x ≠ x2 ∧ x ≠ y2) ∨ (x ≠ x2 ∧ x = y2) from if p : x = x2 then .inl p else if q : x = y2 then .inr (.inr ⟨p, q⟩) else .inr (.inl ⟨p, q⟩)) with p | ⟨p, q⟩ | ⟨p, q⟩
  · have q1 := u8_bne x x2
    rw [show (x != x2) = false by simp [p]] at q1 ⊢
    clear p
    go_enter Try.func34, Try.ntmps34
    go_wp2
    obtain ⟨g, hg⟩ : ∃ g, w.heap.size = g := ⟨_, rfl⟩
    rw [hg]
    obtain ⟨V, hV⟩ : ∃ V, w.alloc (.cells #[.int .i64 0, .int .i64 0, .int .i64 0] 79) = V := ⟨_, rfl⟩
    rw [hV]
    have v1 : V.cell? ⟨A, 0, none⟩ = some (.string a) := by rw [← hV]; exact ((below_new w _).cell (p := ⟨A, 0, none⟩) (lt_of_cell h1)).trans h1
    have n1 : A ≠ g := by have := lt_of_cell h1; omega
    have v2 : V.cell? ⟨B, 0, none⟩ = some (.string b) := by rw [← hV]; exact ((below_new w _).cell (p := ⟨B, 0, none⟩) (lt_of_cell h2)).trans h2
    have n2 : B ≠ g := by have := lt_of_cell h2; omega
    have v4 : V.cell? ⟨C, 3, none⟩ = some (.int .i64 c.swp) := by rw [← hV]; exact ((below_new w _).cell (p := ⟨C, 3, none⟩) (lt_of_cell h3)).trans h3
    have n3 : C ≠ g := by have := lt_of_cell h3; omega
    have v3 : V.heap[g]? = some (.cells #[.int .i64 0, .int .i64 0, .int .i64 0] 79 (0, 0)) := by rw [← hV, ← hg]; exact heap_alloc_new w _
    obtain ⟨⟨d0, d1, d2⟩, f0, f1, f2⟩ := res_facts v3
    have HN := Lib.hid (show NewSt w V g _ _ _ from ⟨by omega, by rw [← hV]; exact below_new w _, v3⟩)
    clear h1 h2 h3 hV hg v3
    go_region
    go_wp2
    obtain ⟨B3, G3⟩ := bel_new3 HN.out (.int .i64 2) (.int .i64 2) (.int .i64 c.swp) _ rfl
    refine bodyPost_ret (res_step rfl _ _ g _ _ _ rfl G3) rfl ⟨ret_st rfl rfl rfl rfl rfl, B3.drew⟩
  · have q1 := u8_bne x x2
    rw [show (x != x2) = true by simpa using p] at q1 ⊢
    have q2 := u8_beq x y2
    rw [show (x == y2) = false by simpa using q] at q2 ⊢
    clear p q
    go_enter Try.func34, Try.ntmps34
    go_wp2
    obtain ⟨g, hg⟩ : ∃ g, w.heap.size = g := ⟨_, rfl⟩
    rw [hg]
    obtain ⟨V, hV⟩ : ∃ V, w.alloc (.cells #[.int .i64 0, .int .i64 0, .int .i64 0] 79) = V := ⟨_, rfl⟩
    rw [hV]
    have v1 : V.cell? ⟨A, 0, none⟩ = some (.string a) := by rw [← hV]; exact ((below_new w _).cell (p := ⟨A, 0, none⟩) (lt_of_cell h1)).trans h1
    have n1 : A ≠ g := by have := lt_of_cell h1; omega
    have v2 : V.cell? ⟨B, 0, none⟩ = some (.string b) := by rw [← hV]; exact ((below_new w _).cell (p := ⟨B, 0, none⟩) (lt_of_cell h2)).trans h2
    have n2 : B ≠ g := by have := lt_of_cell h2; omega
    have v4 : V.cell? ⟨C, 3, none⟩ = some (.int .i64 c.swp) := by rw [← hV]; exact ((below_new w _).cell (p := ⟨C, 3, none⟩) (lt_of_cell h3)).trans h3
    have n3 : C ≠ g := by have := lt_of_cell h3; omega
    have v3 : V.heap[g]? = some (.cells #[.int .i64 0, .int .i64 0, .int .i64 0] 79 (0, 0)) := by rw [← hV, ← hg]; exact heap_alloc_new w _
    obtain ⟨⟨d0, d1, d2⟩, f0, f1, f2⟩ := res_facts v3
    have HN := Lib.hid (show NewSt w V g _ _ _ from ⟨by omega, by rw [← hV]; exact below_new w _, v3⟩)
    clear h1 h2 h3 hV hg v3
    go_region
    go_wp2
    obtain ⟨B3, G3⟩ := bel_new3 HN.out (.int .i64 2) (.int .i64 2) (.int .i64 c.swp) _ rfl
    refine bodyPost_ret (res_step rfl _ _ g _ _ _ rfl G3) rfl ⟨ret_st rfl rfl rfl rfl rfl, B3.drew⟩
  · have q1 := u8_bne x x2
    rw [show (x != x2) = true by simpa using p] at q1 ⊢
    have q2 := u8_beq x y2
    rw [show (x == y2) = true by simpa using q] at q2 ⊢
    clear p q
    go_enter Try.func34, Try.ntmps34
    go_wp2
    obtain ⟨g, hg⟩ : ∃ g, w.heap.size = g := ⟨_, rfl⟩
    rw [hg]
    obtain ⟨V, hV⟩ : ∃ V, w.alloc (.cells #[.int .i64 0, .int .i64 0, .int .i64 0] 79) = V := ⟨_, rfl⟩
    rw [hV]
    have v1 : V.cell? ⟨A, 0, none⟩ = some (.string a) := by rw [← hV]; exact ((below_new w _).cell (p := ⟨A, 0, none⟩) (lt_of_cell h1)).trans h1
    have n1 : A ≠ g := by have := lt_of_cell h1; omega
    have v2 : V.cell? ⟨B, 0, none⟩ = some (.string b) := by rw [← hV]; exact ((below_new w _).cell (p := ⟨B, 0, none⟩) (lt_of_cell h2)).trans h2
    have n2 : B ≠ g := by have := lt_of_cell h2; omega
    have v4 : V.cell? ⟨C, 3, none⟩ = some (.int .i64 c.swp) := by rw [← hV]; exact ((below_new w _).cell (p := ⟨C, 3, none⟩) (lt_of_cell h3)).trans h3
    have n3 : C ≠ g := by have := lt_of_cell h3; omega
    have v3 : V.heap[g]? = some (.cells #[.int .i64 0, .int .i64 0, .int .i64 0] 79 (0, 0)) := by rw [← hV, ← hg]; exact heap_alloc_new w _
    obtain ⟨⟨d0, d1, d2⟩, f0, f1, f2⟩ := res_facts v3
    have HN := Lib.hid (show NewSt w V g _ _ _ from ⟨by omega, by rw [← hV]; exact below_new w _, v3⟩)
    clear h1 h2 h3 hV hg v3
    go_region
    go_wp2
    obtain ⟨B3, G3⟩ := bel_new3 HN.out (.int .i64 2) (.int .i64 2) (.int .i64 c.swp) _ rfl
    refine bodyPost_ret (res_step rfl _ _ g _ _ _ rfl G3) rfl ⟨ret_st rfl rfl rfl rfl ((u8_beq x2 y).trans (by simp)), B3.drew⟩
end Go.Proofs.Ythojojjdamchpaa
