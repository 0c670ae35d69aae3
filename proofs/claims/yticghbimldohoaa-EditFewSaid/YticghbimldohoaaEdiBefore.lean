/-
  The walk of before, and what a script that goes through is.
-/
import Derived.Test.YticghbimldohoaaEdiDearer
namespace Go.Proofs.Yticghbimldohoaa
open Go.RowKit Go.Shelf
set_option linter.unusedVariables false
set_option linter.unusedSimpArgs false

theorem before_step {l m : List (Nat × Nat)} {i : Nat} (h1 : i < l.length) (h2 : i < m.length) :
    Ed.before (l.drop i) (m.drop i) = if l[i].1 = m[i].1 then Ed.before (l.drop (i + 1)) (m.drop (i + 1)) else decide (l[i].1 < m[i].1) := by
  rw [List.drop_eq_getElem_cons h1, List.drop_eq_getElem_cons h2]; rfl
set_option maxRecDepth 100000 in
set_option maxHeartbeats 4000000 in
theorem before_any (A1 A2 : Option Addr) (n1 n2 k1 k2 : Nat) (l m : List (Nat × Nat)) (w : World) (h1 : l.length = n1) (h2 : m.length = n2) (hn : n1 ≤ 1000000) (hn2 : n2 ≤ 1000000) (r1 : RdO w A1 l) (r2 : RdO w A2 m) :
    Calls Try.prog 22 #[.slice A1 n1 k1, .slice A2 n2 k2] w (PostB (Ed.before l m) w) := by
  have hni : (n1 : Int) ≤ 1000000 := by omega
  have hni2 : (n2 : Int) ≤ 1000000 := by omega
  have H1 := Lib.hid h1; have H2 := Lib.hid h2; have R1 := Lib.hid r1; have R2 := Lib.hid r2
  obtain ⟨res, hres⟩ : ∃ res, Ed.before l m = res := ⟨_, rfl⟩
  have H0 : Hid (Below w.heap.size w w ∧ Ed.before (l.drop 0) (m.drop 0) = res) := Lib.hid ⟨Below.refl _ _, hres⟩
  rw [hres]
  clear h1 h2 r1 r2 hres
  go_enter Try.func22, Try.ntmps22
  go_wp2
  go_loopw [5] (fun s5 wr => ∃ i : Nat, s5 = .int .i64 i ∧ i ≤ n1 ∧ i ≤ n2 ∧ Hid (Below w.heap.size w wr ∧ Ed.before (l.drop i) (m.drop i) = res)) (fun s5 _ => n1 - (intOf s5).toNat)
  case atStart => exact ⟨0, rfl, Nat.zero_le _, Nat.zero_le _, H0⟩
  case round =>
    obtain ⟨i, rfl, hi, hi2, HS⟩ := hrel
    clear H0
    by_cases hlt : i < n1
    · have hlti : (i : Int) < (n1 : Int) := by omega
      by_cases hlt2 : i < n2
      · have hlti2 : (i : Int) < (n2 : Int) := by omega
        have hil : i < l.length := by have := H1.out; omega
        have him : i < m.length := by have := H2.out; omega
        have hst := HS.out.2
        rw [before_step hil him] at hst
        obtain ⟨b1, o1, rfl, _, q1⟩ := R1.out (by omega)
        obtain ⟨b2, o2, rfl, _, q2⟩ := R2.out (by omega)
        obtain ⟨x0, x1⟩ := q1 i hil
        obtain ⟨y0, y1⟩ := q2 i him
        have x0 := cell_keep x0 HS.out.1
        have y0 := cell_keep y0 HS.out.1
        obtain ⟨k, hk⟩ : ∃ k, l[i].1 = k := ⟨_, rfl⟩
        obtain ⟨k', hk'⟩ : ∃ k, m[i].1 = k := ⟨_, rfl⟩
        rw [hk] at x0 hst
        rw [hk'] at y0 hst
        have HST := Lib.hid hst
        clear hst hk hk' q1 q2 x1 y1
        by_cases e1 : k = k'
        · subst e1
          go_wp2
          go_region
          go_wp2
          go_roundw
          case rel => exact ⟨i + 1, by go_num, by omega, by omega, Lib.hid ⟨HS.out.1.drew, by have h := HST.out; simpa using h⟩⟩
          case measure => simp [intOf]; omega
        · have e3 : ((k : Int) != (k' : Int)) = true := by rw [bne_iff_ne]; omega
          have hv : decide (k < k') = res := by
            have h := HST.out
            rwa [if_neg e1] at h
          have HE := Lib.hid e1; have HV := Lib.hid hv
          clear HST e1 hv
          go_wp2
          go_region
          go_wp2
          go_region
          go_wp2
          go_ret
          exact ⟨ret_bool HV.out, HS.out.1.drew.drew⟩
      · have hlti2 : ¬ (i : Int) < (n2 : Int) := by omega
        have hd : decide (n1 ≤ n2) = false := decide_eq_false (by omega)
        have hv : res = false := by
          have h := HS.out.2
          rw [List.drop_eq_getElem_cons (show i < l.length by have := H1.out; omega), List.drop_of_length_le (l := m) (by have := H2.out; omega)] at h
          rw [← h]; rfl
        have HV := Lib.hid hv
        clear hv
        go_wp2
        go_ret
        exact ⟨ret_bool HV.out.symm, HS.out.1⟩
    · obtain rfl : i = n1 := by omega
      have hd : decide (i ≤ n2) = true := decide_eq_true (by omega)
      have hv : res = true := by
        have h := HS.out.2
        rw [List.drop_of_length_le (l := l) (by have := H1.out; omega)] at h
        rw [← h]; rfl
      have HV := Lib.hid hv
      clear hv
      go_wp2
      go_ret
      exact ⟨ret_bool HV.out.symm, HS.out.1⟩
/-- a script that goes through has kinds alone -/
theorem app_kinds : ∀ (l : List (Nat × Nat)) (s t : List UInt8), (∀ o, o ∈ l → o.2 < 256) → Ed.app l s = some t → ∀ o, o ∈ l → 1 ≤ o.1 ∧ o.1 ≤ 5
  | [], _, _, _, _, o, ho => by cases ho
  | p :: l, s, t, hb, h, o, ho => by
    rw [app_step] at h
    cases he : Ed.eff p s with
    | none => rw [he] at h; cases h
    | some q =>
      obtain ⟨r, u⟩ := q
      rw [he] at h
      simp only [Option.map_eq_some_iff] at h
      obtain ⟨t2, h2, -⟩ := h
      rcases List.mem_cons.1 ho with rfl | ho
      · have := Ed.eff_fit (t := []) (hb o (List.mem_cons_self ..)) he
        exact ⟨this.1, this.2.1⟩
      · exact app_kinds l r t2 (fun o ho => hb o (List.mem_cons_of_mem _ ho)) h2 o ho
end Go.Proofs.Yticghbimldohoaa
