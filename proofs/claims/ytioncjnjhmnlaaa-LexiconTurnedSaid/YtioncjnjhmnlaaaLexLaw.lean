/-
  The law's helpers: ones, Same, Few.
-/
import Derived.Test.YtioncjnjhmnlaaaLexBest
import Derived.Test.YtioncjnjhmnlaaaMonSame
namespace Go.Proofs.Ytioncjnjhmnlaaa
open Go.RowKit Lx
set_option linter.unusedVariables false
set_option linter.unusedSimpArgs false

def c1s : Ed.Cst := ⟨1, 1, 1, 1⟩
theorem ones_any (w : World) : Calls Try.prog 20 #[] w fun e w' => e = .returned (cstV c1s) ∧ Below w.heap.size w w' := by
  go_enter Try.func20, Try.ntmps20
  go_wp2
  refine bodyPost_ret (results_cell_row (fn := Try.f20) (p := 0) (ty := 24) rfl _ _ w.heap.size 24 _ (0, 0) _ rfl (heap_alloc_new w _) Try.underlying24 rfl (by kernel_rfl)) rfl ⟨rfl, below_new w _⟩
def PostB (b : Bool) (w : World) (e : Ending) (w' : World) : Prop := e = .returned (.bool b) ∧ Below w.heap.size w w'
theorem take_same {l m : List (Int × Int)} {i : Nat} (h : l.take i = m.take i) (h1 : i < l.length) (h2 : i < m.length) (e : l[i] = m[i]) : l.take (i + 1) = m.take (i + 1) := by
  rw [List.take_succ_eq_append_getElem h1, List.take_succ_eq_append_getElem h2, h, e]
set_option maxRecDepth 100000 in
set_option maxHeartbeats 2000000 in
theorem same_any (A1 A2 : Option Addr) (n1 n2 k1 k2 : Nat) (l m : List (Int × Int)) (w : World) (h1 : l.length = n1) (h2 : m.length = n2) (hn : n1 ≤ 1000000) (hn2 : n2 ≤ 1000000) (r1 : RdH w A1 l) (r2 : RdH w A2 m) :
    Calls Try.prog 14 #[.slice A1 n1 k1, .slice A2 n2 k2] w (PostB (decide (l = m)) w) := by
  by_cases hne : n1 = n2
  · subst hne
    have hni : (n1 : Int) ≤ 1000000 := by omega
    have H1 := Lib.hid h1; have H2 := Lib.hid h2; have R1 := Lib.hid r1; have R2 := Lib.hid r2
    have H0 : Hid (Below w.heap.size w w ∧ l.take 0 = m.take 0) := Lib.hid ⟨Below.refl _ _, rfl⟩
    obtain ⟨res, hres⟩ : ∃ res, decide (l = m) = res := ⟨_, rfl⟩
    rw [hres]
    have HRES := Lib.hid hres
    clear h1 h2 r1 r2 hres hn2
    go_enter Try.func14, Try.ntmps14
    go_wp2
    go_loopw [5] (fun s5 wr => ∃ i : Nat, s5 = .int .i64 i ∧ i ≤ n1 ∧ Hid (Below w.heap.size w wr ∧ l.take i = m.take i)) (fun s5 _ => n1 - (intOf s5).toNat)
    case atStart => exact ⟨0, rfl, Nat.zero_le _, H0⟩
    case round =>
      obtain ⟨i, rfl, hi, HS⟩ := hrel
      clear H0
      by_cases hlt : i < n1
      · have hil : i < l.length := by have := H1.out; omega
        have him : i < m.length := by have := H2.out; omega
        obtain ⟨b1, o1, rfl, _, q1⟩ := R1.out (by omega)
        obtain ⟨b2, o2, rfl, _, q2⟩ := R2.out (by omega)
        obtain ⟨x0, x1⟩ := q1 i hil
        obtain ⟨y0, y1⟩ := q2 i him
        have x0 := cell_keep x0 HS.out.1
        have x1 := cell_keep x1 HS.out.1
        have y0 := cell_keep y0 HS.out.1
        have y1 := cell_keep y1 HS.out.1
        skip
        obtain ⟨o, ho⟩ : ∃ o, l[i] = o := ⟨_, rfl⟩
        obtain ⟨p, hp⟩ : ∃ p, m[i] = p := ⟨_, rfl⟩
        rw [ho] at x0 x1
        rw [hp] at y0 y1
        have hlti : (i : Int) < (n1 : Int) := by omega
        obtain ⟨k, y⟩ := o
        obtain ⟨k', y'⟩ := p
        have HOP := Lib.hid (And.intro ho hp)
        simp only at x0 x1 y0 y1
        clear ho hp q1 q2
        by_cases e1 : k = k'
        · subst e1
          by_cases e2 : y = y'
          · subst e2
            go_wp2
            go_region
            go_wp2
            go_roundw
            case rel => exact ⟨i + 1, by go_num, by omega, Lib.hid ⟨HS.out.1.drew, take_same HS.out.2 hil him (HOP.out.1.trans HOP.out.2.symm)⟩⟩
            case measure => simp [intOf]; omega
          have e3 : ¬ y = y' := by omega
          have hv : res = false := by
            rw [← HRES.out, decide_eq_false_iff_not]
            intro e
            have h1 := HOP.out.1; have h2 := HOP.out.2
            subst e
            rw [h1] at h2
            injection h2 with h3 h4
            exact e2 h4
          have HV := Lib.hid hv
          clear hv
          go_wp2
          go_region
          go_wp2
          go_ret
          exact ⟨ret_bool HV.out.symm, HS.out.1.drew⟩
        · have e3 : ¬ k = k' := by omega
          have hv : res = false := by
            rw [← HRES.out, decide_eq_false_iff_not]
            intro e
            have h1 := HOP.out.1; have h2 := HOP.out.2
            subst e
            rw [h1] at h2
            injection h2 with h3 h4
            exact e1 h3
          have HV := Lib.hid hv
          clear hv
          go_wp2
          go_region
          go_wp2
          go_ret
          exact ⟨ret_bool HV.out.symm, HS.out.1.drew⟩
      · obtain rfl : i = n1 := by omega
        have hv : res = true := by
          rw [← HRES.out, decide_eq_true_eq]
          have h := HS.out.2
          rwa [List.take_of_length_le (by have := H1.out; omega), List.take_of_length_le (by have := H2.out; omega)] at h
        have HV := Lib.hid hv
        clear hv
        go_wp2
        go_ret
        exact ⟨ret_bool HV.out.symm, HS.out.1⟩
  · have hd : ((n1 : Int) != (n2 : Int)) = true := by rw [bne_iff_ne]; omega
    have hv : decide (l = m) = false := decide_eq_false fun e => by subst e; omega
    rw [hv]
    clear hv r1 r2 h1 h2
    go_enter Try.func14, Try.ntmps14
    go_wp2
    go_ret
    exact ⟨rfl, Below.refl _ _⟩


/-- few words, and short -/
def fewOf (ws : List ByteArray) : Prop := (∀ x, x ∈ ws → x.size ≤ 70) ∧ ws.length ≤ 200
instance (ws : List ByteArray) : Decidable (fewOf ws) := by unfold fewOf; infer_instance
set_option maxHeartbeats 2000000 in
theorem few_any (A : Option Addr) (c b0 : Nat) (ws : List ByteArray) (w : World) (h : RdW w b0 A ws) (hl : ws.length ≤ 9223372036854775807) :
    Calls Try.prog 8 #[.slice A ws.length c] w (PostB (decide (fewOf ws)) w) := by
  have H := Lib.hid h
  obtain ⟨res, hres⟩ : ∃ res, decide (fewOf ws) = res := ⟨_, rfl⟩
  rw [hres]
  have HRES := Lib.hid hres
  clear h hres
  go_enter Try.func8, Try.ntmps8
  go_wp2
  go_loopw [3] (fun s wr => ∃ i : Nat, s = .int .i64 (i : Int) ∧ i ≤ ws.length ∧ Hid (∀ x, x ∈ ws.take i → x.size ≤ 70) ∧ Hid (w = wr)) (fun s _ => ws.length - (intOf s).toNat)
  case atStart => exact ⟨0, rfl, Nat.zero_le _, Lib.hid (by simp), Lib.hid rfl⟩
  case round =>
    obtain ⟨i, rfl, hi, hS, hW⟩ := hrel
    have hW2 := hW.out
    subst hW2
    clear hW
    by_cases hlt : i < ws.length
    · have i1 : decide ((i : Int) < (ws.length : Int)) = true := decide_eq_true (by omega)
      obtain ⟨b, off, rfl, -, hbl, hc⟩ := H.out (by omega)
      have hci := hc i hlt
      have hmem : ws.getD i ByteArray.empty ∈ ws := by
        rw [List.getD_eq_getElem?_getD, List.getElem?_eq_getElem hlt]
        exact List.getElem_mem hlt
      have htk : ws.take (i + 1) = ws.take i ++ [ws.getD i ByteArray.empty] := by
        rw [List.take_succ_eq_append_getElem hlt, List.getD_eq_getElem?_getD, List.getElem?_eq_getElem hlt]; rfl
      generalize ws.getD i ByteArray.empty = s at hci hmem htk
      have HM := Lib.hid hmem; have HT := Lib.hid htk
      clear hc hmem htk
      by_cases h7 : 70 < s.size
      · have i2 : decide ((70 : Int) < (s.size : Int)) = true := decide_eq_true (by omega)
        have hv : res = false := by
          rw [← HRES.out, decide_eq_false_iff_not]
          intro h
          have := h.1 s HM.out
          omega
        subst hv
        go_wp2
        go_ret
        exact ⟨rfl, Below.refl _ _⟩
      · have i2 : decide ((70 : Int) < (s.size : Int)) = false := decide_eq_false (by omega)
        go_wp2
        go_roundw
        case rel =>
          refine ⟨i + 1, by go_num, by omega, Lib.hid fun x hx => ?_, Lib.hid (by simp)⟩
          rw [HT.out] at hx
          rcases List.mem_append.1 hx with hx | hx
          · exact hS.out x hx
          · simp at hx; subst hx; omega
        case measure => simp [intOf]; omega
    · obtain rfl : i = ws.length := by omega
      have hv : res = decide ((ws.length : Int) ≤ 200) := by
        rw [← HRES.out]
        refine decide_eq_decide.2 ⟨fun h => by have := h.2; omega, fun h => ⟨fun x hx => hS.out x (by rw [List.take_length]; exact hx), by omega⟩⟩
      subst hv
      go_wp2
      go_ret
      exact ⟨rfl, Below.refl _ _⟩
end Go.Proofs.Ytioncjnjhmnlaaa
