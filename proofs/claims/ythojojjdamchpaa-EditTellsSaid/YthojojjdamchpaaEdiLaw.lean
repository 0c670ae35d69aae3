/-
  The law's helpers: ones, Same, kinds.
-/
import Derived.Test.YthojojjdamchpaaEdiApply
import Derived.Test.YthojojjdamchpaaEdiPath2
import Derived.Test.YthojojjdamchpaaEdiWithin2
import Derived.BigQuiet
namespace Go.Proofs.Ythojojjdamchpaa
open Go.RowKit Go.Shelf
set_option linter.unusedVariables false
set_option linter.unusedSimpArgs false

def c1s : Ed.Cst := ⟨1, 1, 1, 1⟩
theorem ones_any (w : World) : Calls Try.prog 6 #[] w fun e w' => e = .returned (cstV c1s) ∧ Below w.heap.size w w' := by
  go_enter Try.func6, Try.ntmps6
  go_wp2
  refine bodyPost_ret (results_cell_row (fn := Try.f6) (p := 0) (ty := 23) rfl _ _ w.heap.size 23 _ (0, 0) _ rfl (heap_alloc_new w _) Try.underlying23 rfl (by kernel_rfl)) rfl ⟨rfl, below_new w _⟩
def PostB (b : Bool) (w : World) (e : Ending) (w' : World) : Prop := e = .returned (.bool b) ∧ Below w.heap.size w w'
theorem take_same {l m : List (Nat × Nat)} {i : Nat} (h : l.take i = m.take i) (h1 : i < l.length) (h2 : i < m.length) (e : l[i] = m[i]) : l.take (i + 1) = m.take (i + 1) := by
  rw [List.take_succ_eq_append_getElem h1, List.take_succ_eq_append_getElem h2, h, e]
set_option maxRecDepth 100000 in
set_option maxHeartbeats 2000000 in
theorem same_any (A1 A2 : Option Addr) (n1 n2 k1 k2 : Nat) (l m : List (Nat × Nat)) (w : World) (h1 : l.length = n1) (h2 : m.length = n2) (hn : n1 ≤ 1000000) (hn2 : n2 ≤ 1000000) (r1 : RdO w A1 l) (r2 : RdO w A2 m) :
    Calls Try.prog 10 #[.slice A1 n1 k1, .slice A2 n2 k2] w (PostB (decide (l = m)) w) := by
  by_cases hne : n1 = n2
  · subst hne
    have hni : (n1 : Int) ≤ 1000000 := by omega
    have H1 := Lib.hid h1; have H2 := Lib.hid h2; have R1 := Lib.hid r1; have R2 := Lib.hid r2
    have H0 : Hid (Below w.heap.size w w ∧ l.take 0 = m.take 0) := Lib.hid ⟨Below.refl _ _, rfl⟩
    obtain ⟨res, hres⟩ : ∃ res, decide (l = m) = res := ⟨_, rfl⟩
    rw [hres]
    have HRES := Lib.hid hres
    clear h1 h2 r1 r2 hres hn2
    go_enter Try.func10, Try.ntmps10
    go_wp2
    go_loopw [5] (fun s5 wr => ∃ i : Nat, s5 = .int .i64 i ∧ i ≤ n1 ∧ Hid (Below w.heap.size w wr ∧ l.take i = m.take i)) (fun s5 _ => n1 - (intOf s5).toNat)
    case atStart => exact ⟨0, rfl, Nat.zero_le _, H0⟩
    case round =>
      obtain ⟨i, rfl, hi, HS⟩ := hrel
      clear H0
      by_cases hlt : i < n1
      · have hil : i < l.length := by have := H1.out; omega
        have him : i < m.length := by have := H2.out; omega
        obtain ⟨b1, o1, rfl, _, q1⟩ := R1.out (by omega)
        obtain ⟨b2, o2, rfl, _, q2⟩ := R2.out (by omega)
        obtain ⟨x0, x1⟩ := q1 i hil
        obtain ⟨y0, y1⟩ := q2 i him
        have x0 := cell_keep x0 HS.out.1
        have x1 := cell_keep x1 HS.out.1
        have y0 := cell_keep y0 HS.out.1
        have y1 := cell_keep y1 HS.out.1
        rw [← Nat.add_assoc] at x1 y1
        obtain ⟨o, ho⟩ : ∃ o, l[i] = o := ⟨_, rfl⟩
        obtain ⟨p, hp⟩ : ∃ p, m[i] = p := ⟨_, rfl⟩
        rw [ho] at x0 x1
        rw [hp] at y0 y1
        have hlti : (i : Int) < (n1 : Int) := by omega
        obtain ⟨k, y⟩ := o
        obtain ⟨k', y'⟩ := p
        have HOP := Lib.hid (And.intro ho hp)
        simp only at x0 x1 y0 y1
        clear ho hp q1 q2
        by_cases e1 : k = k'
        · subst e1
          by_cases e2 : y = y'
          · subst e2
            go_wp2
            go_region
            go_wp2
            go_roundw
            case rel => exact ⟨i + 1, by go_num, by omega, Lib.hid ⟨HS.out.1.drew, take_same HS.out.2 hil him (HOP.out.1.trans HOP.out.2.symm)⟩⟩
            case measure => simp [intOf]; omega
          have e3 : ¬ (y : Int) = (y' : Int) := by omega
          have hv : res = false := by
            rw [← HRES.out, decide_eq_false_iff_not]
            intro e
            have h1 := HOP.out.1; have h2 := HOP.out.2
            subst e
            rw [h1] at h2
            injection h2 with h3 h4
            exact e2 h4
          have HV := Lib.hid hv
          clear hv
          go_wp2
          go_region
          go_wp2
          go_ret
          exact ⟨ret_bool HV.out.symm, HS.out.1.drew⟩
        · have e3 : ¬ (k : Int) = (k' : Int) := by omega
          have hv : res = false := by
            rw [← HRES.out, decide_eq_false_iff_not]
            intro e
            have h1 := HOP.out.1; have h2 := HOP.out.2
            subst e
            rw [h1] at h2
            injection h2 with h3 h4
            exact e1 h3
          have HV := Lib.hid hv
          clear hv
          go_wp2
          go_region
          go_wp2
          go_ret
          exact ⟨ret_bool HV.out.symm, HS.out.1.drew⟩
      · obtain rfl : i = n1 := by omega
        have hv : res = true := by
          rw [← HRES.out, decide_eq_true_eq]
          have h := HS.out.2
          rwa [List.take_of_length_le (by have := H1.out; omega), List.take_of_length_le (by have := H2.out; omega)] at h
        have HV := Lib.hid hv
        clear hv
        go_wp2
        go_ret
        exact ⟨ret_bool HV.out.symm, HS.out.1⟩
  · have hd : ((n1 : Int) != (n2 : Int)) = true := by rw [bne_iff_ne]; omega
    have hv : decide (l = m) = false := decide_eq_false fun e => by subst e; omega
    rw [hv]
    clear hv r1 r2 h1 h2
    go_enter Try.func10, Try.ntmps10
    go_wp2
    go_ret
    exact ⟨rfl, Below.refl _ _⟩

/-- the script of some kinds, with bytes for changes and insertions -/
def kindsL : List UInt8 → List Nat → List (Nat × Nat)
  | _, [] => []
  | bs, k :: ks => if (k = 2 ∨ k = 5) ∧ bs ≠ [] then (k, (bs.headD 0).toNat) :: kindsL (bs.drop 1) ks else (k, 0) :: kindsL bs ks
def PostK (l : List (Nat × Nat)) (w : World) (e : Ending) (w' : World) : Prop := ∃ A n c, e = .returned (.slice A n c) ∧ OwnO w.heap.size 51 w' A n c l ∧ Below w.heap.size w w'
/-- the state of the loop of kinds -/
structure KS (bs : ByteArray) (ks : List Nat) (w W : World) (A : Option Addr) (n c : Nat) (S : ByteArray) (i : Nat) : Prop where
  bel : Below w.heap.size w W
  size : S.size ≤ 1000
  own : ∃ l, OwnO w.heap.size 51 W A n c l ∧ l ++ kindsL (tx S) (ks.drop i) = kindsL (tx bs) ks ∧ l.length = i
set_option maxRecDepth 100000 in
set_option maxHeartbeats 4000000 in
theorem kinds_any (bs : ByteArray) (b n0 c0 : Nat) (ks : List Nat) (w : World) (hbs : bs.size ≤ 1000) (hl : ks.length = n0) (hn : n0 ≤ 1000) (hc : ∀ i (h : i < ks.length), w.cell? ⟨b, i, none⟩ = some (.int .u8 (ks[i]))) :
    Calls Try.prog 7 #[.string bs, .slice (some ⟨b, 0, none⟩) n0 c0] w (PostK (kindsL (tx bs) ks) w) := by
  have hni : (n0 : Int) ≤ 1000 := by omega
  have HS0 : Hid (KS bs ks w w none 0 0 bs 0) := Lib.hid ⟨Below.refl _ _, hbs, [], OwnO.nil _ _ _, rfl, rfl⟩
  have HL := Lib.hid hl; have HC := Lib.hid hc
  clear hl hc
  go_enter Try.func7, Try.ntmps7
  go_wp2
  go_loopw [0, 5, 6] (fun s0 s5 s6 wr => ∃ (i : Nat) (P : Option Addr) (n c : Nat) (S : ByteArray), s6 = .int .i64 i ∧ s5 = .slice P n c ∧ s0 = .string S ∧ i ≤ n0 ∧ Hid (KS bs ks w wr P n c S i)) (fun _ _ s6 _ => n0 - (intOf s6).toNat)
  case atStart => exact ⟨0, none, 0, 0, bs, rfl, rfl, rfl, Nat.zero_le _, HS0⟩
  case round =>
    obtain ⟨i, P, n, c, S, rfl, rfl, rfl, hi, HS⟩ := hrel
    clear HS0
    by_cases hlt : i < n0
    · have hlti : (i : Int) < (n0 : Int) := by omega
      have hil : i < ks.length := by have := HL.out; omega
      have hdrop : ks.drop i = ks[i] :: ks.drop (i + 1) := List.drop_eq_getElem_cons _
      have d0 := cell_keep (HC.out i hil) HS.out.bel
      have d1 := fun o => cell_keep d0 (below_new wr o)
      obtain ⟨k, hk⟩ : ∃ k, ks[i] = k := ⟨_, rfl⟩
      rw [hk] at d0 hdrop
      simp only [hk] at d1
      obtain ⟨hbel, hsz, l, ho, happ, hln⟩ := HS.out
      have hn2 := ho.1
      rw [hdrop] at happ
      have HB := Lib.hid hbel; have HO := Lib.hid ho; have HA := Lib.hid happ; have HLN := Lib.hid hln; have HN2 := Lib.hid hn2; have HSZ := Lib.hid hsz
      clear hbel ho happ hdrop hk hln hn2
      by_cases hgo : (k = 2 ∨ k = 5) ∧ 0 < S.size
      · obtain ⟨hk25, hs0⟩ := hgo
        have hse := list_some S hs0
        have hp2 : (0 : Int) < S.size := by omega
        obtain ⟨x, hx⟩ : ∃ x, S[0] = x := ⟨_, rfl⟩
        have hi1 : (1 : Int) ≤ S.size := by omega
        have HKL := Lib.hid (show kindsL (tx S) (k :: ks.drop (i + 1)) = (k, x.toNat) :: kindsL ((tx S).drop 1) (ks.drop (i + 1)) by
          have ht := tx_head S hs0
          have hne : tx S ≠ [] := by rw [tx_cons S hs0]; simp
          show (if (k = 2 ∨ k = 5) ∧ tx S ≠ [] then _ else _) = _
          rw [if_pos ⟨hk25, hne⟩, ht, hx])
        rcases hk25 with rfl | rfl
        · go_wp2_with (at_builtin; refine wpList_appO _ rfl (.tmp 40) (.tmp 42) rfl w.heap.size n c P l rfl (HO.out.below ((below_new wr _).trans ((below_new _ _).mono (by simp)))) _ (2, x.toNat) rfl (by go_simp) (by go_simp) (by have := HN2.out; have := HLN.out; omega) (by have := HB.out.size; simp; omega) ?_; intro P2 n2 c2 w5 hn2 ho5 hg5; have HN3 := Lib.hid hn2; have HO5 := Lib.hid ho5; have HB5 := Lib.hid (Below.grown (HB.out.trans (((below_new wr _).trans ((below_new _ _).mono (by simp))).mono HB.out.size)) hg5 (by have := HB.out.size; simp; omega) (fun q hq => (HO.out.2.lt q hq).1)); clear hn2 ho5 hg5)
          go_roundw
          case rel =>
            refine ⟨i + 1, P2, n2, c2, S.extract 1 S.size, by go_num, rfl, rfl, by omega, Lib.hid ⟨HB5.out, (by rw [ByteArray.size_extract]; have := HSZ.out; omega), l ++ [(2, x.toNat)], HO5.out, ?_, ?_⟩⟩
            · have h := HA.out
              rw [HKL.out] at h
              rw [← h, tx_extract, List.append_assoc]; rfl
            · rw [List.length_append, List.length_singleton, HLN.out]
          case measure => simp [intOf]; omega
        · go_wp2_with (at_builtin; refine wpList_appO _ rfl (.tmp 40) (.tmp 42) rfl w.heap.size n c P l rfl (HO.out.below ((below_new wr _).trans ((below_new _ _).mono (by simp)))) _ (5, x.toNat) rfl (by go_simp) (by go_simp) (by have := HN2.out; have := HLN.out; omega) (by have := HB.out.size; simp; omega) ?_; intro P2 n2 c2 w5 hn2 ho5 hg5; have HN3 := Lib.hid hn2; have HO5 := Lib.hid ho5; have HB5 := Lib.hid (Below.grown (HB.out.trans (((below_new wr _).trans ((below_new _ _).mono (by simp))).mono HB.out.size)) hg5 (by have := HB.out.size; simp; omega) (fun q hq => (HO.out.2.lt q hq).1)); clear hn2 ho5 hg5)
          go_roundw
          case rel =>
            refine ⟨i + 1, P2, n2, c2, S.extract 1 S.size, by go_num, rfl, rfl, by omega, Lib.hid ⟨HB5.out, (by rw [ByteArray.size_extract]; have := HSZ.out; omega), l ++ [(5, x.toNat)], HO5.out, ?_, ?_⟩⟩
            · have h := HA.out
              rw [HKL.out] at h
              rw [← h, tx_extract, List.append_assoc]; rfl
            · rw [List.length_append, List.length_singleton, HLN.out]
          case measure => simp [intOf]; omega
      · have HKL := Lib.hid (show kindsL (tx S) (k :: ks.drop (i + 1)) = (k, 0) :: kindsL (tx S) (ks.drop (i + 1)) by
          show (if (k = 2 ∨ k = 5) ∧ tx S ≠ [] then _ else _) = _
          rw [if_neg]
          rintro ⟨h1, h2⟩
          refine hgo ⟨h1, ?_⟩
          have := List.length_pos_iff.2 h2
          rw [tx_len] at this; exact this)
        by_cases hk25 : k = 2 ∨ k = 5
        · have hs0 : S.size = 0 := by
            by_cases h : S.size = 0
            · exact h
            · exact absurd ⟨hk25, by omega⟩ hgo
          have hse := list_nil S hs0
          clear hgo hs0
          rcases hk25 with rfl | rfl
          · go_wp2_with (at_builtin; refine wpList_appO _ rfl (.tmp 40) (.tmp 42) rfl w.heap.size n c P l rfl (HO.out.below ((below_new wr _).trans ((below_new _ _).mono (by simp)))) _ (2, 0) rfl (by go_simp) (by go_simp) (by have := HN2.out; have := HLN.out; omega) (by have := HB.out.size; simp; omega) ?_; intro P2 n2 c2 w5 hn2 ho5 hg5; have HN3 := Lib.hid hn2; have HO5 := Lib.hid ho5; have HB5 := Lib.hid (Below.grown (HB.out.trans (((below_new wr _).trans ((below_new _ _).mono (by simp))).mono HB.out.size)) hg5 (by have := HB.out.size; simp; omega) (fun q hq => (HO.out.2.lt q hq).1)); clear hn2 ho5 hg5)
            go_roundw
            case rel =>
              refine ⟨i + 1, P2, n2, c2, S, by go_num, rfl, rfl, by omega, Lib.hid ⟨HB5.out, HSZ.out, l ++ [(2, 0)], HO5.out, ?_, ?_⟩⟩
              · have h := HA.out
                rw [HKL.out] at h
                rw [← h, List.append_assoc]; rfl
              · rw [List.length_append, List.length_singleton, HLN.out]
            case measure => simp [intOf]; omega
          · go_wp2_with (at_builtin; refine wpList_appO _ rfl (.tmp 40) (.tmp 42) rfl w.heap.size n c P l rfl (HO.out.below ((below_new wr _).trans ((below_new _ _).mono (by simp)))) _ (5, 0) rfl (by go_simp) (by go_simp) (by have := HN2.out; have := HLN.out; omega) (by have := HB.out.size; simp; omega) ?_; intro P2 n2 c2 w5 hn2 ho5 hg5; have HN3 := Lib.hid hn2; have HO5 := Lib.hid ho5; have HB5 := Lib.hid (Below.grown (HB.out.trans (((below_new wr _).trans ((below_new _ _).mono (by simp))).mono HB.out.size)) hg5 (by have := HB.out.size; simp; omega) (fun q hq => (HO.out.2.lt q hq).1)); clear hn2 ho5 hg5)
            go_roundw
            case rel =>
              refine ⟨i + 1, P2, n2, c2, S, by go_num, rfl, rfl, by omega, Lib.hid ⟨HB5.out, HSZ.out, l ++ [(5, 0)], HO5.out, ?_, ?_⟩⟩
              · have h := HA.out
                rw [HKL.out] at h
                rw [← h, List.append_assoc]; rfl
              · rw [List.length_append, List.length_singleton, HLN.out]
            case measure => simp [intOf]; omega
        · have g2 : ((k : Int) == 2) = false := by rw [beq_eq_false_iff_ne]; omega
          have g5 : ((k : Int) == 5) = false := by rw [beq_eq_false_iff_ne]; omega
          clear hgo hk25
          go_wp2_with (at_builtin; refine wpList_appO _ rfl (.tmp 40) (.tmp 42) rfl w.heap.size n c P l rfl (HO.out.below ((below_new wr _).trans ((below_new _ _).mono (by simp)))) _ (k, 0) rfl (by go_simp) (by go_simp) (by have := HN2.out; have := HLN.out; omega) (by have := HB.out.size; simp; omega) ?_; intro P2 n2 c2 w5 hn2 ho5 hg5; have HN3 := Lib.hid hn2; have HO5 := Lib.hid ho5; have HB5 := Lib.hid (Below.grown (HB.out.trans (((below_new wr _).trans ((below_new _ _).mono (by simp))).mono HB.out.size)) hg5 (by have := HB.out.size; simp; omega) (fun q hq => (HO.out.2.lt q hq).1)); clear hn2 ho5 hg5)
          go_roundw
          case rel =>
            refine ⟨i + 1, P2, n2, c2, S, by go_num, rfl, rfl, by omega, Lib.hid ⟨HB5.out, HSZ.out, l ++ [(k, 0)], HO5.out, ?_, ?_⟩⟩
            · have h := HA.out
              rw [HKL.out] at h
              rw [← h, List.append_assoc]; rfl
            · rw [List.length_append, List.length_singleton, HLN.out]
          case measure => simp [intOf]; omega
    · obtain rfl : i = n0 := by omega
      obtain ⟨hbel, hsz, l, ho, happ, hln⟩ := HS.out
      have HB := Lib.hid hbel; have HO := Lib.hid ho; have HA := Lib.hid happ; have HLN := Lib.hid hln
      clear hbel ho happ hln
      go_wp2
      go_ret
      have h := HA.out
      rw [List.drop_of_length_le (by have := HL.out; omega)] at h
      have e : kindsL (tx bs) ks = l := by
        rw [← h]
        have h0 : kindsL (tx S) [] = [] := by cases tx S <;> rfl
        rw [h0, List.append_nil]
      rw [e]
      exact ⟨P, n, c, rfl, HO.out, HB.out⟩
end Go.Proofs.Ythojojjdamchpaa
