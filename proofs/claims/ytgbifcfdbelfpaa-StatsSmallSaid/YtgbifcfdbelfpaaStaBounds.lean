/-
  The walks of stats.Least and Greatest; what the bounds are.
-/
import Derived.Test.YtgbifcfdbelfpaaStaLeast
namespace Go.Proofs.Ytgbifcfdbelfpaa
open Go.RowKit
set_option linter.unusedVariables false

theorem countP_cut (F : Nat → Bool) (s : Nat) : ∀ N, s ≤ N → (∀ t, t < s → F t = false) → (∀ t, s ≤ t → t < N → F t = true) → (List.range N).countP (fun i => !F i) = s
  | 0, h, _, _ => by obtain rfl : s = 0 := by omega
                     rfl
  | N + 1, h, h1, h2 => by
    rw [List.range_succ, List.countP_append]
    rcases Nat.lt_or_ge N s with h3 | h3
    · obtain rfl : s = N + 1 := by omega
      have := countP_cut F N N (Nat.le_refl _) (fun t ht => h1 t (by omega)) (fun t a b => by omega)
      rw [this]; simp [h1 N (by omega)]
    · have := countP_cut F s N h3 h1 (fun t a b => h2 t a (by omega))
      rw [this]; simp [h2 N h3 (by omega)]
theorem search_is {F : Nat → Bool} {N s : Nat} (mono : ∀ a b, a ≤ b → b < N → F a = true → F b = true) (h : s ≤ N) (h1 : s = 0 ∨ F (s - 1) = false) (h2 : s = N ∨ F s = true) : s = (List.range N).countP (fun i => !F i) := by
  refine (countP_cut F s N h (fun t ht => ?_) (fun t ht htN => ?_)).symm
  · cases hF : F t with
    | false => rfl
    | true =>
      rcases h1 with rfl | h1
      · omega
      · rw [mono t (s - 1) (by omega) (by omega) hF] at h1; cases h1
  · rcases h2 with rfl | h2
    · omega
    · exact mono s t ht htN h2

/-- shares that grow make upper chances grow -/
theorem ls_mono_share (n m : Nat) {a b : Int} (ha : 0 ≤ a) (hab : a ≤ b) (hb : b ≤ 10000) : Sb.ls n (10000 - a) a m ≤ Sb.ls n (10000 - b) b m := by
  obtain ⟨d, hd⟩ : ∃ d : Nat, b = a + d := ⟨(b - a).toNat, by omega⟩
  subst hd
  induction d with
  | zero => rw [show a + ((0 : Nat) : Int) = a by omega]; exact Int.le_refl _
  | succ d ih =>
    have h1 := ih (by omega) (by omega)
    have h2 := Sb.ls_share (p := 10000 - (a + d + 1)) (q := a + d + 1) (by omega) (by omega) n m
    rw [show 10000 - (a + (d : Int) + 1) + 1 = 10000 - (a + d) by omega, show a + (d : Int) + 1 - 1 = a + d by omega] at h2
    rw [show a + ((d + 1 : Nat) : Int) = a + d + 1 by omega]
    omega
theorem upc_mono (n k : Nat) {a b : Int} (ha : 0 ≤ a) (hab : a ≤ b) (hb : b ≤ 10000) : upc n k a ≤ upc n k b := ls_mono_share n _ ha hab hb
theorem upc_nn (n k : Nat) {p : Int} (hp : 0 ≤ p) (hp1 : p ≤ 10000) : 0 ≤ upc n k p := Sb.ls_nn (by omega) hp _ _
theorem upc_le (n k : Nat) {p : Int} (hp : 0 ≤ p) (hp1 : p ≤ 10000) : upc n k p ≤ 10000 ^ n := by
  have h := Sb.ls_le (p := 10000 - p) (q := p) (by omega) hp n (n - k + 1)
  rw [show 10000 - p + p = 10000 by omega] at h
  exact h
theorem exB_mono {n : Nat} {r x y : Int} (h : x ≤ y) (hx : exB n r x = true) : exB n r y = true := by
  unfold exB at *
  rw [decide_eq_true_eq] at *
  omega
theorem upc_top (n k : Nat) : upc n k 10000 = 10000 ^ n := by
  have h1 := upc_le n k (p := 10000) (by omega) (by omega)
  have h2 := Sb.ls_mono (p := 10000 - 10000) (q := 10000) (by omega) (by omega) n (show 0 + 1 ≤ n - k + 1 by omega)
  rw [Sb.ls, Sb.ls, Sb.cn_first] at h2
  unfold upc at *
  omega
theorem exB_top {n : Nat} {r : Int} (hr : r ≤ 2000) : exB n r (10000 ^ n) = true := by
  unfold exB
  rw [decide_eq_true_eq]
  have := Sb.pow_pos (show (0 : Int) < 10000 by omega) n
  have h2 : (10000 : Int) ^ n * r ≤ 10000 ^ n * 2000 := Int.mul_le_mul_of_nonneg_left hr (by omega)
  omega

/-- the lower bound of k successes -/
def lowB (n k : Nat) (r : Int) : Nat := (List.range 10000).countP (fun s : Nat => !exB n r (upc n k (s : Nat)))
theorem lowB_mono (n k : Nat) (r : Int) : ∀ a b : Nat, a ≤ b → b < 10000 → exB n r (upc n k a) = true → exB n r (upc n k b) = true :=
  fun a b h hb hx => exB_mono (upc_mono n k (by omega) (by omega) (by omega)) hx
theorem lowB_is {n k : Nat} {r : Int} {s : Nat} (h : s ≤ 10000) (h1 : s = 0 ∨ exB n r (upc n k ((s - 1 : Nat) : Int)) = false) (h2 : s = 10000 ∨ exB n r (upc n k s) = true) : s = lowB n k r :=
  search_is (F := fun s : Nat => exB n r (upc n k (s : Nat))) (lowB_mono n k r) h h1 h2
/-- there is one -/
theorem search_has (F : Nat → Bool) : ∀ N, ∃ s, s ≤ N ∧ (s = 0 ∨ F (s - 1) = false) ∧ (s = N ∨ F s = true) ∧ ∀ t, t < s → F t = false
  | 0 => ⟨0, Nat.le_refl _, .inl rfl, .inl rfl, fun t h => by omega⟩
  | N + 1 => by
    obtain ⟨s, h, h1, h2, h3⟩ := search_has F N
    by_cases he : s = N
    · subst he
      cases hF : F s with
      | true => exact ⟨s, by omega, h1, .inr hF, h3⟩
      | false => exact ⟨s + 1, Nat.le_refl _, .inr hF, .inl rfl, fun t ht => by
          by_cases e : t = s
          · rw [e]; exact hF
          · exact h3 t (by omega)⟩
    · exact ⟨s, by omega, h1, .inr (h2.resolve_left he), h3⟩
theorem lowB_spec (n k : Nat) {r : Int} (hr : r ≤ 2000) : lowB n k r ≤ 10000 ∧ exB n r (upc n k (lowB n k r)) = true ∧ ∀ t : Int, 0 ≤ t → t < lowB n k r → exB n r (upc n k t) = false := by
  obtain ⟨s, h, h1, h2, h3⟩ := search_has (fun s : Nat => exB n r (upc n k (s : Nat))) 10000
  have e := lowB_is (n := n) (k := k) (r := r) h h1 h2
  rw [← e]
  refine ⟨h, ?_, fun t h0 ht => ?_⟩
  · rcases h2 with rfl | h2
    · rw [show ((10000 : Nat) : Int) = 10000 from rfl, upc_top]; exact exB_top hr
    · exact h2
  · have := h3 t.toNat (by omega)
    rw [show ((t.toNat : Nat) : Int) = t by omega] at this
    exact this

def PostIntE (z : Int) (W : World) (e : Ending) (w' : World) : Prop := e = .returned (.tuple #[.int .i64 z, .int .i64 0]) ∧ Below W.heap.size W w'
def PostIntErr (k : Int) (W : World) (e : Ending) (w' : World) : Prop := e = .returned (.tuple #[.int .i64 0, .int .i64 k]) ∧ Below W.heap.size W w'

theorem search_low {n k : Nat} {r : Int} {w : World} (e : Ending) (w' : World) (h : PostSearch 10000 (fun s => exB n r (upc n k (s : Nat))) w e w') : e = .returned (.int .i64 (lowB n k r)) ∧ Below w.heap.size w w' := by
  obtain ⟨s, he, a1, a2, a3, hb⟩ := h
  have hs : s = lowB n k r := lowB_is a1 a2 a3
  rw [hs] at he
  exact ⟨he, hb⟩

theorem least1_any (n k : Nat) (p : Int) (b : Nat) (w : World) (hp : 0 ≤ p) (hp1 : p ≤ 10000) (hn : n ≤ 500) (hk : k ≤ n) (h1 : w.cell? ⟨b, 0, none⟩ = some (.int .i64 n)) (h2 : w.cell? ⟨b + 1, 0, none⟩ = some (.int .i64 k)) :
    Calls Try.prog 55 (#[.int .i64 p] ++ #[.pointer (some ⟨b, 0, none⟩), .pointer (some ⟨b + 1, 0, none⟩)]) w (PostNum (upc n k p) w) := by
  have C := Lib.hid (upper_any n k p w hp hp1 hn hk)
  go_enter Try.func55, Try.ntmps55
  go_wp2_with (go_at_call 56; (with_reducible refine C.out.mono ?_); rintro e w1 ⟨A1, c1, l1, rfl, h, hb⟩; have B1 := Lib.hid hb; have N1 := Lib.hid h; clear h hb)
  go_ret
  exact ⟨_, _, l1, rfl, N1.out, B1.out⟩
theorem greatest1_any (n k : Nat) (p : Int) (b : Nat) (w : World) (hp : 0 ≤ p) (hp1 : p ≤ 10000) (hn : n ≤ 500) (hk : k ≤ n) (h1 : w.cell? ⟨b, 0, none⟩ = some (.int .i64 n)) (h2 : w.cell? ⟨b + 1, 0, none⟩ = some (.int .i64 k)) :
    Calls Try.prog 57 (#[.int .i64 p] ++ #[.pointer (some ⟨b, 0, none⟩), .pointer (some ⟨b + 1, 0, none⟩)]) w (PostNum (upc n (n - k) p) w) := by
  have c0 := lower_any n k (10000 - p) w (by omega) (by omega) hn hk
  have e : Sb.ls n (10000 - p) (10000 - (10000 - p)) (k + 1) = upc n (n - k) p := by
    unfold upc
    rw [show (10000 : Int) - (10000 - p) = p by omega, show n - (n - k) = k by omega]
  rw [e] at c0
  have C := Lib.hid c0
  clear c0 e
  go_enter Try.func57, Try.ntmps57
  go_wp2_with (go_at_call 58; (with_reducible refine C.out.mono ?_); rintro e w1 ⟨A1, c1, l1, rfl, h, hb⟩; have B1 := Lib.hid hb; have N1 := Lib.hid h; clear h hb)
  go_ret
  exact ⟨_, _, l1, rfl, N1.out, B1.out⟩

set_option maxHeartbeats 1000000 in
theorem least_ok (n k : Nat) (r : Int) (w : World) (hr : 1 ≤ r) (hr1 : r ≤ 2000) (hn : n ≤ 500) (hk : k ≤ n) : Calls Try.prog 23 #[.int .i64 n, .int .i64 k, .int .i64 r] w (PostIntE (lowB n k r) w) := by
  have C := Lib.hid (fun V => check_is (trErr_ok (n := n) (k := k) (by omega) (by omega) (by omega)) V)
  have s0 := fun V => isRisk_any r V
  rw [riskB_yes hr hr1] at s0
  have S0 := Lib.hid s0
  have LP := Lib.hid (fun V (h1 : V.cell? ⟨w.heap.size, 0, none⟩ = some (.int .i64 n)) (h2 : V.cell? ⟨w.heap.size + 1, 0, none⟩ = some (.int .i64 k)) =>
    (leastPossible_any 55 #[.pointer (some ⟨w.heap.size, 0, none⟩), .pointer (some ⟨w.heap.size + 1, 0, none⟩)] n r (fun s => upc n k s) V (enters_of Try.func55 (by kernel_rfl) rfl) hn (by omega) hr1
      (fun s hs => ⟨upc_nn n k (by omega) (by omega), upc_le n k (by omega) (by omega)⟩)
      (fun U s hU hs => least1_any n k s w.heap.size U (by omega) (by omega) hn hk ((bcell hU _ _ (Array.getElem?_eq_some_iff.1 (cells_of h1).choose_spec.1).1).trans h1) ((bcell hU _ _ (Array.getElem?_eq_some_iff.1 (cells_of h2).choose_spec.1).1).trans h2)) ).mono search_low)
  clear s0
  go_enter Try.func23, Try.ntmps23
  go_wp2
  go_quiet ((first | (go_at_call 53; exact Calls.quiet_of_same ((S0.out _).mono fun _ _ ⟨h, h'⟩ => ⟨h, h'.symm⟩)) | (go_at_call 50; exact Calls.quiet_of_same ((C.out _).mono fun _ _ ⟨h, h'⟩ => ⟨h, h'.symm⟩))))
  obtain ⟨W1, hW1⟩ : ∃ W1, W1 = ((w.alloc (.cells #[.int .i64 n] 3)).alloc (.cells #[.int .i64 k] 3)).drewN nq := ⟨_, rfl⟩
  have h1 : W1.cell? ⟨w.heap.size, 0, none⟩ = some (.int .i64 n) := by rw [hW1]; go_simp
  have h2 : W1.cell? ⟨w.heap.size + 1, 0, none⟩ = some (.int .i64 k) := by rw [hW1]; go_simp
  have HB := Lib.hid (show Below w.heap.size w W1 by rw [hW1]; exact below_drewN (((Below.refl _ w).alloc (Nat.le_refl _) _).alloc (by simp) _) nq)
  have L1 := Lib.hid (LP.out W1 h1 h2)
  rw [← hW1]
  clear hW1 h2 LP C S0
  go_wp2_with (go_at_call 54; (with_reducible refine L1.out.mono ?_); rintro e V ⟨rfl, hb⟩; have HB2 := Lib.hid (HB.out.trans (hb.mono HB.out.size)); clear hb)
  go_ret2
  exact ⟨rfl, HB2.out⟩

set_option maxHeartbeats 1000000 in
theorem greatest_ok (n k : Nat) (r : Int) (w : World) (hr : 1 ≤ r) (hr1 : r ≤ 2000) (hn : n ≤ 500) (hk : k ≤ n) : Calls Try.prog 24 #[.int .i64 n, .int .i64 k, .int .i64 r] w (PostIntE (10000 - lowB n (n - k) r) w) := by
  have C := Lib.hid (fun V => check_is (trErr_ok (n := n) (k := k) (by omega) (by omega) (by omega)) V)
  have s0 := fun V => isRisk_any r V
  rw [riskB_yes hr hr1] at s0
  have S0 := Lib.hid s0
  have LP := Lib.hid (fun V (h1 : V.cell? ⟨w.heap.size, 0, none⟩ = some (.int .i64 n)) (h2 : V.cell? ⟨w.heap.size + 1, 0, none⟩ = some (.int .i64 k)) =>
    (leastPossible_any 57 #[.pointer (some ⟨w.heap.size, 0, none⟩), .pointer (some ⟨w.heap.size + 1, 0, none⟩)] n r (fun s => upc n (n - k) s) V (enters_of Try.func57 (by kernel_rfl) rfl) hn (by omega) hr1
      (fun s hs => ⟨upc_nn n _ (by omega) (by omega), upc_le n _ (by omega) (by omega)⟩)
      (fun U s hU hs => greatest1_any n k s w.heap.size U (by omega) (by omega) hn hk ((bcell hU _ _ (Array.getElem?_eq_some_iff.1 (cells_of h1).choose_spec.1).1).trans h1) ((bcell hU _ _ (Array.getElem?_eq_some_iff.1 (cells_of h2).choose_spec.1).1).trans h2)) ).mono search_low)
  have i1 : ((lowB n (n - k) r : Nat) : Int) ≤ 10000 := Int.ofNat_le.2 (lowB_spec n (n - k) hr1).1
  have i0 : (0 : Int) ≤ ((lowB n (n - k) r : Nat) : Int) := Int.natCast_nonneg _
  generalize lowB n (n - k) r = z at *
  clear s0
  go_enter Try.func24, Try.ntmps24
  go_wp2
  go_quiet ((first | (go_at_call 53; exact Calls.quiet_of_same ((S0.out _).mono fun _ _ ⟨h, h'⟩ => ⟨h, h'.symm⟩)) | (go_at_call 50; exact Calls.quiet_of_same ((C.out _).mono fun _ _ ⟨h, h'⟩ => ⟨h, h'.symm⟩))))
  obtain ⟨W1, hW1⟩ : ∃ W1, W1 = ((w.alloc (.cells #[.int .i64 n] 3)).alloc (.cells #[.int .i64 k] 3)).drewN nq := ⟨_, rfl⟩
  have h1 : W1.cell? ⟨w.heap.size, 0, none⟩ = some (.int .i64 n) := by rw [hW1]; go_simp
  have h2 : W1.cell? ⟨w.heap.size + 1, 0, none⟩ = some (.int .i64 k) := by rw [hW1]; go_simp
  have HB := Lib.hid (show Below w.heap.size w W1 by rw [hW1]; exact below_drewN (((Below.refl _ w).alloc (Nat.le_refl _) _).alloc (by simp) _) nq)
  have L1 := Lib.hid (LP.out W1 h1 h2)
  rw [← hW1]
  clear hW1 h2 LP C S0
  go_wp2_with (go_at_call 54; (with_reducible refine L1.out.mono ?_); rintro e V ⟨rfl, hb⟩; have HB2 := Lib.hid (HB.out.trans (hb.mono HB.out.size)); clear hb)
  go_ret2
  exact ⟨rfl, HB2.out⟩

set_option maxHeartbeats 1000000 in
theorem least_err (n k r E : Int) (w : World) (h : trErr n k (riskB r) = E) (h0 : (E != 0) = true) : Calls Try.prog 23 #[.int .i64 n, .int .i64 k, .int .i64 r] w (PostIntErr E w) := by
  have C := Lib.hid (fun V => check_is h V)
  have S0 := Lib.hid (fun V => isRisk_any r V)
  clear h
  go_enter Try.func23, Try.ntmps23
  go_wp2
  go_quiet ((first | (go_at_call 53; exact Calls.quiet_of_same ((S0.out _).mono fun _ _ ⟨h, h'⟩ => ⟨h, h'.symm⟩)) | (go_at_call 50; exact Calls.quiet_of_same ((C.out _).mono fun _ _ ⟨h, h'⟩ => ⟨h, h'.symm⟩))))
  go_wp2
  go_ret2
  exact ⟨rfl, below_drewN (((Below.refl _ w).alloc (Nat.le_refl _) _).alloc (by simp) _) nq⟩

set_option maxHeartbeats 1000000 in
theorem greatest_err (n k r E : Int) (w : World) (h : trErr n k (riskB r) = E) (h0 : (E != 0) = true) : Calls Try.prog 24 #[.int .i64 n, .int .i64 k, .int .i64 r] w (PostIntErr E w) := by
  have C := Lib.hid (fun V => check_is h V)
  have S0 := Lib.hid (fun V => isRisk_any r V)
  clear h
  go_enter Try.func24, Try.ntmps24
  go_wp2
  go_quiet ((first | (go_at_call 53; exact Calls.quiet_of_same ((S0.out _).mono fun _ _ ⟨h, h'⟩ => ⟨h, h'.symm⟩)) | (go_at_call 50; exact Calls.quiet_of_same ((C.out _).mono fun _ _ ⟨h, h'⟩ => ⟨h, h'.symm⟩))))
  go_wp2
  go_ret2
  exact ⟨rfl, below_drewN (((Below.refl _ w).alloc (Nat.le_refl _) _).alloc (by simp) _) nq⟩
end Go.Proofs.Ytgbifcfdbelfpaa
