/-
  The walks of civil's functions over holidays: the day that is so many working days ahead.
-/
import Derived.Test.YtmlniggmknjneaaDoorCivWalk3
import Derived.IntWalk
namespace Go.Proofs.YtmlniggmknjneaaDoor
open Go.RowKit
set_option linter.unusedVariables false

def PostS (n : Nat) (p : Nat → Bool) (W : World) (e : Ending) (w' : World) : Prop :=
  ∃ k : Nat, e = .returned (.int .i64 k) ∧ k ≤ n ∧ (∀ t, t < k → p t = false) ∧ (∀ t, k ≤ t → t < n → p t = true) ∧ Below W.heap.size W w'

set_option maxHeartbeats 1000000 in
/-- sort.Search with the closure of Ahead: the first place that is not false -/
theorem search_any (a b c : Addr) (n : Nat) (p : Nat → Bool) (w : World) (hn : n ≤ 1000000)
    (hf : ∀ W (i : Int), 0 ≤ i → i < n → Below w.heap.size w W → Calls Tryd.prog 66 #[.int .i64 i, .pointer (some a), .pointer (some b), .pointer (some c)] W fun e w' => e = .returned (.bool (p i.toNat)) ∧ Below w.heap.size w w')
    (hm : ∀ s t, s ≤ t → t < n → p s = true → p t = true) :
    Calls Tryd.prog 65 #[.int .i64 n, .func (.func 66) #[] #[.pointer (some a), .pointer (some b), .pointer (some c)]] w (PostS n p w) := by
  have HF := Lib.hid hf; clear hf
  have HM := Lib.hid hm; clear hm
  go_enter Tryd.func65, Tryd.ntmps65
  go_wp2
  go_loopg [5, 6] n (fun kx s5 s6 wr => ∃ lo hi : Nat, s5 = .int .i64 lo ∧ s6 = .int .i64 hi ∧ lo ≤ hi ∧ hi ≤ n ∧ hi - lo ≤ kx ∧ Below w.heap.size w wr ∧
    Hid ((∀ t, t < lo → p t = false) ∧ (∀ t, hi ≤ t → t < n → p t = true)))
  case atStart => exact ⟨0, n, rfl, rfl, Nat.zero_le _, Nat.le_refl _, by omega, Below.refl _ _, (⟨fun t ht => absurd ht (Nat.not_lt_zero _), fun t h1 h2 => by omega⟩ : (∀ t, t < 0 → p t = false) ∧ (∀ t, n ≤ t → t < n → p t = true))⟩
  case round =>
    obtain ⟨lo, hi, rfl, rfl, hlh, hin, hg, hb, I⟩ := hrel
    by_cases hlt : lo < hi
    · have hc := HF.out _ (((lo : Int) + hi) / 2) (by omega) (by omega) hb
      have HC := Lib.hid hc; clear hc
      have HB := Lib.hid hb; clear hb
      cases hp : p (((lo : Int) + hi) / 2).toNat
      all_goals
        rw [hp] at HC
        have HP := Lib.hid hp; clear hp
        go_wp2_with (go_at_call 66; refine HC.out.mono ?_; rintro e w2 ⟨rfl, hb2⟩; have HB2 := Lib.hid hb2; clear hb2)
      · go_roundg (hi - (((lo + hi) / 2) + 1))
        case measure => omega
        case rel =>
          refine ⟨(lo + hi) / 2 + 1, hi, by rw [show ((lo : Int) + (hi : Int)) / 2 + 1 = (((lo + hi) / 2 + 1 : Nat) : Int) by omega], rfl, by omega, hin, Nat.le_refl _, HB2.out, ?_⟩
          refine ⟨fun t ht => ?_, I.out.2⟩
          cases h : p t with
          | false => rfl
          | true =>
            have := HM.out t (((lo : Int) + hi) / 2).toNat (by omega) (by omega) h
            rw [HP.out] at this; cases this
      · go_roundg ((lo + hi) / 2 - lo)
        case measure => omega
        case rel =>
          refine ⟨lo, (lo + hi) / 2, rfl, by rw [show ((lo : Int) + (hi : Int)) / 2 = (((lo + hi) / 2 : Nat) : Int) by omega], by omega, by omega, Nat.le_refl _, HB2.out, ?_⟩
          exact ⟨I.out.1, fun t ht htn => HM.out (((lo : Int) + hi) / 2).toNat t (by omega) htn HP.out⟩
    · obtain rfl : hi = lo := by omega
      have HB := Lib.hid hb; clear hb
      go_wp2
      go_ret
      exact ⟨hi, rfl, hin, I.out.1, I.out.2, HB.out⟩

theorem search_int (a b c : Addr) (N : Int) (p : Nat → Bool) (w : World) (h0 : 0 ≤ N) (hn : N ≤ 1000000)
    (hf : ∀ W (i : Int), 0 ≤ i → i < N → Below w.heap.size w W → Calls Tryd.prog 66 #[.int .i64 i, .pointer (some a), .pointer (some b), .pointer (some c)] W fun e w' => e = .returned (.bool (p i.toNat)) ∧ Below w.heap.size w w')
    (hm : ∀ s t : Nat, s ≤ t → (t : Int) < N → p s = true → p t = true) :
    Calls Tryd.prog 65 #[.int .i64 N, .func (.func 66) #[] #[.pointer (some a), .pointer (some b), .pointer (some c)]] w (PostS N.toNat p w) := by
  obtain ⟨n, rfl⟩ := Int.eq_ofNat_of_zero_le h0
  exact search_any a b c n p w (by omega) hf (fun s t h1 h2 => hm s t h1 (by omega))

/-- what Ahead's closure has captured: the place of the counting closure, of the day, and of the count -/
structure AheadC (w : World) (f d c q p : Addr) (A : Option Addr) (cap : Nat) (zs : List Int) (day count : Int) : Prop where
  fn : w.cell? f = some (.func (.func 77) #[] #[.pointer (some q)])
  dy : w.cell? d = some (.int .i64 day)
  ct : w.cell? c = some (.int .i64 count)
  fr : Front w q p A cap zs
theorem cell_below {w w1 : World} {a : Addr} {v : Value} (h : w.cell? a = some v) (hb : Below w.heap.size w w1) : w1.cell? a = some v := cell_later hb h
theorem Front.below {w w1 : World} {q p : Addr} {A : Option Addr} {cap : Nat} {zs : List Int} (h : Front w q p A cap zs) (hb : Below w.heap.size w w1) : Front w1 q p A cap zs :=
  ⟨cell_below h.fn hb, cell_below h.sl hb, h.rd.below hb⟩
theorem AheadC.below {w w1 : World} {f d c q p : Addr} {A : Option Addr} {cap : Nat} {zs : List Int} {day count : Int} (h : AheadC w f d c q p A cap zs day count) (hb : Below w.heap.size w w1) : AheadC w1 f d c q p A cap zs day count :=
  ⟨cell_below h.fn hb, cell_below h.dy hb, cell_below h.ct hb, h.fr.below hb⟩

theorem Front.drewN {w : World} {q p : Addr} {A : Option Addr} {cap : Nat} {zs : List Int} (h : Front w q p A cap zs) (n : Nat) : Front (w.drewN n) q p A cap zs := ⟨h.fn, h.sl, h.rd⟩
def PostD (b : Bool) (W : World) (e : Ending) (w' : World) : Prop := e = .returned (.bool b) ∧ Below W.heap.size W w'
set_option maxHeartbeats 400000 in
theorem aheadC_any (i : Int) (f d c q p : Addr) (A : Option Addr) (cap : Nat) (zs : List Int) (day count : Int) (w : World) (h : AheadC w f d c q p A cap zs day count) (hl : Cv.rightB zs = true)
    (h0 : 0 ≤ day) (h1 : day + i ≤ 730484) (i0 : 0 ≤ i) :
    Calls Tryd.prog 66 #[.int .i64 i, .pointer (some f), .pointer (some d), .pointer (some c)] w (PostD (decide (count < Cv.wif zs (day + i + 1))) w) := by
  have fn := h.fn
  have dy := h.dy
  have ct := h.ct
  have fr := h.fr
  have Fr := Lib.hid fr; clear fr
  clear h
  have Hl := Lib.hid hl; clear hl
  have bd := Cv.wif_bd zs (day + i + 1) (by omega)
  have hq : ∀ W : World, Front W q p A cap zs → Calls Tryd.prog 77 #[.int .i64 (day + i + 1), .pointer (some q)] W fun e w' => e = .returned (.int .i64 (Cv.wif zs (day + i + 1))) ∧ w' = W :=
    fun W hF => (wif_any _ _ _ _ _ _ _ hF Hl.out (by omega) (by omega)).mono fun e w' h => ⟨h.1, h.2.symm⟩
  have Hq := Lib.hid hq; clear hq
  have e1 : IntKind.i64.wrap (day + i) = day + i := IntWalk.i64_in _ (by omega)
  have e2 : IntKind.i64.wrap (day + i + 1) = day + i + 1 := IntWalk.i64_in _ (by omega)
  go_enter Tryd.func66, Tryd.ntmps66
  go_wp2_with fail
  go_quiet ((go_at_call 77; exact Calls.quiet_of_same (Hq.out _ (Fr.out.drewN _))))
  clear e1 e2
  go_wp2
  go_ret
  exact ⟨rfl, below_drewN (Below.refl _ _) nq⟩

def PostA (zs : List Int) (day n : Int) (W : World) (e : Ending) (w' : World) : Prop :=
  ∃ r er : Int, e = .returned (.tuple #[.int .i64 r, .int .i64 er]) ∧ Cv.AheadIs zs day n r er ∧ Below W.heap.size W w'
def PostR (r er : Int) (W : World) (e : Ending) (w' : World) : Prop :=
  e = .returned (.tuple #[.int .i64 r, .int .i64 er]) ∧ Below W.heap.size W w'

set_option maxHeartbeats 1000000 in
theorem ahead_no (day n : Int) (A : Option Addr) (cap : Nat) (zs : List Int) (w : World) (hr : Rd w A zs) (hl : zs.length ≤ 9223372036854775807) (h : ¬ (Cv.rightB zs = true ∧ 0 ≤ day ∧ 0 ≤ n)) :
    Calls Tryd.prog 36 #[.int .i64 day, .int .i64 n, .slice A zs.length cap] w (PostR 0 2 w) := by
  have ha : ∀ o, Rd (w.alloc o) A zs := fun o => hr.below ((Below.refl _ _).alloc (Nat.le_refl _) _)
  have Ha := Lib.hid ha; clear ha
  by_cases h1 : Cv.rightB zs = true
  · have h2 : ¬ (0 ≤ day ∧ 0 ≤ n) := fun x => h ⟨h1, x.1, x.2⟩
    clear h hr
    by_cases h3 : day < 0
    · clear h2
      go_enter Tryd.func36, Tryd.ntmps36
      go_wp2_with (go_at_call 40; refine (right_any _ _ _ _ (Ha.out _) hl).mono ?_; rintro e w' ⟨rfl, rfl⟩)
      go_ret2
      exact ⟨rfl, (Below.refl _ _).alloc (Nat.le_refl _) _⟩
    · have h4 : n < 0 := by omega
      clear h2
      go_enter Tryd.func36, Tryd.ntmps36
      go_wp2_with (go_at_call 40; refine (right_any _ _ _ _ (Ha.out _) hl).mono ?_; rintro e w' ⟨rfl, rfl⟩)
      go_ret2
      exact ⟨rfl, (Below.refl _ _).alloc (Nat.le_refl _) _⟩
  · have h1 : Cv.rightB zs = false := by simpa using h1
    clear h hr
    go_enter Tryd.func36, Tryd.ntmps36
    go_wp2_with (go_at_call 40; refine (right_any _ _ _ _ (Ha.out _) hl).mono ?_; rintro e w' ⟨rfl, rfl⟩)
    go_ret2
    exact ⟨rfl, (Below.refl _ _).alloc (Nat.le_refl _) _⟩

set_option maxHeartbeats 1000000 in
theorem ahead_long (day n : Int) (A : Option Addr) (cap : Nat) (zs : List Int) (w : World) (hr : Rd w A zs) (h1 : Cv.rightB zs = true) (h2 : 0 ≤ day) (h3 : 0 ≤ n) (h : 730484 < day ∨ 730484 < n) :
    Calls Tryd.prog 36 #[.int .i64 day, .int .i64 n, .slice A zs.length cap] w (PostR 0 3 w) := by
  have ha : ∀ o, Rd (w.alloc o) A zs := fun o => hr.below ((Below.refl _ _).alloc (Nat.le_refl _) _)
  have Ha := Lib.hid ha; clear ha
  have hl := (right_parts h1).1
  clear hr
  by_cases h3 : 730484 < day
  · clear h
    go_enter Tryd.func36, Tryd.ntmps36
    go_wp2_with (go_at_call 40; refine (right_any _ _ _ _ (Ha.out _) (by omega)).mono ?_; rintro e w' ⟨rfl, rfl⟩)
    go_ret2
    exact ⟨rfl, (Below.refl _ _).alloc (Nat.le_refl _) _⟩
  · have h4 : 730484 < n := by omega
    clear h
    go_enter Tryd.func36, Tryd.ntmps36
    go_wp2_with (go_at_call 40; refine (right_any _ _ _ _ (Ha.out _) (by omega)).mono ?_; rintro e w' ⟨rfl, rfl⟩)
    go_ret2
    exact ⟨rfl, (Below.refl _ _).alloc (Nat.le_refl _) _⟩

set_option maxHeartbeats 1000000 in
theorem ahead_yes (day n : Int) (A : Option Addr) (cap : Nat) (zs : List Int) (w : World) (hr : Rd w A zs) (h1 : Cv.rightB zs = true) (h2 : 0 ≤ day) (h3 : 0 ≤ n) (h4 : day ≤ 730484) (h5 : n ≤ 730484) :
    Calls Tryd.prog 36 #[.int .i64 day, .int .i64 n, .slice A zs.length cap] w (PostA zs day n w) := by
  have ha : ∀ o, Rd (w.alloc o) A zs := fun o => hr.below ((Below.refl _ _).alloc (Nat.le_refl _) _)
  have Ha := Lib.hid ha; clear ha
  have hl := (right_parts h1).1
  have H1 := Lib.hid h1
  have bd := Cv.wif_bd zs day h2
  clear hr
  go_enter Tryd.func36, Tryd.ntmps36
  go_wp2_with (first
    | (go_at_call 40; refine (right_any _ _ _ _ (Ha.out _) (by omega)).mono ?_; rintro e w' ⟨rfl, rfl⟩)
    | (go_at_call 63; refine (front_any _ _ _ _ (Ha.out _)).mono ?_; rintro e w1 ⟨q, p, rfl, hF, hb⟩; have hd : w1.cell? ⟨w.heap.size, 0, none⟩ = some (.int .i64 day) := cell_below (by go_simp) hb; have hz : w.heap.size < w1.heap.size := (by have := hb.size; simp at this; omega); have hF2 : ∀ o, Front (w1.alloc o) q p A cap zs := fun o => hF.below ((Below.refl _ _).alloc (Nat.le_refl _) _); have HF2 := Lib.hid hF2; clear hF2; have HF := Lib.hid hF; clear hF; have HB := Lib.hid hb; clear hb)
    | (go_at_call 77; refine (wif_any _ _ _ _ _ _ _ (HF2.out _) H1.out (by omega) (by omega)).mono ?_; rintro e w' ⟨rfl, rfl⟩))
  have hW : AheadC ((w1.alloc (Obj.cells #[Value.func (Fn.func 77) #[] #[Value.pointer (some q)]] 48)).alloc (Obj.cells #[Value.int IntKind.i64 (Cv.wif zs day + n)] 3))
      ⟨w1.heap.size, 0, none⟩ ⟨w.heap.size, 0, none⟩ ⟨w1.heap.size + 1, 0, none⟩ q p A cap zs day (Cv.wif zs day + n) :=
    ⟨by go_simp, by go_simp, by go_simp, (HF2.out _).below ((Below.refl _ _).alloc (Nat.le_refl _) _)⟩
  have hB2 : Below w.heap.size w ((w1.alloc (Obj.cells #[Value.func (Fn.func 77) #[] #[Value.pointer (some q)]] 48)).alloc (Obj.cells #[Value.int IntKind.i64 (Cv.wif zs day + n)] 3)) :=
    ((((Below.refl _ _).alloc (Nat.le_refl _) _).trans (HB.out.mono (by simp))).alloc (by omega) _).alloc (by simp; omega) _
  generalize (w1.alloc (Obj.cells #[Value.func (Fn.func 77) #[] #[Value.pointer (some q)]] 48)).alloc (Obj.cells #[Value.int IntKind.i64 (Cv.wif zs day + n)] 3) = w2 at *
  generalize w1.heap.size = h1n at *
  refine (search_int _ _ _ (730484 - day + 1) (fun i => decide (Cv.wif zs day + n < Cv.wif zs (day + i + 1))) w2 (by omega) (by omega) ?_ ?_).mono ?_
  · intro W i i0 i1 hb
    refine (aheadC_any i _ _ _ q p A cap zs day (Cv.wif zs day + n) W (hW.below hb) H1.out h2 (by omega) i0).mono ?_
    rintro e w' ⟨rfl, hb3⟩
    exact ⟨by rw [show ((i.toNat : Nat) : Int) = i from by omega], hb.trans (hb3.mono hb.size)⟩
  · intro s t h1 h2 h3
    have := (Cv.wif_mono (-1) zs (right_parts H1.out).2 (day + s + 1) (day + t + 1) (by omega)).1
    simp only [decide_eq_true_eq] at h3 ⊢
    omega
  rintro e w' ⟨k, rfl, hk1, hk2, hk3, hb2⟩
  have hd2 := cell_below (hW.below hb2).dy (Below.refl _ _)
  have hB3 : Below w.heap.size w w' := hB2.trans (hb2.mono hB2.size)
  have HB3 := Lib.hid hB3; clear hB3
  have HK2 := Lib.hid hk2; clear hk2
  have HK3 := Lib.hid hk3; clear hk3
  clear hW hB2 hb2 hd hz HF HF2 HB
  by_cases hk : (k : Int) = 730484 - day + 1
  · have HK := Lib.hid hk
    have hkb : ((k : Int) == 730484 - day + 1) = true := beq_iff_eq.2 hk
    clear hk
    go_wp2
    go_ret2
    exact ⟨_, _, rfl, Cv.ahead_none zs day n h4 k HK.out (fun t ht => by simpa using HK2.out t ht), HB3.out⟩
  · have hkb : ((k : Int) == 730484 - day + 1) = false := beq_eq_false_iff_ne.2 hk
    have hkl : (k : Int) < 730484 - day + 1 := by omega
    clear hk
    go_wp2
    go_ret2
    refine ⟨_, _, rfl, Cv.ahead_of zs (right_parts H1.out).2 day n h4 h3 k hkl (fun t ht => by simpa using HK2.out t ht) ?_, HB3.out⟩
    simpa using HK3.out k (Nat.le_refl _) (by omega)

end Go.Proofs.YtmlniggmknjneaaDoor
