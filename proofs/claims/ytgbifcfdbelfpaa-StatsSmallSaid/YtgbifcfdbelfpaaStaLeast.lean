/-
  The walks of stats.leastPossible, Least and Greatest.
-/
import Derived.Test.YtgbifcfdbelfpaaStaSearch
import Derived.Deep.RegionHeld3
namespace Go.Proofs.Ytgbifcfdbelfpaa
open Go.RowKit
set_option linter.unusedVariables false

theorem cmp_is (A B : Option Addr) (ca cb : Nat) (l m : List Int) (x y c : Int) (w : World) (hr : Num w A l x) (hs : Num w B m y) (hc : Lib.compareInt x y = c) :
    Calls Try.prog 36 #[.slice A l.length ca, .slice B m.length cb] w fun e w' => e = .returned (.tuple #[.int .i64 c, .int .i64 0]) ∧ Below w.heap.size w w' := hc ▸ cmp_yes A B ca cb l m x y w hr hs
theorem cmp_gt (x y : Int) : ∃ c, Lib.compareInt x y = c ∧ decide (0 < c) = decide (y < x) := by
  refine ⟨_, rfl, ?_⟩
  unfold Lib.compareInt
  split
  · rw [decide_eq_false (by omega), decide_eq_false (by omega)]
  · split
    · rw [decide_eq_true (by omega), decide_eq_true (by omega)]
    · rw [decide_eq_false (by omega), decide_eq_false (by omega)]

set_option maxRecDepth 100000 in
set_option maxHeartbeats 2000000 in
/-- whether a share is possible: the closure that the search asks -/
theorem possible_any (g : Nat) (lb : Array Value) (x R s : Int) (b1 b2 : Nat) (A : Option Addr) (c : Nat) (l : List Int) (W : World) (eg : ∀ args w, (callFunc g args).run Try.prog w = .ok (.enter g args) w)
    (h1 : W.cell? ⟨b1, 0, none⟩ = some (.func (.func g) #[] lb)) (h2 : W.cell? ⟨b2, 0, none⟩ = some (.slice A l.length c)) (hN : Num W A l R) (hx : x * 10000 < Na.Bp 1024)
    (hc : ∀ V, Below W.heap.size W V → Calls Try.prog g (#[.int .i64 s] ++ lb) V (PostNum x V)) :
    Calls Try.prog 81 #[.int .i64 s, .pointer (some ⟨b1, 0, none⟩), .pointer (some ⟨b2, 0, none⟩)] W fun e W' => e = .returned (.bool (decide (R < x * 10000))) ∧ Below W.heap.size W W' := by
  have z1 : b1 < W.heap.size := (Array.getElem?_eq_some_iff.1 (cells_of h1).choose_spec.1).1
  have z2 : b2 < W.heap.size := (Array.getElem?_eq_some_iff.1 (cells_of h2).choose_spec.1).1
  have HC := Lib.hid hc; have HN := Lib.hid hN
  have CP := Lib.hid (fun A1 c1 l1 V (h : Num V A1 l1 x) => product_any A1 c1 l1 x 10000 V h (by omega) (by omega) hx)
  obtain ⟨d, hd, hd2⟩ := cmp_gt (x * 10000) R
  have CC := Lib.hid (fun A1 c1 l1 V (h : Num V A1 l1 (x * 10000)) (hb : Below W.heap.size W V) => cmp_is A1 A c1 c l1 l _ _ d V h (hN.below hb) hd)
  have HD := Lib.hid (show Below W.heap.size W W.drew from below_drewN (Below.refl _ _) 1)
  have HD2 := Lib.hid hd2
  clear hc hN hd hd2
  go_enter Try.func81, Try.ntmps81
  go_wp2
  go_region_held3 (fun V => V.cell? ⟨b1, 0, none⟩ = some (.func (.func g) #[] lb) ∧ V.cell? ⟨b2, 0, none⟩ = some (.slice A l.length c))
    (first | exact ⟨w1, w2⟩ | exact ⟨v1, v2⟩ | exact ⟨u1, u2⟩ | exact ⟨h1, h2⟩)
    (first
      | (go_at_fn g; (with_reducible refine (HC.out _ HD.out).mono ?_); rintro e V1 ⟨A1, c1, l1, rfl, h, hb⟩; have u1 := (bcell hb b1 0 (by show b1 < W.heap.size; omega)).trans h1; have u2 := (bcell hb b2 0 (by show b2 < W.heap.size; omega)).trans h2; have B1 := Lib.hid (HD.out.trans hb); have N1 := Lib.hid h; clear hb h)
      | (go_at_call 78; (with_reducible refine (CP.out _ _ _ _ N1.out).mono ?_); rintro e V2 ⟨A2, c2, l2, rfl, h, hb⟩; have v1 := (bcell hb b1 0 (by have := B1.out.size; omega)).trans u1; have v2 := (bcell hb b2 0 (by have := B1.out.size; omega)).trans u2; have B2 := Lib.hid (B1.out.trans (hb.mono B1.out.size)); have N2 := Lib.hid h; clear hb h u1 u2)
      | (go_at_call 36; (with_reducible refine (CC.out _ _ _ _ N2.out B2.out).mono ?_); rintro e V3 ⟨rfl, hb⟩; have w1 := (bcell hb b1 0 (by have := B2.out.size; omega)).trans v1; have w2 := (bcell hb b2 0 (by have := B2.out.size; omega)).trans v2; have B3 := Lib.hid (B2.out.trans (hb.mono B2.out.size)); clear hb v1 v2))
  go_wp2
  go_ret
  exact ⟨ret_bool HD2.out, B3.out⟩

/-- whether a chance of n trials exceeds a risk -/
def exB (n : Nat) (r x : Int) : Bool := decide (10000 ^ n * r < x * 10000)

set_option maxHeartbeats 2000000 in
theorem leastPossible_any (g : Nat) (lb : Array Value) (n : Nat) (r : Int) (f : Nat → Int) (w : World) (eg : ∀ args w, (callFunc g args).run Try.prog w = .ok (.enter g args) w) (hn : n ≤ 500) (hr : 0 ≤ r) (hr1 : r ≤ 2000)
    (hx : ∀ s : Nat, s < 10000 → 0 ≤ f s ∧ f s ≤ 10000 ^ n)
    (hc : ∀ V (s : Nat), Below w.heap.size w V → s < 10000 → Calls Try.prog g (#[.int .i64 s] ++ lb) V (PostNum (f s) V)) :
    Calls Try.prog 54 #[.int .i64 n, .int .i64 r, .func (.func g) #[] lb] w (PostSearch 10000 (fun s => exB n r (f s)) w) := by
  have PW := Lib.hid (fun V => power_any 10000 n V (by omega) (by omega) (by omega))
  have CP := Lib.hid (fun A1 c1 l1 V (h : Num V A1 l1 (10000 ^ n)) => product_any A1 c1 l1 (10000 ^ n) r V h (by omega) (by omega) (fit_mul (n := n) (Int.le_refl _) (Sb.pow_nn (by omega) n) (by omega) (by omega) (by omega)))
  have HC := Lib.hid hc; have HX := Lib.hid hx
  clear hc hx
  have HS := Lib.hid (fun (b2 : Nat) (A : Option Addr) (c : Nat) (l : List Int) (V : World) (hb : Below w.heap.size w V) (h1 : V.cell? ⟨w.heap.size, 0, none⟩ = some (.func (.func g) #[] lb)) (h2 : V.cell? ⟨b2, 0, none⟩ = some (.slice A l.length c)) (hN : Num V A l (10000 ^ n * r)) =>
    show Calls Try.prog 80 #[.int .i64 10000, .func (.func 81) #[] #[.pointer (some ⟨w.heap.size, 0, none⟩), .pointer (some ⟨b2, 0, none⟩)]] V (PostSearch 10000 (fun s => exB n r (f s)) V) from
    search_any 81 #[.pointer (some ⟨w.heap.size, 0, none⟩), .pointer (some ⟨b2, 0, none⟩)] 10000 (fun s => exB n r (f s)) V (enters_of Try.func81 (by kernel_rfl) rfl) (by omega)
      (fun U s hU hs => by
        have z1 : w.heap.size < V.heap.size := (Array.getElem?_eq_some_iff.1 (cells_of h1).choose_spec.1).1
        have z2 : b2 < V.heap.size := (Array.getElem?_eq_some_iff.1 (cells_of h2).choose_spec.1).1
        exact possible_any g lb (f s) (10000 ^ n * r) s w.heap.size b2 A c l U eg ((bcell hU _ 0 z1).trans h1) ((bcell hU _ 0 z2).trans h2) (hN.below hU)
          (fit_mul (n := n) (HX.out s hs).2 (HX.out s hs).1 (by omega) (by omega) (by omega)) (fun T hT => HC.out T s (hb.trans ((hU.trans (hT.mono hU.size)).mono hb.size)) hs)))
  go_enter Try.func54, Try.ntmps54
  go_wp2_with (first
    | (go_at_call 79; (with_reducible refine (PW.out _).mono ?_); rintro e V1 ⟨A1, c1, l1, rfl, h, hb⟩; have k1 := (bcell hb w.heap.size 0 (by simp)).trans (show (w.alloc (.cells #[.func (.func g) #[] lb] 40)).cell? ⟨w.heap.size, 0, none⟩ = some (.func (.func g) #[] lb) by go_simp); have s1 := hb.size; rw [World.size_alloc] at s1; have B1 := Lib.hid (((Below.refl _ w).alloc (Nat.le_refl _) _).trans (hb.mono (by simp))); have N1 := Lib.hid h; clear hb h)
    | (go_at_call 78; (with_reducible refine (CP.out _ _ _ _ N1.out).mono ?_); rintro e V2 ⟨A2, c2, l2, rfl, h, hb⟩; have k2 := (bcell hb w.heap.size 0 (by omega)).trans k1; have s2 := hb.size; have B2 := Lib.hid (B1.out.trans (hb.mono B1.out.size)); have N2 := Lib.hid h; clear hb h k1))
  have k3 : (V2.alloc (.cells #[.slice A2 l2.length c2] 29)).cell? ⟨w.heap.size, 0, none⟩ = some (.func (.func g) #[] lb) := (bcell ((Below.refl V2.heap.size V2).alloc (Nat.le_refl _) _) _ _ (by omega)).trans k2
  have k4 : (V2.alloc (.cells #[.slice A2 l2.length c2] 29)).cell? ⟨V2.heap.size, 0, none⟩ = some (.slice A2 l2.length c2) := by go_simp
  have B3 := Lib.hid (B2.out.alloc (show w.heap.size ≤ V2.heap.size by omega) (.cells #[.slice A2 l2.length c2] 29))
  have N3 := Lib.hid (N2.out.below ((Below.refl V2.heap.size V2).alloc (Nat.le_refl _) (.cells #[.slice A2 l2.length c2] 29)))
  have HS2 := Lib.hid (HS.out _ _ _ _ _ B3.out k3 k4 N3.out)
  clear k2 k3 k4
  go_wp2_with (go_at_call 80; (with_reducible refine HS2.out.mono ?_); rintro e V3 ⟨s, rfl, h1, h2, h3, hb⟩; have H1 := Lib.hid h1; have H2 := Lib.hid h2; have H3 := Lib.hid h3; have B4 := Lib.hid (B3.out.trans (hb.mono B3.out.size)); clear h1 h2 h3 hb)
  go_ret
  exact ⟨s, rfl, H1.out, H2.out, H3.out, B4.out⟩
end Go.Proofs.Ytgbifcfdbelfpaa
