/-
  The walk of stats.chances: the chances of 0, 1 and so on are yielded.
-/
import Derived.Test.YtgbifcfdbelfpaaStaWalk1
import Derived.Deep.RegionHeld3
import Derived.Stop.RegionWithIn
namespace Go.Proofs.Ytgbifcfdbelfpaa
open Go.RowKit Go.Shelf
set_option linter.unusedVariables false
attribute [local go_sem] Oper.semAt_some

/-- a number of successes, and a slice: what is yielded -/
structure Val where
  k : Nat
  A : Option Addr
  c : Nat
  l : List Int
def Val.encs (x : Val) : Array Value := #[.int .i64 x.k, .slice x.A x.l.length x.c]
/-- block B is the box of a slice -/
def SBox (B : Nat) (W : World) : Prop := ∃ A n c, W.heap[B]? = some (.cells #[.slice A n c] 29)
/-- all cells but those of block B lie as they lay -/
structure KB (B : Nat) (X Y : World) : Prop where
  size : X.heap.size ≤ Y.heap.size
  same : ∀ (k : Nat) (o : Obj), k ≠ B → X.heap[k]? = some o → o.isCells = true → Y.heap[k]? = some o
  box : SBox B X → SBox B Y
theorem KB.trans {B : Nat} {X Y Z : World} (h : KB B X Y) (g : KB B Y Z) : KB B X Z :=
  ⟨Nat.le_trans h.size g.size, fun k o hk ho hc => g.same k o hk (h.same k o hk ho hc) hc, fun hb => g.box (h.box hb)⟩
theorem SBox.below {B : Nat} {X Y : World} (h : SBox B X) (hb : Below X.heap.size X Y) : SBox B Y := by
  obtain ⟨A, n, c, h⟩ := h
  exact ⟨A, n, c, (hb.block _ (Array.getElem?_eq_some_iff.1 h).1).trans h⟩
theorem KB.below {B : Nat} {X Y : World} (hb : Below X.heap.size X Y) : KB B X Y :=
  ⟨hb.size, fun k o _ ho _ => (hb.block _ (Array.getElem?_eq_some_iff.1 ho).1).trans ho, fun h => h.below hb⟩
theorem KB.putObj {B : Nat} (X : World) (k : Nat) (o o' : Obj) (h : X.heap[k]? = some o) (hc : o.isCells = false) : KB B X (X.putObj k o') := by
  have hne : ∀ j u, X.heap[j]? = some u → u.isCells = true → j ≠ k := fun j u h1 h2 e => by subst e; rw [h] at h1; cases h1; rw [hc] at h2; cases h2
  refine ⟨by simp, fun j u _ h1 h2 => (World.putObj_heap_other (hne j u h1 h2)).trans h1, ?_⟩
  rintro ⟨A, n, c, h1⟩
  exact ⟨A, n, c, (World.putObj_heap_other (hne B _ h1 rfl)).trans h1⟩
/-- a cell tells that its block holds cells -/
theorem cells_of {W : World} {b o : Nat} {v : Value} (h : W.cell? ⟨b, o, none⟩ = some v) : ∃ u : Obj, W.heap[b]? = some u ∧ u.isCells = true := by
  unfold World.cell? at h
  cases ho : W.heap[b]? with
  | none => simp [ho] at h
  | some u => exact ⟨u, rfl, by cases u <;> simp_all [Obj.isCells]⟩
theorem KB.cell {B b o : Nat} {X Y : World} {v : Value} (h : KB B X Y) (hc : X.cell? ⟨b, o, none⟩ = some v) (hne : b ≠ B) : Y.cell? ⟨b, o, none⟩ = some v := by
  obtain ⟨u, hu, hk⟩ := cells_of hc
  have e : Y.heap[b]? = X.heap[b]? := (h.same b u hne hu hk).trans hu.symm
  rw [← hc]; exact World.cell?_of_block e
/-- limbs do not lie in the box of a slice -/
theorem Num.kb {B : Nat} {X Y : World} {A : Option Addr} {l : List Int} {z : Int} (h : Num X A l z) (hs : SBox B X) (hk : KB B X Y) : Num Y A l z := by
  refine ⟨fun h0 => ?_, h.can, h.len, h.val⟩
  obtain ⟨b, off, rfl, hb, hc⟩ := h.rd h0
  have hne : b ≠ B := by
    rintro rfl
    obtain ⟨A2, n, c, h1⟩ := hs
    have h2 := hc 0 h0
    simp [World.cell?, h1] at h2
    cases off with
    | zero => simp at h2
    | succ j => simp at h2
  exact ⟨b, off, rfl, by have := hk.size; omega, fun i hi => hk.cell (hc i hi) hne⟩

/-- what the iterator tells -/
def Tl (n : Nat) (p q : Int) (pre : List Val) (x : Val) (W : World) : Prop := x.k = pre.length ∧ pre.length ≤ n ∧ Num W x.A x.l (Sb.cn n x.k p q)

/-- the state of the iterator when k chances have been yielded -/
structure CSt (J : List Val → World → Prop) (n : Nat) (p q : Int) (B b k : Nat) (A : Option Addr) (ll : List Int) (z : Int) (pre : List Val) (W : World) : Prop where
  num : Num W A ll z
  val : k < n → z = Sb.cn n k p q
  inv : J pre W
  box : SBox B W
  cn : W.cell? ⟨b, 0, none⟩ = some (.int .i64 n)
  cp : W.cell? ⟨b + 1, 0, none⟩ = some (.int .i64 p)
  cq : W.cell? ⟨b + 2, 0, none⟩ = some (.int .i64 q)

/-- how the iterator ends -/
def Dn (n : Nat) (J Jx : List Val → World → Prop) (Y : World) : Prop := (∃ xs : List Val, xs.length = n + 1 ∧ J xs Y) ∨ ∃ pre, Jx pre Y

theorem round_done {B n m m' : Nat} {P : Program} {l f : Nat} {tmps : Array Value} {assign body : Code} {w : World} {J Jx : List Val → World → Prop} {xs : List Val}
    (h : RoundIn Fence.wide m P l f tmps assign body w fun e Y => (e = .returned (.bool true) ∧ J xs Y ∧ KB B w Y) ∨ (e = .returned (.bool false) ∧ Jx xs Y)) (hn : xs.length = n + 1) :
    RoundIn Fence.wide m' P l f tmps assign body w fun e Y => ∃ bb : Bool, e = .returned (.bool bb) ∧ Dn n J Jx Y :=
  (roundIn_any h).mono fun e Y h => by
    rcases h with ⟨e1, h1, _⟩ | ⟨e1, h1⟩
    · exact ⟨true, e1, .inl ⟨_, hn, h1⟩⟩
    · exact ⟨false, e1, .inr ⟨_, h1⟩⟩

theorem chances_any (n p q : Int) (w : World) :
    Calls Try.prog 77 #[.int .i64 n, .int .i64 p, .int .i64 q] w fun e w' => e = .returned (.func (.func 92) #[] #[.pointer (some ⟨w.heap.size + 2, 0, none⟩), .pointer (some ⟨w.heap.size, 0, none⟩), .pointer (some ⟨w.heap.size + 1, 0, none⟩)]) ∧
      w' = ((w.alloc (.cells #[.int .i64 n] 3)).alloc (.cells #[.int .i64 p] 3)).alloc (.cells #[.int .i64 q] 3) := by
  go_enter Try.func77, Try.ntmps77
  go_wp2
  go_ret
  exact ⟨rfl, rfl⟩

set_option maxRecDepth 100000 in
set_option maxHeartbeats 2000000 in
theorem chances_told (n : Nat) (p q : Int) (hp : 0 ≤ p) (hp1 : p ≤ 10000) (hq : 0 ≤ q) (hpq : p + q ≤ 10000) (hn : n ≤ 500) (B b : Nat) (w0 : World) (hB : B < b) (hbx : SBox B w0)
    (cn0 : w0.cell? ⟨b, 0, none⟩ = some (.int .i64 n)) (cp0 : w0.cell? ⟨b + 1, 0, none⟩ = some (.int .i64 p)) (cq0 : w0.cell? ⟨b + 2, 0, none⟩ = some (.int .i64 q)) :
    Told Try.prog 92 #[.pointer (some ⟨b + 2, 0, none⟩), .pointer (some ⟨b, 0, none⟩), .pointer (some ⟨b + 1, 0, none⟩)] Val.encs (Tl n p q) (KB B) (fun xs => xs.length = n + 1) (fun _ => True) w0 := by
  intro l J Jx W hW hJ hJx hY h0
  have hsz0 : b + 2 < w0.heap.size := (Array.getElem?_eq_some_iff.1 (cells_of cq0).choose_spec.1).1
  have c1 := (hW.cell (p := ⟨b, 0, none⟩) (by show b < _; omega)).trans cn0
  have c2 := (hW.cell (p := ⟨b + 1, 0, none⟩) (by show b + 1 < _; omega)).trans cp0
  have c3 := (hW.cell (p := ⟨b + 2, 0, none⟩) (by show b + 2 < _; omega)).trans cq0
  have hbW : SBox B W := by
    obtain ⟨A, m, c, h⟩ := hbx
    exact ⟨A, m, c, (hW.block _ (by omega)).trans h⟩
  have P0 := Lib.hid (power_any q n W hq (by omega) (by omega))
  have HY := Lib.hid hY; have HJ := Lib.hid hJ; have H0 := Lib.hid h0; have HB := Lib.hid hbW
  have hsz : b + 2 < W.heap.size := by have := hW.size; omega
  clear hY hJ hJx h0 hbW hbx cn0 cp0 cq0 hW
  refine (callsIn_wide (n := 5)).1 ?_
  refine callsIn_of_wp Try.func92 rfl trivial ?_ rfl
  simp only [Try.ntmps92, List.size_toArray, List.length_cons, List.length_nil, Nat.reduceAdd, Nat.reduceSub, Array.replicate_succ, Array.replicate_zero, List.push_toArray, List.append_toArray, List.nil_append, List.cons_append]
  gi_wp2_with (refine ⟨trivial, ?_⟩; gi_at_call 79; (with_reducible refine (callsIn_wide.2 P0.out).mono ?_); rintro e w1 ⟨A1, k1, l1, rfl, h, hb⟩; have d1 := (bcell hb b 0 (by omega)).trans c1; have d2 := (bcell hb (b + 1) 0 (by omega)).trans c2; have d3 := (bcell hb (b + 2) 0 (by omega)).trans c3; have B1 := Lib.hid hb; have N1 := Lib.hid h; clear h hb)
  have HX := Lib.hid (HJ.out _ _ _ H0.out B1.out); have HX2 := Lib.hid (HB.out.below B1.out)
  have n0 : (0 : Int) ≤ (n : Int) := by omega
  have n1 : (n : Int) ≤ 500 := by omega
  have HN1 : Hid (0 < n → q ^ n = Sb.cn n 0 p q) := Lib.hid (fun _ => (Sb.cn_first n p q).symm)
  clear c1 c2 c3
  gi_loopw [5, 11] (fun s5 s11 wr => ∃ (k : Nat) (A : Option Addr) (c : Nat) (ll : List Int) (z : Int) (pre : List Val), k ≤ n ∧ pre.length = k ∧ s11 = .int .i64 k ∧ s5 = .slice A ll.length c ∧ CSt J n p q B b k A ll z pre wr)
    (fun _ s11 _ => n - (intOf s11).toNat)
  case atStart => exact ⟨0, A1, k1, l1, _, [], by omega, rfl, rfl, rfl, ⟨N1.out, HN1.out, HX.out, HX2.out, d1, d2, d3⟩⟩
  case round =>
    obtain ⟨k, A, c, ll, z, pre, hk, hlen, rfl, rfl, ⟨hN, hz, hJs, hbox, e1, e2, e3⟩⟩ := hrel
    clear d1 d2 d3
    by_cases hlt : k < n
    · have hz' := hz hlt
      subst hz'
      obtain ⟨fn, tmps, assign, body, hy, hR⟩ := HY.out pre ⟨k, A, c, ll⟩ wr hJs ⟨hlen.symm, by omega, hN⟩
      dsimp only [Val.encs] at hy
      have hN2 := Lib.hid hN; have hbox2 := Lib.hid hbox
      clear hN hbox hz hJs
      gi_wp2
      refine (roundIn_any hR).mono ?_
      rintro e W3 (⟨rfl, hJ3, hk3⟩ | ⟨rfl, hJx3⟩)
      · have g1 := hk3.cell e1 (by omega)
        have g2 := hk3.cell e2 (by omega)
        have g3 := hk3.cell e3 (by omega)
        have hN3 := Lib.hid (hN2.out.kb hbox2.out hk3); have hbox3 := Lib.hid (hk3.box hbox2.out)
        have HJ3 := Lib.hid hJ3
        clear hk3 hJ3 hR hy e1 e2 e3
        by_cases hq0 : 0 < q
        · have m0 : (0 : Int) ≤ (n : Int) - (k : Int) := by omega
          have m1 : IntKind.i64.wrap ((n : Int) - (k : Int)) = (n : Int) - (k : Int) := IntWalk.i64_in _ (by omega)
          have b1 : ((n : Int) - (k : Int)) * p ≤ 500 * 10000 := Int.mul_le_mul (by omega) hp1 hp (by omega)
          have b2 : 0 ≤ ((n : Int) - (k : Int)) * p := Int.mul_nonneg m0 hp
          have b3 : ((k : Int) + 1) * q ≤ 500 * 10000 := Int.mul_le_mul (by omega) (by omega) hq (by omega)
          have b4 : 0 < ((k : Int) + 1) * q := Int.mul_pos (by omega) hq0
          have m2 : IntKind.i64.wrap (((n : Int) - (k : Int)) * p) = ((n : Int) - (k : Int)) * p := IntWalk.i64_in _ (by omega)
          have m3 : IntKind.i64.wrap ((k : Int) + 1) = (k : Int) + 1 := IntWalk.i64_in _ (by omega)
          have m4 : IntKind.i64.wrap (((k : Int) + 1) * q) = ((k : Int) + 1) * q := IntWalk.i64_in _ (by omega)
          have hv : Sb.cn n k p q * (((n : Int) - (k : Int)) * p) / (((k : Int) + 1) * q) = Sb.cn n (k + 1) p q := by
            rw [← Sb.cn_div hlt hq0, Int.natCast_sub (by omega), Int.natCast_add]; rfl
          have hc0 := Sb.cn_nn hp hq n k
          have hc1 := Int.le_trans (Sb.cn_le hp hq n k) (Sb.pow_mono (show 0 ≤ p + q by omega) hpq n)
          have CP := Lib.hid (fun V (hV : Below W3.heap.size W3 V) => product_any A c ll (Sb.cn n k p q) (((n : Int) - (k : Int)) * p) V (hN3.out.below hV) b2 (by omega) (fit_mul hc1 hc0 b2 (by omega) (by omega)))
          have CQ := Lib.hid (fun A2 c2 l2 V (hV : Num V A2 l2 (Sb.cn n k p q * (((n : Int) - (k : Int)) * p))) => quotient_any A2 c2 l2 _ (((k : Int) + 1) * q) V hV b4 (by omega))
          have HV := Lib.hid hv; have hsz3 : b + 2 < W3.heap.size := (Array.getElem?_eq_some_iff.1 (cells_of g3).choose_spec.1).1
          have HD := Lib.hid (show Below W3.heap.size W3 W3.drew from below_drewN (Below.refl _ _) 1)
          clear b1 b2 b3 b4 hv hc0 hc1
          gi_wp2
          refine wpIn_wide.2 ?_
          go_region_held3 (fun V => V.cell? ⟨b, 0, none⟩ = some (.int .i64 n) ∧ V.cell? ⟨b + 1, 0, none⟩ = some (.int .i64 p) ∧ V.cell? ⟨b + 2, 0, none⟩ = some (.int .i64 q))
            (first | exact ⟨v1, v2, v3⟩ | exact ⟨u1, u2, u3⟩ | exact ⟨g1, g2, g3⟩)
            (first
              | (go_at_call 78; (with_reducible refine (CP.out _ HD.out).mono ?_); rintro e V ⟨A2, c2, l2, rfl, h, hb⟩; have u1 := (bcell hb b 0 (by show b < W3.heap.size; omega)).trans g1; have u2 := (bcell hb (b + 1) 0 (by show b + 1 < W3.heap.size; omega)).trans g2; have u3 := (bcell hb (b + 2) 0 (by show b + 2 < W3.heap.size; omega)).trans g3; have B2 := Lib.hid (HD.out.trans hb); clear hb)
              | (go_at_call 93; (with_reducible refine (CQ.out _ _ _ _ h).mono ?_); clear h; rintro e V ⟨A3, c3, l3, rfl, h, hb⟩; have v1 := (bcell hb b 0 (by have := B2.out.size; omega)).trans u1; have v2 := (bcell hb (b + 1) 0 (by have := B2.out.size; omega)).trans u2; have v3 := (bcell hb (b + 2) 0 (by have := B2.out.size; omega)).trans u3; have B3 := Lib.hid (B2.out.trans (hb.mono B2.out.size)); have N3 := Lib.hid h; clear hb h u1 u2 u3))
          clear m0 m1 m2 m3 m4 g1 g2 g3
          gi_wp2
          go_roundw
          case rel => exact ⟨k + 1, A3, c3, l3, _, pre ++ [⟨k, A, c, ll⟩], by omega, by rw [List.length_append, hlen]; rfl, by go_num, rfl, ⟨N3.out, fun _ => HV.out, HJ.out _ _ _ HJ3.out B3.out, hbox3.out.below B3.out, v1, v2, v3⟩⟩
          case measure => simp [intOf]; omega
        · gi_wp2
          go_roundw
          case rel => exact ⟨k + 1, A, c, ll, _, pre ++ [⟨k, A, c, ll⟩], by omega, by rw [List.length_append, hlen]; rfl, by go_num, rfl, ⟨hN3.out, fun h => by
            obtain rfl : q = 0 := by omega
            rw [Sb.cn_q0 hlt, Sb.cn_q0 h], HJ3.out, hbox3.out, g1, g2, g3⟩⟩
          case measure => simp [intOf]; omega
      · gi_wp2
        refine bodyPost_ret (results_none rfl _ _ _) rfl ?_
        exact ⟨⟨_, rfl⟩, .inr ⟨_, trivial, hJx3⟩⟩
    · obtain rfl : k = n := by omega
      have hN2 := Lib.hid hN; have hbox2 := Lib.hid hbox; have HJ2 := Lib.hid hJs
      have hszr : b + 2 < wr.heap.size := (Array.getElem?_eq_some_iff.1 (cells_of e3).choose_spec.1).1
      have HD := Lib.hid (show Below wr.heap.size wr wr.drew from below_drewN (Below.refl _ _) 1)
      have PW := Lib.hid (fun V => power_any p k V hp hp1 (by omega))
      clear hN hbox hz hJs HN1
      gi_wp2
      gi_region_with (first
        | (refine ⟨trivial, ?_⟩; gi_at_call 79; (with_reducible refine (callsIn_wide.2 (PW.out _)).mono ?_); rintro e V ⟨A2, c2, l2, rfl, h, hb⟩; obtain ⟨fn, tmps, assign, body, hy, hR⟩ := HY.out pre ⟨k, A2, c2, l2⟩ V (HJ.out _ _ _ (HJ.out _ _ _ HJ2.out HD.out) hb) ⟨hlen.symm, by omega, by rw [Sb.cn_last]; exact h⟩; dsimp only [Val.encs] at hy; have d1 := (bcell hb b 0 (by show b < wr.heap.size; omega)).trans e1; have d2 := (bcell hb (b + 1) 0 (by show b + 1 < wr.heap.size; omega)).trans e2; have d3 := (bcell hb (b + 2) 0 (by show b + 2 < wr.heap.size; omega)).trans e3; clear hb h)
        | (refine (round_done hR (by rw [List.length_append, hlen]; rfl)).mono ?_; rintro e V3 ⟨bb, rfl, hd⟩))
      all_goals (gi_wp2; go_end0; exact ⟨⟨_, rfl⟩, hd.imp id (fun ⟨x, h⟩ => ⟨x, trivial, h⟩)⟩)
end Go.Proofs.Ytgbifcfdbelfpaa
