/-
  The walk of nat.takeOften.
-/
import Derived.Test.YtgbifcfdbelfpaaNatPut
namespace Go.Proofs.Ytgbifcfdbelfpaa
open Go.RowKit
set_option linter.unusedVariables false

def PostOften (g : Nat) (p s : List Value) (n : Nat) (U D : Int) (w : World) (e : Ending) (w' : World) : Prop :=
  ∃ q, e = .returned (.int .u32 (U / D)) ∧ Blk w' g p q s ∧ q.length = n ∧ Na.Dg q ∧ Na.V q = U % D ∧ w.grownBy w' (some g)

/-- γ: how often it was taken; t: was that too often? -/
structure Oft (W w : World) (g : Nat) (p s : List Value) (n : Nat) (U D γ : Int) (t : Bool) (q : List Int) : Prop where
  blk : Blk w g p q s
  len : q.length = n
  dg : Na.Dg q
  val : Na.V q = U - γ * D + (if t = true then Na.Bp n else 0)
  hi : U < (γ + 1) * D
  no : t = true → U < γ * D
  g0 : 0 ≤ γ
  g1 : γ < 4294967296
  frm : W.grownBy w (some g)
theorem oft_start {W w : World} {g n : Nat} {p s : List Value} {U D γ β : Int} {q : List Int} (h1 : Blk w g p q s) (h2 : q.length = n) (h3 : Na.Dg q) (b0 : 0 ≤ β) (hv : Na.V q + γ * D = U + β * Na.Bp n) (hU : 0 ≤ U) (hD : γ * D < Na.Bp n) (hU2 : U < Na.Bp n)
    (hi : U < (γ + 1) * D) (g0 : 0 ≤ γ) (g1 : γ < 4294967296) (hf : W.grownBy w (some g)) : Oft W w g p s n U D γ (decide (0 < β)) q := by
  have a1 := Na.V_nonneg h3
  have a2 := Na.V_lt h3
  rw [h2] at a2
  have hb1 : β ≤ 1 := by
    by_cases k : 2 ≤ β
    · have : 2 * Na.Bp n ≤ β * Na.Bp n := Int.mul_le_mul_of_nonneg_right k (by have := Na.Bp_pos n; omega)
      omega
    · omega
  rcases (show β = 0 ∨ β = 1 by omega) with rfl | rfl
  · exact ⟨h1, h2, h3, by simp; omega, hi, fun h => by simp at h, g0, g1, hf⟩
  · exact ⟨h1, h2, h3, by simp; omega, hi, fun h => by omega, g0, g1, hf⟩
theorem oft_next {W w w1 : World} {g n : Nat} {p s : List Value} {U D γ c : Int} {q q1 : List Int} (h : Oft W w g p s n U D γ true q) (h1 : Blk w1 g p q1 s) (h2 : q1.length = n) (h3 : Na.Dg q1) (c0 : 0 ≤ c) (hv : Na.V q1 + c * Na.Bp n = Na.V q + D) (hU : 0 ≤ U) (hD0 : 0 < D) (hDB : D < Na.Bp n) (hg : w.grownBy w1 (some g)) :
    Oft W w1 g p s n U D (γ - 1) (!decide (0 < c)) q1 ∧ 1 ≤ γ := by
  have a1 := Na.V_nonneg h3
  have a2 := Na.V_lt h3
  have a3 := Na.V_nonneg h.dg
  have a4 := Na.V_lt h.dg
  rw [h2] at a2
  rw [h.len] at a4
  have hno := h.no rfl
  have hval := h.val
  simp only [if_true] at hval
  have hg1 : 1 ≤ γ := by
    by_cases k : γ ≤ 0
    · have : γ * D ≤ 0 := Int.mul_nonpos_of_nonpos_of_nonneg k (by omega)
      omega
    · omega
  have e1 : (γ - 1) * D = γ * D - D := by rw [Int.sub_mul]; omega
  have e2 : (γ - 1 + 1) * D = γ * D := by rw [show γ - 1 + 1 = γ by omega]
  have hc1 : c ≤ 1 := by
    by_cases k : 2 ≤ c
    · have : 2 * Na.Bp n ≤ c * Na.Bp n := Int.mul_le_mul_of_nonneg_right k (by have := Na.Bp_pos n; omega)
      omega
    · omega
  have hgg := h.g1
  refine ⟨?_, hg1⟩
  rcases (show c = 0 ∨ c = 1 by omega) with rfl | rfl
  · exact ⟨h1, h2, h3, by simp; omega, by omega, fun _ => by omega, by omega, by omega, grown_then h.frm hg (fun k hk => by cases hk; exact .inr rfl)⟩
  · exact ⟨h1, h2, h3, by simp; omega, by omega, fun h => by simp at h, by omega, by omega, grown_then h.frm hg (fun k hk => by cases hk; exact .inr rfl)⟩

set_option maxRecDepth 100000 in
set_option maxHeartbeats 2000000 in
theorem takeOften_any (A : Option Addr) (g off ca cb n : Nat) (p s : List Value) (m l : List Int) (w : World) (hb : Blk w g p m s) (hp : p.length = off) (hd : Na.Dg m) (hs : RdOff w g A l) (hl : Na.Dg l) (hm : m.length = n + 2) (hln : l.length = n + 2) (hn : n ≤ 10000)
    (l0 : l.getD (n + 1) 0 = 0) (l1 : 1 ≤ l.getD n 0) (hU : Na.V m < Na.V l * 4294967296) :
    Calls Try.prog 109 #[.slice (some ⟨g, off, none⟩) (n + 2) ca, .slice A (n + 2) cb] w (PostOften g p s (n + 2) (Na.V m) (Na.V l) w) := by
  have hU0 := Na.V_nonneg hd
  have hU2 := Na.V_lt hd
  rw [hm] at hU2
  have a1 := Na.V_take l n
  have a2 := Na.V_take l (n + 1)
  rw [show l.take (n + 1 + 1) = l by rw [List.take_of_length_le]; omega, l0, Int.mul_zero, Int.add_zero] at a2
  have a3 := Na.V_lt (hl.take (n + 1))
  rw [List.length_take, show min (n + 1) l.length = n + 1 by omega] at a3
  have a4 := Na.V_nonneg (hl.take n)
  have b1 := Na.V_take m n
  have b2 := Na.V_take m (n + 1)
  rw [show m.take (n + 1 + 1) = m by rw [List.take_of_length_le]; omega] at b2
  have b3 := Na.V_lt (hd.take n)
  rw [List.length_take, show min n m.length = n by omega] at b3
  obtain ⟨v0, v1⟩ := hl.at n
  obtain ⟨y0, y1⟩ := hd.at n
  obtain ⟨x0, x1⟩ := hd.at (n + 1)
  have hPn := Na.Bp_pos n
  have hPe : Na.Bp (n + 1) = 4294967296 * Na.Bp n := rfl
  have hPe2 : Na.Bp (n + 2) = 4294967296 * Na.Bp (n + 1) := rfl
  have hlv : Na.V (l.take (n + 2)) = Na.V l := by rw [List.take_of_length_le (by omega)]
  obtain ⟨bd, od, rfl, hbl, hne, hc⟩ := hs (by omega)
  have hc3 := hc n (by omega); clear hc
  have hc1 : w.cell? ⟨g, off + (n + 1), none⟩ = some (.int .u32 (m.getD (n + 1) 0)) := hb.cell (n + 1) (by omega) (by omega)
  have hc2 : w.cell? ⟨g, off + n, none⟩ = some (.int .u32 (m.getD n 0)) := hb.cell n (by omega) (by omega)
  have htk := fun (wx : World) (hbx : Blk wx g p m s) (hsx : RdOff wx g (some ⟨bd, od, none⟩) l) (T : Int) (T0 : 0 ≤ T) (T1 : T < 4294967296) => takeAway_any (some ⟨bd, od, none⟩) g off ca cb p s m l T wx hbx hp hd hsx hl (by omega) T0 T1 (by omega)
  have hpb := fun (wx : World) (q : List Int) (hbx : Blk wx g p q s) (hsx : RdOff wx g (some ⟨bd, od, none⟩) l) (hq : Na.Dg q) (hqn : q.length = n + 2) => putBack_any (some ⟨bd, od, none⟩) g off ca cb p s q l wx hbx hp hq hsx hl (by omega) (by omega)
  rw [hm, hln] at htk
  simp only [hln] at hpb
  have HPB := Lib.hid hpb; have HTK := Lib.hid htk; have HLV := Lib.hid hlv
  clear htk hpb hlv
  generalize l.getD n 0 = v at *
  generalize m.getD n 0 = y at *
  generalize m.getD (n + 1) 0 = x at *
  have hge : Na.V m / Na.V l ≤ min ((x * 4294967296 + y) / v) 4294967295 := Na.guess_ge (P := Na.Bp n) hPn (by omega) (by rw [hPe] at b2; grind) (by grind) hU0 hU
  have hD0 : 0 < Na.V l := by
    have : 1 * Na.Bp n ≤ v * Na.Bp n := Int.mul_le_mul_of_nonneg_right l1 (by omega)
    grind
  have hDB : Na.V l < Na.Bp (n + 1) := by omega
  have hq0 : 0 ≤ (x * 4294967296 + y) / v := Int.ediv_nonneg (by omega) (by omega)
  have hvz : (v == 0) = false := by rw [beq_eq_false_iff_ne]; omega
  have hor := or_u64 x y x0 x1 y0 y1
  have hdm := Int.mul_ediv_add_emod (Na.V m) (Na.V l)
  have hdr := Int.emod_lt_of_pos (Na.V m) hD0
  obtain ⟨top, htop⟩ : ∃ top, x * 4294967296 + y = top := ⟨_, rfl⟩
  rw [htop] at hge hq0 hor
  have f1 : IntKind.u64.wrap (x * 4294967296) = x * 4294967296 := u64_in _ (by omega) (by omega)
  have f2 : IntKind.u64.wrap x = x := u64_in _ (by omega) (by omega)
  have f3 : IntKind.u64.wrap y = y := u64_in _ (by omega) (by omega)
  have hqt : (top / v) ≤ 18446744073709551615 := by
    have := Int.ediv_le_self v (show 0 ≤ top by omega)
    omega
  obtain ⟨γ, hγ⟩ : ∃ γ, min (top / v) 4294967295 = γ := ⟨_, rfl⟩
  have γ0 : 0 ≤ γ := by omega
  have γ1 : γ < 4294967296 := by omega
  rw [hγ] at hge
  have hhi : Na.V m < (γ + 1) * Na.V l := by
    have : (Na.V m / Na.V l + 1) * Na.V l ≤ (γ + 1) * Na.V l := Int.mul_le_mul_of_nonneg_right (by omega) (by omega)
    rw [Int.add_mul, Int.mul_comm (Na.V m / Na.V l)] at this
    omega
  have hgD : γ * Na.V l < Na.Bp (n + 2) := by
    have : γ * Na.V l ≤ 4294967295 * Na.V l := Int.mul_le_mul_of_nonneg_right (by omega) (by omega)
    omega
  have i0 : (0 : Int) ≤ (n : Int) := by omega
  have HB := Lib.hid hb; have Hs := Lib.hid hs
  have HX := Lib.hid (And.intro hhi (And.intro hgD (And.intro hU0 (And.intro hU2 (And.intro hD0 hDB)))))
  clear hb hs a1 a2 a3 a4 b1 b2 b3 hPn hPe hPe2 hge hdm hdr hhi hgD hU hU0 hU2 hD0 hDB
  go_enter Try.func109, Try.ntmps109
  go_wp2_with fail
  go_quiet (fail)
  have hd3 : (w.drewN nq).cell? ⟨bd, od + n, none⟩ = some (.int .u32 v) := hc3
  have HBx := Lib.hid (show Blk (w.drewN nq) g p m s from HB.out)
  have HGx := Lib.hid (grown_drewN w nq (some g))
  have Hsx := Lib.hid (Hs.out.kept HGx.out)
  clear hc1 hc2 hc3
  generalize w.drewN nq = wx at *
  go_wp2_with fail
  refine (HTK.out wx HBx.out Hsx.out γ γ0 γ1).mono ?_
  rintro e w3 ⟨q, β, rfl, h1, h2, h3, h4, h5, h6, h7⟩
  have hof : Oft w w3 g p s (n + 2) (Na.V m) (Na.V l) γ (decide (0 < β)) q := by
    obtain ⟨hhi, hgD, hU0, hU2, hD0, hDB⟩ := HX.out
    refine oft_start h1 (by omega) h3 h4 ?_ hU0 hgD hU2 hhi γ0 γ1 (grown_then HGx.out h7 (fun k hk => by cases hk; exact .inr rfl))
    rw [hm, HLV.out] at h6
    exact h6
  have HOF := Lib.hid hof
  clear hof h1 h2 h3 h4 h5 h6 h7 HTK hd3 hor hq0 hqt
  generalize decide (0 < β) = t at *
  go_wp2_with fail
  go_loopw [7, 8] (fun v7 v8 wr => ∃ (γ : Int) (t : Bool) (q : List Int), v7 = .int .u32 γ ∧ v8 = .bool t ∧ 0 ≤ γ ∧ γ < 4294967296 ∧ Hid (Oft w wr g p s (n + 2) (Na.V m) (Na.V l) γ t q)) (fun v7 _ _ => (intOf v7).toNat)
  case atStart => exact ⟨γ, t, q, rfl, rfl, γ0, γ1, HOF⟩
  case round =>
    obtain ⟨γ', t', q', rfl, rfl, g0, g1, HS⟩ := hrel
    cases t' with
    | false =>
      have hS := HS.out
      have hv := hS.val
      simp only [Bool.false_eq_true, if_false, Int.add_zero] at hv
      have hnn := Na.V_nonneg hS.dg
      obtain ⟨d1, d2⟩ := Na.div_of HX.out.2.2.2.2.1 (show γ' * Na.V l ≤ Na.V m by omega) hS.hi
      have HD := Lib.hid (And.intro d1 (hv.trans d2))
      clear hS hv hnn d1 d2
      go_wp2_with fail
      go_ret
      exact ⟨q', ret_int HD.out.1.symm, HS.out.blk, HS.out.len, HS.out.dg, HD.out.2, HS.out.frm⟩
    | true =>
      have hS := HS.out
      have pb := HPB.out wr q' hS.blk (Hs.out.kept hS.frm) hS.dg hS.len
      rw [hS.len] at pb
      have hno := hS.no rfl
      have hg1 : 1 ≤ γ' := by
        have := HX.out.2.2.1
        have hd0 := HX.out.2.2.2.2.1
        by_cases k : γ' ≤ 0
        · have : γ' * Na.V l ≤ 0 := Int.mul_nonpos_of_nonpos_of_nonneg k (by omega)
          omega
        · omega
      have PB := Lib.hid pb
      clear pb hS hno
      go_wp2_with (go_at_call 117; (with_reducible refine PB.out.mono ?_); rintro e w4 ⟨q1, c, rfl, k1, k2, k3, k4, k5, k6, k7⟩; have HK := Lib.hid (And.intro k1 (And.intro k2 (And.intro k3 (And.intro k4 (And.intro k6 k7))))); clear k1 k2 k3 k4 k5 k6 k7)
      obtain ⟨k1, k2, k3, k4, k6, k7⟩ := HK.out
      obtain ⟨-, -, hU0, -, hD0, hDB⟩ := HX.out
      have hl2 := HS.out.len
      rw [hl2] at k2 k6
      have nx := (oft_next HS.out k1 k2 k3 k4 k6 hU0 hD0 (by have : Na.Bp (n + 2) = 4294967296 * Na.Bp (n + 1) := rfl; have := Na.Bp_pos (n + 1); omega) k7).1
      exact ⟨⟨γ' - 1, _, q1, rfl, rfl, by omega, by omega, Lib.hid nx⟩, by simp [intOf]; omega⟩

end Go.Proofs.Ytgbifcfdbelfpaa
