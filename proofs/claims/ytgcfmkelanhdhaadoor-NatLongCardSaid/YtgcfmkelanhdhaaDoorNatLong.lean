/-
  The walk of the law NatLong.
-/
import Derived.Test.YtgcfmkelanhdhaaDoorNatLong1
namespace Go.Proofs.YtgcfmkelanhdhaaDoor
open Go.RowKit
set_option linter.unusedVariables false

theorem can_pow {x : Int} (h0 : 1 ≤ x) (h1 : x < 4294967296) (n : Nat) : Na.Can (List.replicate n 0 ++ [x]) :=
  Na.Can.of_last ((Na.Dg.rep n).snoc (by omega) h1) (fun _ => by simp [List.getD_eq_getElem?_getD]; omega)
theorem V_pow (x : Int) (n : Nat) : Na.V (List.replicate n 0 ++ [x]) = x * Na.Bp n := by
  rw [Na.V_append, Na.V_rep]
  simp [Na.V]
  exact Int.mul_comm _ _
theorem Own.num {w : World} {v : Value} {x : Int} {n : Nat} (h : Own w 0 v (List.replicate n 0 ++ [x])) (h0 : 1 ≤ x) (h1 : x < 4294967296) (hn : n + 1 ≤ 1024) :
    ∃ A c, v = .slice A (List.replicate n (0 : Int) ++ [x]).length c ∧ Num w A (List.replicate n 0 ++ [x]) (x * Na.Bp n) := by
  rcases h with ⟨-, h⟩ | ⟨g, s, rfl, h2, h3, h4⟩
  · simp at h
  · exact ⟨_, _, rfl, h2.rd rfl, can_pow h0 h1 n, by simpa using hn, V_pow x n⟩

theorem pos_mul {x y z : Int} (x0 : 1 ≤ x) (x1 : x ≤ 4294967295) (y0 : 1 ≤ y) (y1 : y ≤ 4294967295) (h : x * y = z) : 1 ≤ z ∧ z ≤ 18446744065119617025 := by
  subst h
  refine ⟨?_, (mul_bd (u := y) (v := x) (by omega) (by omega) (by omega) (by omega)).2⟩
  have : (1 : Int) * 1 ≤ x * y := Int.mul_le_mul x0 y0 (by omega) (by omega)
  omega
theorem fit1 {z : Int} {n : Nat} (z0 : 1 ≤ z) (z1 : z < 4294967296) (h : n + 1 ≤ 1024) : z * Na.Bp n < Na.Bp 1024 := by
  have h1 : z * Na.Bp n < 4294967296 * Na.Bp n := Int.mul_lt_mul_of_pos_right z1 (Na.Bp_pos n)
  have h2 := Na.Bp_le h
  rw [Na.Bp] at h2
  omega
theorem long1 {z : Int} {n : Nat} (z0 : 1 ≤ z) (h : ¬ n + 1 ≤ 1024) : ¬ z * Na.Bp n < Na.Bp 1024 := by
  have h1 : 1 * Na.Bp n ≤ z * Na.Bp n := Int.mul_le_mul_of_nonneg_right z0 (Int.le_of_lt (Na.Bp_pos n))
  have h2 := Na.Bp_le (show 1024 ≤ n by omega)
  omega
theorem fit2 {z : Int} {n : Nat} (z1 : z ≤ 18446744065119617025) (h : n + 2 ≤ 1024) : z * Na.Bp n < Na.Bp 1024 := by
  have h1 : z * Na.Bp n < 18446744073709551616 * Na.Bp n := Int.mul_lt_mul_of_pos_right (by omega) (Na.Bp_pos n)
  have h2 := Na.Bp_le h
  rw [Na.Bp_add, show Na.Bp 2 = 18446744073709551616 by decide] at h2
  omega
theorem long2 {z : Int} {n : Nat} (z0 : ¬ z < 4294967296) (h : ¬ n + 2 ≤ 1024) : ¬ z * Na.Bp n < Na.Bp 1024 := by
  have h1 : 4294967296 * Na.Bp n ≤ z * Na.Bp n := Int.mul_le_mul_of_nonneg_right (by omega) (Int.le_of_lt (Na.Bp_pos n))
  have h2 := Na.Bp_le (show 1024 ≤ n + 1 by omega)
  have h3 : Na.Bp (n + 1) = 4294967296 * Na.Bp n := rfl
  omega
def PostPow (s : Nat) (lo hi : Int) (len : Nat) (W : World) (e : Ending) (w' : World) : Prop :=
  ∃ b off cc, e = .returned (.tuple #[.slice (some ⟨b, off, none⟩) len cc, .int .i64 0]) ∧ (∀ j, j < s → w'.cell? ⟨b, off + j, none⟩ = some (.int .u32 0)) ∧ w'.cell? ⟨b, off + s, none⟩ = some (.int .u32 lo) ∧
    (s + 2 ≤ len → w'.cell? ⟨b, off + (s + 1), none⟩ = some (.int .u32 hi)) ∧ Below W.heap.size W w'
theorem get_pow (s : Nat) (m : List Int) (j : Nat) : (List.replicate s (0 : Int) ++ m).getD j 0 = if j < s then 0 else m.getD (j - s) 0 := by
  rw [List.getD_eq_getElem?_getD]
  split
  · rename_i h
    rw [List.getElem?_append_left (by simpa using h)]
    simp [h]
  · rename_i h
    rw [List.getElem?_append_right (by simp; omega)]
    simp [List.getD_eq_getElem?_getD]
theorem pow1 {s : Nat} {z : Int} {W : World} {e : Ending} {w' : World} (z0 : 1 ≤ z) (z1 : z < 4294967296) (h : PostNumE (z * Na.Bp s) W e w') : PostPow s z 0 (s + 1) W e w' := by
  obtain ⟨A, c, l, rfl, hn, hb⟩ := h
  obtain rfl : l = List.replicate s 0 ++ [z] := hn.can.inj (can_pow z0 z1 s) (by rw [hn.val, V_pow])
  obtain ⟨b, off, rfl, hlt, hc⟩ := hn.rd (by simp)
  have hl : (List.replicate s (0 : Int) ++ [z]).length = s + 1 := by simp
  refine ⟨b, off, c, by rw [hl], fun j hj => ?_, ?_, fun h => absurd h (by omega), hb⟩
  · rw [hc j (by rw [hl]; omega), get_pow, if_pos hj]
  · rw [hc s (by rw [hl]; omega), get_pow, if_neg (by omega), Nat.sub_self]; rfl
theorem pow2 {s : Nat} {z : Int} {W : World} {e : Ending} {w' : World} (z0 : ¬ z < 4294967296) (z1 : z ≤ 18446744065119617025) (h : PostNumE (z * Na.Bp s) W e w') : PostPow s (z % 4294967296) (z / 4294967296) (s + 2) W e w' := by
  obtain ⟨A, c, l, rfl, hn, hb⟩ := h
  have hcan : Na.Can (List.replicate s 0 ++ [z % 4294967296, z / 4294967296]) := by
    refine Na.Can.of_last (Na.Dg.append.2 ⟨Na.Dg.rep s, Na.Dg.cons.2 ⟨⟨by omega, by omega⟩, Na.Dg.cons.2 ⟨⟨by omega, by omega⟩, Na.Dg.nil⟩⟩⟩) (fun _ => ?_)
    rw [get_pow]
    simp
    omega
  obtain rfl : l = List.replicate s 0 ++ [z % 4294967296, z / 4294967296] := hn.can.inj hcan (by
    rw [hn.val, Na.V_append, Na.V_rep, List.length_replicate]
    simp [Na.V]
    rw [show z % 4294967296 + 4294967296 * (z / 4294967296) = z by omega]
    exact Int.mul_comm _ _)
  obtain ⟨b, off, rfl, hlt, hc⟩ := hn.rd (by simp)
  have hl : (List.replicate s (0 : Int) ++ [z % 4294967296, z / 4294967296]).length = s + 2 := by simp
  refine ⟨b, off, c, by rw [hl], fun j hj => ?_, ?_, fun _ => ?_, hb⟩
  · rw [hc j (by rw [hl]; omega), get_pow, if_pos hj]
  · rw [hc s (by rw [hl]; omega), get_pow, if_neg (by omega), Nat.sub_self]; rfl
  · rw [hc (s + 1) (by rw [hl]; omega), get_pow, if_neg (by omega), show s + 1 - s = 1 by omega]; rfl
set_option maxRecDepth 100000 in
set_option maxHeartbeats 8000000 in
theorem walk_natLong (a0 : Int) (w0 : (Lit.int .u16 a0).wf = true) (a1 : Int) (w1 : (Lit.int .u16 a1).wf = true) (a2 : Int) (w2 : (Lit.int .u32 a2).wf = true) (a3 : Int) (w3 : (Lit.int .u32 a3).wf = true) (w : World) (hw : Rdy w) :
    Calls Tryd.prog 10 #[.int .u16 a0, .int .u16 a1, .int .u32 a2, .int .u32 a3] w fun e w' => e = .returned (.bool true) ∧ Below w.heap.size w w' := by
  have AW := Lib.hid (awake_any w)
  obtain ⟨m0, m1⟩ := u16_bd w0
  obtain ⟨n0, n1⟩ := u16_bd w1
  obtain ⟨I, hI⟩ : ∃ I : Nat, a0 % 1024 = (I : Int) := ⟨(a0 % 1024).toNat, by omega⟩
  obtain ⟨K, hK⟩ : ∃ K : Nat, a1 % 1024 = (K : Int) := ⟨(a1 % 1024).toNat, by omega⟩
  have hI2 : I ≤ 1023 := by omega
  have hK2 : K ≤ 1023 := by omega
  clear w0 w1 hw
  go_enter Tryd.func10, Tryd.ntmps10
  go_wp2_with (first
    | (go_at_call 12; (with_reducible refine (AW.out).mono ?_); rintro e x1 ⟨rfl, hb⟩; have B1 := Lib.hid hb; clear hb))
  obtain ⟨x, hx⟩ : ∃ x, max a2 1 = x := ⟨_, rfl⟩
  obtain ⟨y, hy⟩ : ∃ y, max a3 1 = y := ⟨_, rfl⟩
  obtain ⟨p0, p1⟩ := u32_bd w2
  obtain ⟨q0, q1⟩ := u32_bd w3
  have x0 : 1 ≤ x := by omega
  have x1' : x ≤ 4294967295 := by omega
  have y0 : 1 ≤ y := by omega
  have y1 : y ≤ 4294967295 := by omega
  rw [hI, hK, hx, hy]
  clear w2 w3
  refine reg5_at (I := I) (K := K) (x := x) (y := y) ?r _ (Nat.le_of_ble_eq_true rfl) rfl rfl rfl rfl (by omega) (by omega) w _ B1.out ?_
  case r =>
    exact {
      size := rfl, early := early_of rfl,
      o0 := ⟨_, rfl, rfl, rfl, rfl⟩, o1 := ⟨_, rfl, rfl, rfl, rfl⟩, o2 := ⟨_, rfl, rfl, rfl, rfl⟩, o3 := ⟨_, rfl, rfl, rfl, rfl⟩, o4 := ⟨_, rfl, rfl, rfl, rfl⟩, o5 := ⟨_, rfl, rfl, rfl, rfl⟩,
      o6 := ⟨_, rfl, rfl, rfl, rfl⟩, o7 := ⟨_, rfl, rfl, rfl, rfl⟩, o8 := ⟨_, rfl, rfl, rfl, rfl⟩, o9 := ⟨_, rfl, rfl, rfl, rfl⟩, o10 := ⟨_, rfl, rfl, rfl, rfl⟩, o11 := ⟨_, rfl, rfl, rfl, rfl⟩,
      w1 := ⟨_, 0, _, rfl, rfl, rfl, rfl⟩, w3 := ⟨_, 0, _, rfl, rfl, rfl, rfl⟩, w4 := ⟨_, 0, _, rfl, rfl, rfl, rfl⟩, w4' := ⟨_, 1, _, rfl, rfl, rfl, rfl⟩, w6 := ⟨_, 0, _, rfl, rfl, rfl, rfl⟩, w8 := ⟨_, 0, _, rfl, rfl, rfl, rfl⟩,
      w9 := ⟨_, 0, _, rfl, rfl, rfl, rfl⟩, w9' := ⟨_, 1, _, rfl, rfl, rfl, rfl⟩, w10 := ⟨_, 0, _, rfl, rfl, rfl, rfl⟩, w11 := ⟨_, 0, _, rfl, rfl, rfl, rfl⟩ }
  intro v0 v1 v2 v3 v4 v5 v6 v7 v8 v9 v10 v11 x2 hb ho1 ho2
  have B2 := Lib.hid hb; clear hb B1
  obtain ⟨A, ca, rfl, hn1⟩ := ho1.num x0 (by omega) (by omega)
  obtain ⟨B, cb, rfl, hn2⟩ := ho2.num y0 (by omega) (by omega)
  clear ho1 ho2
  obtain ⟨z, hz⟩ : ∃ z, x * y = z := ⟨_, rfl⟩
  obtain ⟨z0, z1⟩ := pos_mul x0 x1' y0 y1 hz
  have ez : x * Na.Bp I * (y * Na.Bp K) = z * Na.Bp (I + K) := by rw [Na.Bp_add, ← hz]; grind
  have hl1 : (List.replicate I (0 : Int) ++ [x]).length = I + 1 := by simp
  have hl2 : (List.replicate K (0 : Int) ++ [y]).length = K + 1 := by simp
  have f1 : IntKind.u64.wrap (x * y) = z := by rw [hz]; exact u64_in z (by omega) (by omega)
  have f2 : IntKind.u64.wrap z = z := u64_in z (by omega) (by omega)
  by_cases hh : z < 4294967296
  · by_cases hs : I + K + 1 ≤ 1024
    · have hP := (mul_fit A B ca cb _ _ _ _ x2 hn1 hn2 (by rw [ez]; exact fit1 z0 hh hs))
      rw [ez, hl1, hl2] at hP
      have HP := Lib.hid (hP.mono (fun e w' h => pow1 z0 hh h))
      have f3 : IntKind.u32.wrap z = z := u32_in z (by omega) (by omega)
      have f4 : z % 4294967296 = z := by omega
      have f5 : z / 4294967296 = 0 := by omega
      have i0 : (0 : Int) ≤ (I : Int) + (K : Int) := by omega
      have i1 : (I : Int) + (K : Int) < ((I + K + 1 : Nat) : Int) := by omega
      clear hP hn1 hn2 hl1 hl2 ez
      go_wp2_with (first
        | (go_at_call 16; (with_reducible refine (HP.out).mono ?_); rintro e x3 ⟨b, off, cc, rfl, hz0, hc1, -, hb⟩; have B3 := Lib.hid (B2.out.trans (hb.mono B2.out.size)); have HZ := Lib.hid hz0; clear hz0 hb))
      go_loop [17] (fun s => ∃ k : Nat, k ≤ I + K ∧ s = .int .i64 k) (fun s => I + K - (intOf s).toNat)
      case atStart => exact ⟨0, by omega, rfl⟩
      case round =>
        obtain ⟨k, hk, rfl⟩ := hrel
        by_cases h0 : k = I + K
        · have j1 : (k : Int) = (I : Int) + (K : Int) := by omega
          rw [j1]
          clear h0 j1 hk
          go_wp2_with fail
          go_ret
          exact ⟨rfl, B3.out⟩
        · have hck := HZ.out k (by omega)
          have j0 : (0 : Int) ≤ (k : Int) := by omega
          have j1 : (k : Int) < (I : Int) + (K : Int) := by omega
          have j2 : (k : Int) < ((I + K + 1 : Nat) : Int) := by omega
          clear h0
          go_wp2_with fail
          exact ⟨⟨k + 1, by omega, by go_num⟩, by simp [intOf]; omega⟩
    · have hP := mul_long A B ca cb _ _ _ _ x2 hn1 hn2 (by rw [ez]; exact long1 z0 (by omega))
      rw [hl1, hl2] at hP
      have HP := Lib.hid hP
      have f5 : z / 4294967296 = 0 := by omega
      have i1 : (1024 : Int) < (I : Int) + (K : Int) + 1 := by omega
      clear hP hn1 hn2 hl1 hl2 ez
      go_wp2_with (first
        | (go_at_call 16; (with_reducible refine (HP.out).mono ?_); rintro e x3 ⟨rfl, hb⟩; have B3 := Lib.hid (B2.out.trans (hb.mono B2.out.size)); clear hb))
      go_ret
      exact ⟨rfl, B3.out⟩
  · have f5 : 0 < z / 4294967296 := by omega
    by_cases hs : I + K + 2 ≤ 1024
    · have hP := (mul_fit A B ca cb _ _ _ _ x2 hn1 hn2 (by rw [ez]; exact fit2 (by omega) hs))
      rw [ez, hl1, hl2] at hP
      have HP := Lib.hid (hP.mono (fun e w' h => pow2 hh (by omega) h))
      obtain ⟨lo, hlo⟩ : ∃ lo, z % 4294967296 = lo := ⟨_, rfl⟩
      obtain ⟨hi, hhi⟩ : ∃ hi, z / 4294967296 = hi := ⟨_, rfl⟩
      rw [hlo, hhi] at HP
      rw [hhi] at f5
      have f3 : IntKind.u32.wrap z = lo := by rw [← hlo]; simp [IntKind.wrap, IntKind.bits, IntKind.signed]
      have f4 : IntKind.u32.wrap hi = hi := u32_in hi (by omega) (by omega)
      have f6 : hi % 4294967296 = hi := by omega
      have i0 : (0 : Int) ≤ (I : Int) + (K : Int) := by omega
      have i1 : (I : Int) + (K : Int) < ((I + K + 2 : Nat) : Int) := by omega
      have i2 : (I : Int) + (K : Int) + 1 < ((I + K + 2 : Nat) : Int) := by omega
      clear hP hn1 hn2 hl1 hl2 ez
      go_wp2_with (first
        | (go_at_call 16; (with_reducible refine (HP.out).mono ?_); rintro e x3 ⟨b, off, cc, rfl, hz0, hc1, hc2, hb⟩; have B3 := Lib.hid (B2.out.trans (hb.mono B2.out.size)); have HZ := Lib.hid hz0; have hc3 := hc2 (Nat.le_refl _); clear hz0 hb hc2))
      go_loop [17] (fun s => ∃ k : Nat, k ≤ I + K ∧ s = .int .i64 k) (fun s => I + K - (intOf s).toNat)
      case atStart => exact ⟨0, by omega, rfl⟩
      case round =>
        obtain ⟨k, hk, rfl⟩ := hrel
        by_cases h0 : k = I + K
        · have j1 : (k : Int) = (I : Int) + (K : Int) := by omega
          rw [j1]
          clear h0 j1 hk
          go_wp2_with fail
          go_ret
          exact ⟨rfl, B3.out⟩
        · have hck := HZ.out k (by omega)
          have j0 : (0 : Int) ≤ (k : Int) := by omega
          have j1 : (k : Int) < (I : Int) + (K : Int) := by omega
          have j2 : (k : Int) < ((I + K + 2 : Nat) : Int) := by omega
          clear h0
          go_wp2_with fail
          exact ⟨⟨k + 1, by omega, by go_num⟩, by simp [intOf]; omega⟩
    · have hP := mul_long A B ca cb _ _ _ _ x2 hn1 hn2 (by rw [ez]; exact long2 hh (by omega))
      rw [hl1, hl2] at hP
      have HP := Lib.hid hP
      have i1 : (1024 : Int) < (I : Int) + (K : Int) + 1 + 1 := by omega
      clear hP hn1 hn2 hl1 hl2 ez
      go_wp2_with (first
        | (go_at_call 16; (with_reducible refine (HP.out).mono ?_); rintro e x3 ⟨rfl, hb⟩; have B3 := Lib.hid (B2.out.trans (hb.mono B2.out.size)); clear hb))
      go_ret
      exact ⟨rfl, B3.out⟩

end Go.Proofs.YtgcfmkelanhdhaaDoor
