/-
  The walk of nat.shiftedBack.
-/
import Derived.Test.YtgbifcfdbelfpaaNatOften
import Derived.BigRegion
import Derived.Deep.RegionWith
namespace Go.Proofs.Ytgbifcfdbelfpaa
open Go.RowKit
set_option linter.unusedVariables false

theorem pow_two (s : Nat) (hs : s ≤ 31) : (2 : Int) ^ s * 2 ^ (32 - s) = 4294967296 := by
  have : (2 : Int) ^ s * 2 ^ (32 - s) = 2 ^ (s + (32 - s)) := (Int.pow_add 2 s (32 - s)).symm
  rw [this, show s + (32 - s) = 32 by omega]; rfl
theorem back_at (s : Nat) (hs : s ≤ 31) (z v : Int) (z0 : 0 ≤ z) (z1 : z < 4294967296) (v0 : 0 ≤ v) (v1 : v < 4294967296) :
    IntKind.u32.wrap (v * 2 ^ (32 - s)) = v % 2 ^ s * 2 ^ (32 - s) ∧ 0 ≤ z / 2 ^ s ∧ bits .or .u32 (z / 2 ^ s) (v % 2 ^ s * 2 ^ (32 - s)) = z / 2 ^ s + v % 2 ^ s * 2 ^ (32 - s) ∧ 0 ≤ z / 2 ^ s + v % 2 ^ s * 2 ^ (32 - s) ∧ z / 2 ^ s + v % 2 ^ s * 2 ^ (32 - s) < 4294967296 := by
  have hp := (pow_bd s hs).1
  have hh := pow_two s hs
  have hpos : 0 < (2 : Int) ^ (32 - s) := Int.pow_pos (by omega)
  obtain ⟨a1, a2, a3, a4⟩ := Na.shr_dg (2 ^ s) (2 ^ (32 - s)) (by omega) hh hpos ⟨z0, z1⟩ ⟨v0, v1⟩
  have b0 := Int.emod_nonneg v (show (2 : Int) ^ s ≠ 0 by omega)
  refine ⟨?_, a1, or_u32 _ _ (32 - s) (by omega) b0 (by omega) a1 a2, by omega, a4⟩
  have : IntKind.u32.wrap (v * 2 ^ (32 - s)) = (v * 2 ^ (32 - s)) % 4294967296 := by simp [IntKind.wrap, IntKind.bits, IntKind.signed]
  rw [this, ← hh, Int.mul_comm v, Int.mul_comm (2 ^ s), Int.mul_emod_mul_of_pos _ _ hpos, Int.mul_comm]
def PostBack (g n : Nat) (s : List Value) (P : Int) (m : List Int) (w : World) (e : Ending) (w' : World) : Prop :=
  ∃ q, e = .returned (.slice (some ⟨g, 0, none⟩) n (n + s.length)) ∧ q.length = n ∧ Blk w' g [] q s ∧ Na.Dg q ∧ Na.V q = Na.V m / P ∧ w.grownBy w' (some g)

set_option maxRecDepth 100000 in
set_option maxHeartbeats 4000000 in
theorem shiftedBack_any (g : Nat) (sp : List Value) (m : List Int) (s : Nat) (w : World) (hb : Blk w g [] m sp) (hd : Na.Dg m) (hm : m.length ≤ 2000) (hs : s ≤ 31) :
    Calls Try.prog 110 #[.slice (some ⟨g, 0, none⟩) m.length (m.length + sp.length), .int .i64 s] w (PostBack g m.length sp (2 ^ s) m w) := by
  have HB := Lib.hid hb; clear hb
  go_enter Try.func110, Try.ntmps110
  go_wp2_with fail
  go_loopw [8] (fun i wr => ∃ (k : Nat) (q : List Int), k ≤ m.length ∧ i = .int .i64 k ∧ Hid (q.length = k) ∧ Hid (Na.Dg q) ∧ Hid (∀ j, j < k → q.getD j 0 = m.getD j 0 / 2 ^ s + m.getD (j + 1) 0 % 2 ^ s * 2 ^ (32 - s)) ∧ Hid (Blk wr g [] (q ++ m.drop k) sp) ∧ Hid (w.grownBy wr (some g))) (fun i _ => m.length - (intOf i).toNat)
  case atStart => exact ⟨0, [], by omega, rfl, Lib.hid rfl, Lib.hid Na.Dg.nil, Lib.hid (fun j hj => by omega), Lib.hid (by simpa using HB.out), Lib.hid (grown_refl _ _)⟩
  case round =>
    obtain ⟨k, q, hk, rfl, HQ, HD, HA, HBk, HG⟩ := hrel
    by_cases h0 : k = m.length
    · have hv := Na.shr_val (2 ^ s) (2 ^ (32 - s)) (by have := (pow_bd s hs).1; omega) (pow_two s hs) m hd q (by rw [HQ.out, h0]) (by rw [← h0]; exact HA.out)
      have hb2 := HBk.out
      rw [h0, List.drop_length, List.append_nil] at hb2
      have HV := Lib.hid hv; have HB2 := Lib.hid hb2
      subst h0
      clear hv hb2
      go_wp2_with fail
      go_ret
      exact ⟨q, rfl, HQ.out, HB2.out, HD.out, HV.out, HG.out⟩
    · have hc1 : wr.cell? ⟨g, k, none⟩ = some (.int .u32 (m.getD k 0)) := by
        have := HBk.out.cell k (by simp [HQ.out]; omega) (i := k) (by simp)
        rw [this, Na.get_win0 HQ.out]
      have hc2 := HBk.out.free k
      have q1 : Calls Try.prog 61 #[.slice (some ⟨g, 0, none⟩) m.length (m.length + sp.length), .int .i64 ((k : Int) + 1)] wr.drew fun e w' => e = .returned (.int .u32 (m.getD (k + 1) 0)) ∧ w' = wr.drew := by
        have h1 := limb_any (some ⟨g, 0, none⟩) (m.length + sp.length) (q ++ m.drop k) (k + 1) wr.drew (Blk.rd (w := wr.drew) HBk.out rfl) (by simp [HQ.out]; omega)
        rw [Na.get_win 1 HQ.out, Na.len_win HQ.out hk] at h1
        exact h1.mono fun e w' h => ⟨h.1, h.2.symm⟩
      obtain ⟨z0, z1⟩ := hd.at k
      obtain ⟨v0, v1⟩ := hd.at (k + 1)
      obtain ⟨z, hz⟩ : ∃ z, z = m.getD k 0 := ⟨_, rfl⟩
      obtain ⟨v, hv⟩ : ∃ v, v = m.getD (k + 1) 0 := ⟨_, rfl⟩
      rw [← hz] at hc1 z0 z1
      rw [← hv] at q1 v0 v1
      have Q1 := Lib.hid q1
      have j2 : (0 : Int) ≤ (k : Int) := by omega
      have j3 : (k : Int) < (m.length : Int) := by omega
      have f1 : IntKind.i64.wrap ((k : Int) + 1) = (k : Int) + 1 := IntWalk.i64_in _ (by omega)
      have f2 : IntKind.i64.wrap (32 - (s : Int)) = 32 - (s : Int) := IntWalk.i64_in _ (by omega)
      have f3 : (0 : Int) ≤ 32 - (s : Int) := by omega
      obtain ⟨e1, e2, e3, e4, e5⟩ := back_at s hs z v z0 z1 v0 v1
      obtain ⟨X, hX⟩ : ∃ X, z / 2 ^ s + v % 2 ^ s * 2 ^ (32 - s) = X := ⟨_, rfl⟩
      rw [hX] at e3 e4 e5
      have HX := Lib.hid hX
      have st : Blk (wr.setCell ⟨g, k, none⟩ (.int .u32 X)) g [] ((q ++ [X]) ++ m.drop (k + 1)) sp := by
        have := HBk.out.set k (by simp [HQ.out]; omega) X (i := k) (by simp)
        rwa [Na.set_win HQ.out (by omega)] at this
      have sg := grown_then HG.out (grown_set wr ⟨g, k, none⟩ (.int .u32 X)) (fun j hj => by cases hj; exact .inr rfl)
      have ST := Lib.hid st; have SG := Lib.hid sg
      have hat : ∀ j, j < k + 1 → (q ++ [X]).getD j 0 = m.getD j 0 / 2 ^ s + m.getD (j + 1) 0 % 2 ^ s * 2 ^ (32 - s) := by
        intro j hj
        rcases Nat.lt_or_ge j k with c | c
        · rw [List.getD_eq_getElem?_getD, List.getElem?_append_left (by rw [HQ.out]; exact c), ← List.getD_eq_getElem?_getD]
          exact HA.out j c
        · obtain rfl : j = k := by omega
          rw [List.getD_eq_getElem?_getD, List.getElem?_append_right (by rw [HQ.out]; exact Nat.le_refl _), HQ.out, Nat.sub_self, ← hz, ← hv]
          simp [HX.out]
      have HAT := Lib.hid hat
      clear h0 q1 st sg hat hX hz hv
      go_wp2_with fail
      go_region_with (go_at_call 61; (with_reducible refine Q1.out.mono ?_); rintro e w' ⟨rfl, rfl⟩)
      all_goals
        go_wp2
        exact ⟨⟨k + 1, q ++ [X], by omega, by go_num, Lib.hid (by simp [HQ.out]), Lib.hid (HD.out.snoc e4 e5), HAT, Lib.hid (Blk.kept ST.out (grown_drew _ none) (by simp)), Lib.hid (grown_then SG.out (grown_drew _ none) (fun j hj => by cases hj))⟩, by simp [intOf]; omega⟩

end Go.Proofs.Ytgbifcfdbelfpaa
