/-
  The walk of nat.takeGroup.
-/
import Derived.Test.YtgcfmkelanhdhaaDoorNatPow
namespace Go.Proofs.YtgcfmkelanhdhaaDoor
open Go.RowKit
set_option linter.unusedVariables false

def PostGroup (g : Nat) (s : List Value) (m : List Int) (w : World) (e : Ending) (w' : World) : Prop :=
  ∃ q r, e = .returned (.int .u32 r) ∧ Blk w' g [] q s ∧ q.length = m.length ∧ Na.Dg q ∧ 0 ≤ r ∧ r < 1000000000 ∧ Na.V q * 1000000000 + r = Na.V m ∧ w.grownBy w' (some g)

set_option maxRecDepth 100000 in
set_option maxHeartbeats 2000000 in
theorem takeGroup_any (g ca : Nat) (s : List Value) (m : List Int) (w : World) (hb : Blk w g [] m s) (hd : Na.Dg m) (hm : m.length ≤ 2000) :
    Calls Tryd.prog 45 #[.slice (some ⟨g, 0, none⟩) m.length ca] w (PostGroup g s m w) := by
  have HB := Lib.hid hb; clear hb
  go_enter Tryd.func45, Tryd.ntmps45
  go_wp2_with fail
  go_loopw [3, 4] (fun r i wr => ∃ (k : Nat) (d : List Int) (R : Int), k ≤ m.length ∧ i = .int .i64 ((k : Int) - 1) ∧ r = .int .u64 R ∧ 0 ≤ R ∧ R < 1000000000 ∧ Hid (k + d.length = m.length) ∧ Hid (Na.Dg d) ∧ Hid (Na.V d * 1000000000 + R = Na.V (m.drop k)) ∧ Hid (Blk wr g [] (m.take k ++ d) s) ∧ Hid (w.grownBy wr (some g))) (fun _ i _ => (intOf i + 1).toNat)
  case atStart => exact ⟨m.length, [], 0, Nat.le_refl _, by first | rfl | go_num, rfl, by omega, by omega, Lib.hid rfl, Lib.hid Na.Dg.nil, Lib.hid (by rw [List.drop_length]; rfl), Lib.hid (by rw [List.take_length, List.append_nil]; exact HB.out), Lib.hid (grown_refl _ _)⟩
  case round =>
    obtain ⟨k, d, R, hk, rfl, rfl, r0, r1, HL, HD, HV, HBk, HG⟩ := hrel
    by_cases h0 : k = 0
    · subst h0
      have hb := HBk.out
      rw [List.take_zero, List.nil_append] at hb
      have hv := HV.out
      rw [List.drop_zero] at hv
      have HB2 := Lib.hid hb; have HV2 := Lib.hid hv
      clear hb hv
      go_wp2_with fail
      go_ret
      exact ⟨d, R, rfl, HB2.out, by have := HL.out; omega, HD.out, r0, r1, HV2.out, HG.out⟩
    · obtain ⟨j, rfl⟩ : ∃ j, k = j + 1 := ⟨k - 1, by omega⟩
      have e1 : ((j + 1 : Nat) : Int) - 1 = (j : Int) := by omega
      rw [e1]
      have hc1 : wr.cell? ⟨g, j, none⟩ = some (.int .u32 (m.getD j 0)) := by
        have := HBk.out.cell j (by have := HL.out; simp; omega) (i := j) (by simp)
        rw [this, Na.get_top (by omega)]
      have hc2 := HBk.out.free j
      obtain ⟨z0, z1⟩ := hd.at j
      have hvd := Na.V_drop m j (by omega)
      have hst := fun v => HBk.out.set j (by have := HL.out; simp; omega) v (i := j) (by simp)
      generalize m.getD j 0 = z at *
      have hor := or_u64 R z r0 (by omega) z0 z1
      have f1 : IntKind.u64.wrap (R * 4294967296) = R * 4294967296 := u64_in _ (by omega) (by omega)
      have f2 : IntKind.u64.wrap z = z := u64_in _ (by omega) (by omega)
      obtain ⟨n, hn⟩ : ∃ n, R * 4294967296 + z = n := ⟨_, rfl⟩
      have hn0 : 0 ≤ n := by omega
      have hn1 : n < 4294967296000000000 := by omega
      have hd9 := Na.div9 (x := z) HV.out
      rw [hn] at hd9 hor
      rw [← hvd] at hd9
      have j0 : (0 : Int) ≤ (j : Int) := by omega
      have j1 : (j : Int) < (m.length : Int) := by omega
      have HST := Lib.hid hst; have HD9 := Lib.hid hd9
      clear h0 e1 hst hd9 hvd hd
      go_wp2_with fail
      have hb3 := HST.out (n / 1000000000)
      rw [Na.set_top (by omega)] at hb3
      exact ⟨⟨j, (n / 1000000000) :: d, n % 1000000000, by omega, rfl, rfl, by omega, by omega, Lib.hid (by have := HL.out; simp; omega), Lib.hid (Na.Dg.cons.2 ⟨⟨by omega, by omega⟩, HD.out⟩), HD9, Lib.hid hb3, Lib.hid (grown_then HG.out (grown_set _ _ _) (fun k hk => by cases hk; exact .inr rfl))⟩, by simp [intOf]⟩

end Go.Proofs.YtgcfmkelanhdhaaDoor
