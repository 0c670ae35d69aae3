/-
  The law's weights of a list.
-/
import Derived.Test.YtbbmpjndalkgbaaDoorMonSums
namespace Go.Proofs.YtbbmpjndalkgbaaDoor
open Go.RowKit
set_option linter.unusedVariables false

def wgs (zs : List Int) (k : Nat) : List Int := (zs.take k).map fun z => z % 1000001
theorem wgs_succ (zs : List Int) (k : Nat) (h : k < zs.length) : wgs zs (k + 1) = wgs zs k ++ [zs.getD k 0 % 1000001] := by
  unfold wgs; rw [Mo.take_snoc zs k h]; simp
theorem wgs_len (zs : List Int) (k : Nat) (h : k ≤ zs.length) : (wgs zs k).length = k := by unfold wgs; rw [List.length_map, List.length_take]; omega
theorem wgs_wts (zs : List Int) (k : Nat) : Mo.wts (wgs zs k) = true := by
  unfold wgs Mo.wts
  rw [List.all_eq_true]
  intro x hx
  obtain ⟨z, -, rfl⟩ := List.mem_map.1 hx
  exact decide_eq_true (by omega)
def PostW (w : World) (e : Ending) (w' : World) : Prop :=
  ∃ A cap ws, e = .returned (.slice A ws.length cap) ∧ Rd w' A ws ∧ Mo.wts ws = true ∧ 0 < Mo.sumZ ws ∧ ws.length ≤ 4096 ∧ Below w.heap.size w w'

set_option maxRecDepth 100000 in
set_option maxHeartbeats 1500000 in
theorem weights_any (w : World) (A0 : Option Addr) (cap0 : Nat) (zs : List Int) (hd : RdK .u32 w A0 zs) (hz : ∀ i, i < zs.length → 0 ≤ zs.getD i 0 ∧ zs.getD i 0 ≤ 4294967295) (hl : zs.length ≤ 9223372036854775807) :
    Calls Tryd.prog 14 #[.slice A0 zs.length cap0] w (PostW w) := by
  have D0 := Lib.hid hd; have HZ := Lib.hid hz
  clear hd hz
  go_enter Tryd.func14, Tryd.ntmps14
  go_wp2_with fail
  go_loopw [3, 4, 5] (fun v s i wr => ∃ k : Nat, k ≤ zs.length ∧ k ≤ 4096 ∧ i = .int .i64 k ∧ s = .int .i64 (Mo.sumZ (wgs zs k)) ∧ Hid (wr.ownsRow w.heap.size 3 1 v (wgs zs k).length ((wgs zs k).map (Value.int .i64))) ∧ Hid (Below w.heap.size w wr)) (fun _ _ i _ => 4096 - (intOf i).toNat)
  case atStart => exact ⟨0, by omega, by omega, rfl, rfl, Lib.hid (World.ownsRow_nil _ _ _ _), Lib.hid (Below.refl _ _)⟩
  case round =>
    obtain ⟨k, hk, hk2, rfl, rfl, HO, HB⟩ := hrel
    have hsn := Mo.wts_sum (wgs_wts zs k)
    rw [wgs_len zs k hk] at hsn
    by_cases h12 : k < zs.length ∧ k < 4096
    · obtain ⟨h1, h2⟩ := h12
      obtain ⟨b, off, rfl, hbl, hc⟩ := (D0.out.below HB.out) (by omega)
      have hc1 := hc k h1; clear hc
      have hz := HZ.out k h1
      have hsc := wgs_succ zs k h1
      have hln := wgs_len zs k hk
      have hsz := HB.out.size
      have hse : Mo.sumZ (wgs zs (k + 1)) = Mo.sumZ (wgs zs k) + zs.getD k 0 % 1000001 := by rw [hsc, Mo.sumZ_append]; simp [Mo.sumZ]
      generalize zs.getD k 0 = z at *
      have HS := Lib.hid hsc; have HL := Lib.hid hln; have HE := Lib.hid hse
      clear hsc hln hse
      generalize hS : Mo.sumZ (wgs zs k) = S at *
      obtain ⟨z0, z1⟩ := hz
      obtain ⟨s0, s1⟩ := hsn
      have g1 : (k : Int) < zs.length := by omega
      have g2 : (k : Int) < 4096 := by omega
      go_wp2_with (first
        | (at_builtin; refine wpList_app1 _ rfl (.tmp 16) (.tmp 23) rfl w.heap.size _ (wgs zs k) (by rfl) (HO.out.alloc _) wr.heap.size (z % 1000001) (by rfl) (by go_simp) ?c1 ?c2 ?_))
      case c1 => rw [HL.out]; omega
      case c2 => simp; omega
      intro v' w3 hown3 hgrow3
      have hown4 : w3.ownsRow w.heap.size 3 1 v' (wgs zs (k + 1)).length ((wgs zs (k + 1)).map (Value.int .i64)) := by rw [HS.out]; simpa using hown3
      have HB3 := Lib.hid (own_below (HB.out.alloc hsz _) (Nat.le_refl _) (HO.out.alloc _) hgrow3)
      clear hown3 hgrow3
      rcases own_rd2 hown4 with ⟨-, hno⟩ | ⟨g, cp, rfl, hcp, hcp2, hr⟩
      · rw [HS.out] at hno; simp at hno
      have HO3 := Lib.hid hown4
      obtain ⟨b', off', he, -, hc⟩ := hr.at (by rw [HS.out]; simp)
      obtain ⟨rfl, rfl⟩ : g = b' ∧ 0 = off' := by simpa using he
      have hc2 := hc k (by rw [HS.out]; simp [HL.out]); clear hc he hr
      rw [Nat.zero_add, HS.out, Mo.getD_at' (wgs zs k) [] _ k HL.out] at hc2
      have hlen : (wgs zs (k + 1)).length = k + 1 := by rw [HS.out]; simp [HL.out]
      rw [hlen] at hcp
      have HO4 : Hid (w3.ownsRow w.heap.size 3 1 (.slice (some ⟨g, 0, none⟩) (k + 1) cp) (wgs zs (k + 1)).length ((wgs zs (k + 1)).map (Value.int .i64))) := by rw [hlen] at HO3 ⊢; exact HO3
      rw [hlen]
      clear hown4 HO3 HO hlen
      go_wp2
      exact ⟨⟨k + 1, by omega, by omega, by go_num, by rw [HE.out], HO4, HB3⟩, by simp [intOf]; omega⟩
    · have gF : decide (k < zs.length) = false ∨ (decide (k < zs.length) = true ∧ decide ((k : Int) < 4096) = false) := by
        by_cases c : k < zs.length
        · exact .inr ⟨decide_eq_true c, decide_eq_false (by omega)⟩
        · exact .inl (decide_eq_false c)
      have hw := wgs_wts zs k
      have hln := wgs_len zs k hk
      generalize wgs zs k = ws at *
      obtain ⟨s0, s1⟩ := hsn
      obtain ⟨A, cap, hv, hcap, hrd⟩ := own_rd HO.out
      subst hv
      have HR := Lib.hid hrd; have HW := Lib.hid hw
      clear hrd hw
      have gS : (Mo.sumZ ws == 0) = true ∨ ((Mo.sumZ ws == 0) = false ∧ 0 < Mo.sumZ ws) := by
        by_cases c : Mo.sumZ ws = 0
        · exact .inl (by rw [beq_iff_eq]; exact c)
        · exact .inr ⟨by rw [beq_eq_false_iff_ne]; exact c, by omega⟩
      rcases gF with f1 | ⟨f1, f2⟩ <;> rcases gS with g1 | ⟨g1, g2⟩
      all_goals
        go_wp2_with fail
        go_ret
        first
          | exact ⟨A, cap, ws, rfl, HR.out, HW.out, g2, by omega, HB.out⟩
          | exact ⟨some ⟨wr.heap.size, 0, none⟩, 1, [1], rfl, rd_new wr [1] 3, by decide, by decide, by decide, HB.out.alloc HB.out.size _⟩

end Go.Proofs.YtbbmpjndalkgbaaDoor
