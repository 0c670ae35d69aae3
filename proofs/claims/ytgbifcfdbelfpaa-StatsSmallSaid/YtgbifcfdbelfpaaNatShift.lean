/-
  The walks of nat.shifted and nat.putBack.
-/
import Derived.Test.YtgbifcfdbelfpaaNatTake
namespace Go.Proofs.Ytgbifcfdbelfpaa
open Go.RowKit
set_option linter.unusedVariables false

theorem pow_bd (s : Nat) (h : s ≤ 31) : 1 ≤ (2 : Int) ^ s ∧ (2 : Int) ^ s ≤ 2147483648 := by
  have h1 : 2 ^ s ≤ 2 ^ 31 := Nat.pow_le_pow_right (by omega) h
  have h2 : 0 < 2 ^ s := Nat.pow_pos (by omega)
  have h3 : ((2 ^ s : Nat) : Int) = (2 : Int) ^ s := by simp
  have h4 : 2 ^ 31 = 2147483648 := rfl
  omega
theorem AccW.fin {W w w1 : World} {g b : Nat} {p s : List Value} {m q : List Int} {c X : Int} (h : AccW W w g b p s m q c X) (hgb : g ≠ b) (hb : W.heap.size ≤ b) (hgr : w.grownBy w1 (some b)) (hq : q.length < m.length) {i : Nat} (hi : i = p.length + q.length) :
    Blk (w1.setCell ⟨g, i, none⟩ (.int .u32 c)) g p (q ++ [c] ++ m.drop (q.length + 1)) s ∧ W.grownBy (w1.setCell ⟨g, i, none⟩ (.int .u32 c)) (some g) ∧ Na.V (q ++ [c]) = X := by
  obtain ⟨h1, h2⟩ := h.last hgb hb hgr
  refine ⟨?_, grown_then h2 (grown_set _ _ _) (fun k hk => by cases hk; exact .inr rfl), ?_⟩
  · have := h1.set q.length (by simp; omega) c hi
    rwa [Na.set_win rfl hq] at this
  · rw [Na.V_snoc, ← h.val]; grind
def PostShift (n : Nat) (z : Int) (w : World) (e : Ending) (w' : World) : Prop :=
  ∃ g L, e = .returned (.slice (some ⟨g, 0, none⟩) n n) ∧ L.length = n ∧ Blk w' g [] L [] ∧ Na.Dg L ∧ Na.V L = z ∧ w.heap.size ≤ g ∧ Below w.heap.size w w'

set_option maxRecDepth 100000 in
set_option maxHeartbeats 1000000 in
theorem shifted_any (A : Option Addr) (ca : Nat) (l : List Int) (s : Nat) (w : World) (hr : RdK .u32 w A l) (hd : Na.Dg l) (hl : l.length ≤ 1024) (hs : s ≤ 31) :
    Calls Try.prog 108 #[.slice A l.length ca, .int .i64 s] w (PostShift (l.length + 1) (Na.V l * 2 ^ s) w) := by
  obtain ⟨p0, p1⟩ := pow_bd s hs
  have Hr := Lib.hid hr; clear hr
  go_enter Try.func108, Try.ntmps108
  go_wp2_with (at_make; refine wpList_mk _ rfl _ _ rfl (l.length + 1) _ _ rfl rfl ?c1 ?c2 ?c3 ?_)
  case c1 => first | rfl | omega
  case c2 => first | rfl | omega
  case c3 => omega
  intro w1 hB hG
  have HB := Lib.hid hB; have HG := Lib.hid hG; clear hB hG
  go_wp2_with (go_at_call 60; refine (carrying_any _ _).mono ?_; rintro e w2 ⟨rfl, h2⟩; have H2 := Lib.hid h2; clear h2)
  obtain ⟨b, hb⟩ : ∃ b, w1.heap.size = b := ⟨_, rfl⟩
  rw [hb]
  have hlt := HB.out.lt
  have hA : AccW w w2 w.heap.size b [] [] (List.replicate (l.length + 1) 0) [] 0 0 := by
    subst hb
    have h2 := H2.out
    subst h2
    have := AccW.start HB.out (grown_then (grown_refl w _) HG.out (fun k hk => by cases hk)) HG.out.size 0 (by omega) (Na.Dg.take (Na.Dg.rep _) 0) (by omega) (show (0 : Int) < 4294967296 by omega)
    simpa [Na.V] using this
  have hgb : w.heap.size ≠ b := by omega
  have hbw : w.heap.size ≤ b := by omega
  have HA := Lib.hid hA; clear hA HB HG H2 hlt hb
  go_wp2_with fail
  go_loopw [16] (fun i wr => ∃ (k : Nat) (q : List Int) (c : Int), k ≤ l.length ∧ i = .int .i64 k ∧ Hid (q.length = k) ∧ Hid (AccW w wr w.heap.size b [] [] (List.replicate (l.length + 1) 0) q c (Na.V (l.take k) * 2 ^ s))) (fun i _ => l.length - (intOf i).toNat)
  case atStart => exact ⟨0, [], 0, by omega, rfl, Lib.hid rfl, Lib.hid (by simpa [Na.V] using HA.out)⟩
  case round =>
    obtain ⟨k, q, c, hk, rfl, HQ, HS⟩ := hrel
    by_cases h0 : k = l.length
    · have hS := HS.out
      have hq := HQ.out
      have nx := next_any 0 c b wr hS.one (by omega) hS.c0 (by have := hS.c1; omega)
      rw [Int.zero_add, Int.emod_eq_of_lt hS.c0 hS.c1] at nx
      have fin := fun w3 (hgr : wr.grownBy w3 (some b)) => hS.fin hgb hbw hgr (by simp; omega) (i := l.length) (by simp; omega)
      have hcc := fun w3 (hgr : wr.grownBy w3 (some b)) => hS.cell hgr (by simpa using hgb) l.length (by omega) (by simp) (i := l.length) (by simp)
      have hcf := fun w3 (hgr : wr.grownBy w3 (some b)) => hS.free hgr (by simpa using hgb) l.length
      have NX := Lib.hid nx; have FIN := Lib.hid fin; have HCC := Lib.hid hcc; have HCF := Lib.hid hcf
      have j1 : (l.length : Int) < ((l.length + 1 : Nat) : Int) := by omega
      subst h0
      clear nx fin hcc hcf hS hq
      go_wp2_with (go_at_call 82; (with_reducible refine NX.out.mono ?_); rintro e w3 ⟨rfl, -, hgr⟩; have hd1 := HCC.out w3 hgr; have hd2 := HCF.out w3 hgr; have HST := Lib.hid (FIN.out w3 hgr); clear hgr)
      go_ret
      obtain ⟨f1, f2, f3⟩ := HST.out
      have hqd := HS.out.dg.snoc HS.out.c0 HS.out.c1
      rw [List.drop_of_length_le (by simp [HQ.out]), List.append_nil] at f1
      exact ⟨w.heap.size, q ++ [c], rfl, by simp [HQ.out], f1, hqd, by rw [f3, List.take_length], Nat.le_refl _, (Below.refl w.heap.size w).grown f2 (Nat.le_refl _) (fun k hk => by cases hk; exact Nat.le_refl _)⟩
    · have hB := (Below.refl w.heap.size w).grown HS.out.frm (Nat.le_refl _) (fun k hk => by cases hk; exact Nat.le_refl _)
      obtain ⟨b2, off2, rfl, hbl2, hc⟩ := (Hr.out.below hB) (by omega)
      have hc3 := hc k (by omega); clear hc
      obtain ⟨v0, v1⟩ := hd.at k
      have hvk := Na.V_take l k
      generalize l.getD k 0 = v at *
      have hS := HS.out
      have HVK := Lib.hid hvk
      have j2 : (0 : Int) ≤ (k : Int) := by omega
      have j3 : (k : Int) < (l.length : Int) := by omega
      have j4 : (k : Int) < ((l.length + 1 : Nat) : Int) := by omega
      have n0 : 0 ≤ v * 2 ^ s := Int.mul_nonneg v0 (by omega)
      have n1 : v * 2 ^ s ≤ 4294967295 * 2147483648 := Int.mul_le_mul (by omega) p1 (by omega) (by omega)
      have f1 : IntKind.u64.wrap (v * 2 ^ s) = v * 2 ^ s := u64_in _ n0 (by omega)
      have nx := next_any (v * 2 ^ s) c b wr hS.one n0 hS.c0 (by have := hS.c1; omega)
      have st := fun w3 => hS.step (w1 := w3) (x := v * 2 ^ s) (by rw [HQ.out]; simp; omega) n0 (by omega) hgb hbw (i := k) (hi := by simp [HQ.out])
      have hcc := fun w3 (hgr : wr.grownBy w3 (some b)) => hS.cell hgr (by simpa using hgb) k (by rw [HQ.out]; omega) (by simp; omega) (i := k) (by simp)
      have hcf := fun w3 (hgr : wr.grownBy w3 (some b)) => hS.free hgr (by simpa using hgb) k
      have NX := Lib.hid nx; have ST := Lib.hid st; have HCC := Lib.hid hcc; have HCF := Lib.hid hcf
      clear h0 hB hvk hS nx st hcc hcf
      go_wp2_with (go_at_call 82; (with_reducible refine NX.out.mono ?_); rintro e w3 ⟨rfl, ho, hgr⟩; have hd1 := HCC.out w3 hgr; have hd2 := HCF.out w3 hgr; have HST := Lib.hid (ST.out w3 ho hgr); clear ho hgr)
      have hst := HST.out
      rw [HQ.out, show Na.V (l.take k) * 2 ^ s + Na.Bp k * (v * 2 ^ s) = Na.V (l.take (k + 1)) * 2 ^ s by rw [HVK.out]; grind] at hst
      exact ⟨⟨k + 1, _, _, by omega, by go_num, Lib.hid (by rw [List.length_append, HQ.out]; rfl), Lib.hid hst⟩, by simp [intOf]; omega⟩

end Go.Proofs.Ytgbifcfdbelfpaa
