/-
  The kit's SameLimbs and CopyLimbs; the law's number, same and less.
-/
import Derived.Test.YtgcfmkelanhdhaaDoorNatCmp
import Derived.Laws.AppendOwnNone
namespace Go.Proofs.YtgcfmkelanhdhaaDoor
open Go.RowKit
set_option linter.unusedVariables false

theorem infoU32 : (Tryd.prog.info? 48).map (fun i => (i.zero, i.size, i.bytes)) = some (some (.int .u32 0), 1, 4) := by kernel_rfl

set_option maxHeartbeats 1000000 in
theorem same_any (A B : Option Addr) (ca cb : Nat) (l m : List Int) (w : World) (hr : RdK .u32 w A l) (hs : RdK .u32 w B m) (hl : l.length ≤ 9223372036854775807) (hm : m.length ≤ 9223372036854775807) :
    Calls Tryd.prog 40 #[.slice A l.length ca, .slice B m.length cb] w fun e w' => e = .returned (.bool (decide (l = m))) ∧ Below w.heap.size w w' := by
  by_cases h : l.length = m.length
  · have hne : ((l.length : Int) != (m.length : Int)) = false := by rw [bne_eq_false_iff_eq]; omega
    have Hr := Lib.hid hr; have Hs := Lib.hid hs; have HL := Lib.hid h; clear hr hs h
    go_enter Tryd.func40, Tryd.ntmps40
    go_wp2_with fail
    go_loopw [5] (fun i wr => ∃ k : Nat, k ≤ l.length ∧ i = .int .i64 k ∧ Hid (l.take k = m.take k) ∧ Hid (Below w.heap.size w wr)) (fun i _ => l.length - (intOf i).toNat)
    case atStart => exact ⟨0, by omega, rfl, Lib.hid (by simp), Lib.hid (Below.refl _ _)⟩
    case round =>
      obtain ⟨k, hk, rfl, HD, HB⟩ := hrel
      have hl2 := HL.out
      by_cases h0 : k = l.length
      · have hd := HD.out
        rw [h0, List.take_length, hl2, List.take_length] at hd
        have HZ := Lib.hid (decide_eq_true hd)
        clear hd hl2
        subst h0
        go_wp2_with fail
        go_ret
        exact ⟨ret_bool HZ.out.symm, HB.out⟩
      · obtain ⟨b, off, rfl, hbl, hc⟩ := Hr.out.below HB.out (by omega)
        obtain ⟨b2, off2, rfl, hbl2, hc2⟩ := Hs.out.below HB.out (by omega)
        have hc1 := hc k (by omega); clear hc
        have hc3 := hc2 k (by omega); clear hc2
        have hn : l.getD k 0 = m.getD k 0 → l.take (k + 1) = m.take (k + 1) := fun e => by rw [Na.take_snoc l k (by omega), Na.take_snoc m k (by omega), e, HD.out]
        have hn2 : l.getD k 0 ≠ m.getD k 0 → decide (l = m) = false := fun e => decide_eq_false (fun x => e (by rw [x]))
        have HN := Lib.hid hn; have HN2 := Lib.hid hn2
        clear hn hn2
        generalize l.getD k 0 = u at *
        generalize m.getD k 0 = v at *
        have i0 : (0 : Int) ≤ (k : Int) := by omega
        have i1 : (k : Int) < (l.length : Int) := by omega
        have i2 : (k : Int) < (m.length : Int) := by omega
        clear hl2 h0
        by_cases hu : u = v
        · subst hu
          have f1 : (u != u) = false := by rw [bne_eq_false_iff_eq]
          go_wp2_with fail
          go_quiet (fail)
          go_wp2
          exact ⟨⟨k + 1, by omega, by go_num, Lib.hid (HN.out (by simp)), Lib.hid (below_drewN HB.out nq)⟩, by simp [intOf]; omega⟩
        · have f1 : (u != v) = true := by rw [bne_iff_ne]; exact hu
          go_wp2_with fail
          go_quiet (fail)
          go_wp2_with fail
          go_ret
          exact ⟨ret_bool (HN2.out hu).symm, below_drewN HB.out _⟩
  · have hne : ((l.length : Int) != (m.length : Int)) = true := by rw [bne_iff_ne]; omega
    have HZ := Lib.hid (show decide (l = m) = false from decide_eq_false (fun x => h (by rw [x])))
    clear hr hs h
    go_enter Tryd.func40, Tryd.ntmps40
    go_wp2_with fail
    go_ret
    exact ⟨ret_bool HZ.out.symm, Below.refl _ _⟩
theorem sameL_any (A B : Option Addr) (ca cb : Nat) (l m : List Int) (w : World) (hr : RdK .u32 w A l) (hs : RdK .u32 w B m) (hl : l.length ≤ 9223372036854775807) (hm : m.length ≤ 9223372036854775807) :
    Calls Tryd.prog 20 #[.slice A l.length ca, .slice B m.length cb] w fun e w' => e = .returned (.bool (decide (l = m))) ∧ Below w.heap.size w w' := by
  have hq := same_any A B ca cb l m w hr hs hl hm
  have HQ := Lib.hid hq; clear hq hr hs
  generalize decide (l = m) = r at *
  go_enter Tryd.func20, Tryd.ntmps20
  go_wp2_with (go_at_call 40; refine HQ.out.mono ?_; rintro e w1 ⟨rfl, hb⟩; have HB := Lib.hid hb; clear hb)
  go_ret
  exact ⟨rfl, HB.out⟩
/-- numbers in memory are the same just if their values are -/
theorem sameN_any (A B : Option Addr) (ca cb : Nat) (l m : List Int) (x y : Int) (w : World) (hr : Num w A l x) (hs : Num w B m y) :
    Calls Tryd.prog 20 #[.slice A l.length ca, .slice B m.length cb] w fun e w' => e = .returned (.bool (decide (x = y))) ∧ Below w.heap.size w w' := by
  have e : (l = m) ↔ (x = y) := by
    rw [← hr.val, ← hs.val]
    exact ⟨fun h => by rw [h], fun h => hr.can.inj hs.can h⟩
  have := sameL_any A B ca cb l m w hr.rd hs.rd (by have := hr.len; omega) (by have := hs.len; omega)
  rw [show decide (l = m) = decide (x = y) by simp [e]] at this
  exact this
theorem less_any (A B : Option Addr) (ca cb : Nat) (l m : List Int) (x y : Int) (w : World) (hr : Num w A l x) (hs : Num w B m y) :
    Calls Tryd.prog 19 #[.slice A l.length ca, .slice B m.length cb] w fun e w' => e = .returned (.bool (decide (x < y))) ∧ Below w.heap.size w w' := by
  have hq := cmp_yes A B ca cb l m x y w hr hs
  have hc : decide (Lib.compareInt x y < 0) = decide (x < y) := by
    rcases Int.lt_trichotomy x y with k | k | k
    · rw [cmpI_lt k, decide_eq_true k]; rfl
    · subst k; rw [cmpI_eq]; simp
    · rw [cmpI_gt k, decide_eq_false (show ¬ x < y by omega)]; rfl
  generalize Lib.compareInt x y = r at *
  have HQ := Lib.hid hq; have HC := Lib.hid hc; clear hq hr hs hc
  go_enter Tryd.func19, Tryd.ntmps19
  go_wp2_with (go_at_call 23; refine HQ.out.mono ?_; rintro e w1 ⟨rfl, hb⟩; have HB := Lib.hid hb; clear hb)
  go_ret
  exact ⟨ret_bool HC.out, HB.out⟩

def PostCopy (l : List Int) (W : World) (e : Ending) (w' : World) : Prop :=
  ∃ A cap, e = .returned (.slice A l.length cap) ∧ RdK .u32 w' A l ∧ Below W.heap.size W w'
set_option maxHeartbeats 1000000 in
theorem copy_any (A : Option Addr) (cap : Nat) (l : List Int) (w : World) (hr : RdK .u32 w A l) (hA : A = none → cap = 0) (hl : l.length ≤ 1000000000) :
    Calls Tryd.prog 31 #[.slice A l.length cap] w (PostCopy l w) := by
  obtain ⟨i0, hi, hz0, hz1, hz2⟩ := info_parts infoU32
  have Hr := Lib.hid hr; clear hr
  cases A with
  | none =>
    have hn : l = [] := by
      cases l with
      | nil => rfl
      | cons x t => obtain ⟨b, off, e, -⟩ := Hr.out (by simp); cases e
    subst hn
    have hc := hA rfl
    subst hc
    go_enter Tryd.func31, Tryd.ntmps31
    go_wp2_with (at_builtin; refine wpList_append_own_none rfl _ _ 22 rfl w.heap.size 48 i0 1 Tryd.underlying22 hi _ 0 [] rfl (World.ownsRow_nil _ _ _ _) rfl ?_)
    go_ret
    exact ⟨none, 0, rfl, RdK.nil _ _ _, Below.refl _ _⟩
  | some ad =>
    have hcells : ∀ j u, (l.map (Value.int .u32))[j]? = some u → w.cell? (ad.add j) = some u := by
      intro j u hu
      have hj : j < l.length := by
        have := (List.getElem?_eq_some_iff.1 hu).1
        simpa using this
      obtain ⟨b, off, e, -, hc⟩ := Hr.out (by omega)
      obtain rfl := Option.some.inj e
      have ea : (⟨b, off, none⟩ : Addr).add j = ⟨b, off + j, none⟩ := by unfold Addr.add; split <;> simp [*]
      rw [ea, hc j hj]
      simpa [List.getD_eq_getElem?_getD, List.getElem?_eq_getElem hj] using hu
    have HC := Lib.hid hcells; clear hcells
    go_enter Tryd.func31, Tryd.ntmps31
    go_wp2_with (at_builtin; refine wpList_append_own _ rfl _ _ 22 rfl w.heap.size 48 i0 (.int .u32 0) 1 4 Tryd.underlying22 hi hz0 hz1 hz2 rfl (by decide) (.slice none 0 0) 0 [] rfl (World.ownsRow_nil _ _ _ _) ad l.length cap (l.map (Value.int .u32)) rfl (by simp) HC.out ?c1 ?c2 ?c3 ?c4 ?_)
    case c1 => intro u hu; obtain ⟨z, -, rfl⟩ := List.mem_map.1 hu; rfl
    case c2 => unfold maxLen; omega
    case c3 => omega
    case c4 => exact Nat.le_refl _
    intro v' w1 h1 h2 h3
    have B1 := Lib.hid ((Below.refl w.heap.size w).grown h2 (Nat.le_refl _) (fun k hk => by cases hk))
    try rw [List.nil_append, Nat.zero_add] at h1
    rcases own_val h1 with ⟨rfl, hnil, hz⟩ | ⟨g, s, rfl, hB, -, -, -⟩
    · clear h1 h2 h3
      subst hnil
      go_wp2_with fail
      go_ret
      exact ⟨none, 0, rfl, RdK.nil _ _ _, B1.out⟩
    · have HB := Lib.hid hB
      clear h1 h2 h3 hB
      go_wp2_with fail
      go_ret
      exact ⟨_, _, rfl, HB.out.rd rfl, B1.out⟩

/-- the law's number -/
def PostNr (l : List Int) (n : Nat) (W : World) (e : Ending) (w' : World) : Prop :=
  ∃ A cap, e = .returned (.slice A (Na.trm (l.take n)).length cap) ∧ RdK .u32 w' A (Na.trm (l.take n)) ∧ Below W.heap.size W w'
set_option maxHeartbeats 2000000 in
theorem number_any (A : Option Addr) (cap n : Nat) (l : List Int) (w : World) (hr : RdK .u32 w A l) (hA : A = none → cap = 0) (hl : l.length ≤ cap) (hm : cap ≤ 9223372036854775807) (hn : n ≤ 1024) :
    Calls Tryd.prog 14 #[.slice A l.length cap, .int .i64 n] w (PostNr l n w) := by
  obtain ⟨N, hN⟩ : ∃ N, N = min l.length n := ⟨_, rfl⟩
  have e1 : min (l.length : Int) (n : Int) = (N : Int) := by omega
  have e2 : l.take n = l.take N := by rw [hN, List.take_eq_take_iff]; omega
  have hN1 : N ≤ l.length := by omega
  have hN2 : N ≤ 1024 := by omega
  have j1 : (0 : Int) ≤ (N : Int) := by omega
  have j2 : (N : Int) ≤ (cap : Int) := by omega
  have E2 := Lib.hid e2; clear e2 hN
  have Hr := Lib.hid hr; have HA := Lib.hid hA; clear hr hA
  go_enter Tryd.func14, Tryd.ntmps14
  go_wp2_with fail
  go_loop [0] (fun s => ∃ k : Nat, k ≤ N ∧ s = .slice A k cap ∧ Hid (Na.trm (l.take k) = Na.trm (l.take N))) (fun s => lenOf s)
  case atStart => exact ⟨N, Nat.le_refl _, by first | rfl | (simp), Lib.hid rfl⟩
  case round =>
    obtain ⟨k, hk, rfl, hT⟩ := hrel
    by_cases h0 : k = 0
    · subst h0
      have hT := hT.out
      rw [List.take_zero] at hT
      have hz := Lib.hid (show Na.trm (l.take n) = [] by rw [E2.out, ← hT]; rfl)
      have hcp : Calls Tryd.prog 31 #[.slice A 0 cap] w (PostCopy [] w) := copy_any A cap [] w (RdK.nil _ _ _) HA.out (by simp)
      have HC := Lib.hid hcp
      clear hcp
      clear hT
      go_wp2_with (go_at_call 31; (with_reducible refine HC.out.mono ?_); rintro e w1 ⟨A1, c1, rfl, hr1, hb1⟩; have HR1 := Lib.hid hr1; have HB1 := Lib.hid hb1; clear hr1 hb1)
      go_ret
      exact ⟨A1, c1, ret_sl rfl (by rw [hz.out]; rfl) rfl, by rw [hz.out]; exact HR1.out, HB1.out⟩
    · obtain ⟨b, off, rfl, hbl, hc⟩ := Hr.out (by omega)
      obtain ⟨j, rfl⟩ : ∃ j, k = j + 1 := ⟨k - 1, by omega⟩
      have hc1 := hc j (by omega); clear hc
      have hs := Na.take_snoc l j (by omega)
      have hT := hT.out
      rw [hs] at hT
      generalize l.getD j 0 = z at *
      have i0 : (0 : Int) ≤ (j : Int) := by omega
      have i1 : (j : Int) < ((j + 1 : Nat) : Int) := by omega
      have i2 : (j : Int) ≤ (cap : Int) := by omega
      by_cases hz : z = 0
      · subst hz
        rw [Na.trm_zero] at hT
        have HT := Lib.hid hT; clear hT hs h0
        go_wp2_with fail
        exact ⟨⟨j, by omega, rfl, HT⟩, by simp [lenOf]⟩
      · rw [Na.trm_last _ _ hz] at hT
        have hlen := Lib.hid (show Na.trm (l.take n) = l.take (j + 1) by rw [E2.out, ← hT, hs])
        have hz2 : (z == 0) = false := by rw [beq_eq_false_iff_ne]; exact hz
        have hll : (l.take (j + 1)).length = j + 1 := by rw [List.length_take]; omega
        have hcp := copy_any _ cap (l.take (j + 1)) w (rdk_take Hr.out (j + 1)) HA.out (by omega)
        rw [hll] at hcp
        have HC := Lib.hid hcp
        clear hcp hT hs h0 hll
        go_wp2_with (go_at_call 31; (with_reducible refine HC.out.mono ?_); rintro e w1 ⟨A1, c1, rfl, hr1, hb1⟩; have HR1 := Lib.hid hr1; have HB1 := Lib.hid hb1; clear hr1 hb1)
        go_ret
        exact ⟨A1, c1, ret_sl rfl (by rw [hlen.out]; simp) rfl, by rw [hlen.out]; exact HR1.out, HB1.out⟩

end Go.Proofs.YtgcfmkelanhdhaaDoor
