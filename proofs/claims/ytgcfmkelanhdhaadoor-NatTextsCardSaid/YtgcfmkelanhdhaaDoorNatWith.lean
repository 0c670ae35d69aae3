/-
  The walk of nat.withGroup.
-/
import Derived.Test.YtgcfmkelanhdhaaDoorNatRead
namespace Go.Proofs.YtgcfmkelanhdhaaDoor
open Go.RowKit
set_option linter.unusedVariables false

/-- a slice of limbs, nil or in a block of the call's own -/
def Own (w : World) (base : Nat) (v : Value) (l : List Int) : Prop :=
  (v = .slice none 0 0 ∧ l = []) ∨ ∃ g s, v = .slice (some ⟨g, 0, none⟩) l.length (l.length + s.length) ∧ Blk w g [] l s ∧ base ≤ g ∧ l.length + s.length ≤ maxLen
theorem own_of {w : World} {base : Nat} {v : Value} {l : List Int} {n : Nat} (h : w.ownsRow base 48 1 v n (l.map (Value.int .u32))) : Own w base v l := by
  rcases own_val h with ⟨h1, h2, -⟩ | ⟨g, s, h1, h2, h3, h4, h5⟩
  · exact .inl ⟨h1, h2⟩
  · exact .inr ⟨g, s, by rw [h1, h3], h2, h4, by omega⟩
def PostWith (base : Nat) (l : List Int) (G : Int) (w : World) (e : Ending) (w' : World) : Prop :=
  ∃ v l', e = .returned v ∧ Own w' base v l' ∧ Na.Dg l' ∧ Na.V l' = Na.V l * 1000000000 + G ∧ l'.length ≤ l.length + 1 ∧ Below base w w'

set_option maxRecDepth 100000 in
set_option maxHeartbeats 2000000 in
theorem with_nil (base : Nat) (G : Int) (w : World) (g0 : 0 ≤ G) (g1 : G < 4294967296) (hB : base ≤ w.heap.size) :
    Calls Tryd.prog 48 #[.slice none 0 0, .int .u32 G] w (PostWith base [] G w) := by
  obtain ⟨i0, hi, hz0, hz1, hz2⟩ := info_parts infoU32
  go_enter Tryd.func48, Tryd.ntmps48
  go_wp2_with (go_at_call 37; refine (carrying_any _ _).mono ?_; rintro e w2 ⟨rfl, h2⟩; have H2 := Lib.hid h2; clear h2)
  have nx : Calls Tryd.prog 61 #[.int .u64 0, .pointer (some ⟨w.heap.size, 0, none⟩)] w2 fun e w' => e = .returned (.int .u32 G) ∧ Below base w w' ∧ base ≤ w'.heap.size := by
    have h2 := H2.out
    subst h2
    have := next_any 0 G w.heap.size _ (One.new w G) (by omega) g0 (by omega)
    rw [Int.zero_add, Int.emod_eq_of_lt g0 g1] at this
    refine this.mono ?_
    rintro e w' ⟨rfl, -, h⟩
    have hb : Below base w w' := ((Below.refl base w).alloc hB _).grown h (by simp; omega) (fun k hk => by cases hk; exact hB)
    exact ⟨rfl, hb, by have := hb.size; omega⟩
  have NX := Lib.hid nx; clear nx
  refine wp_loop_rounds 1 ?_
  rw [rounds_succ]
  by_cases hG : G = 0
  · have HG := Lib.hid hG
    have f1 : decide (0 < G) = false := decide_eq_false (by omega)
    clear hG
    go_wp2_with (go_at_call 61; (with_reducible refine NX.out.mono ?_); rintro e w3 ⟨rfl, hb, hs⟩; have HB := Lib.hid hb; clear hb)
    go_ret
    exact ⟨_, [], rfl, .inl ⟨rfl, rfl⟩, Na.Dg.nil, by rw [HG.out]; rfl, by simp, HB.out⟩
  · have f1 : 0 < G := by omega
    clear hG
    go_wp2_with (first
      | (go_at_call 61; (with_reducible refine NX.out.mono ?_); rintro e w3 ⟨rfl, hb, hs⟩; have HB := Lib.hid hb; clear hb)
      | (at_builtin; refine wpList_append_own _ rfl _ _ 22 rfl base 48 i0 (.int .u32 0) 1 4 Tryd.underlying22 hi hz0 hz1 hz2 rfl (by decide) (.slice none 0 0) 0 [] rfl (World.ownsRow_nil _ _ _ _) ⟨w3.heap.size, 0, none⟩ 1 1 [.int .u32 G] rfl rfl ?c1 ?c2 ?c3 ?c4 ?c5 ?_))
    case c1 =>
      intro j u hj
      match j, hj with
      | 0, hj => simp at hj; subst hj; simp [Addr.add]
    case c2 => intro u hu; simp at hu; subst hu; rfl
    case c3 => unfold maxLen; omega
    case c4 => omega
    case c5 => simp; omega
    intro v' w4 h1 h2 h3
    have hb4 := (HB.out.alloc hs (.cells #[.int .u32 G] 48)).grown h2 (by simp; omega) (fun k hk => by cases hk)
    have ho : Own w4 base v' [G] := own_of (n := 1) (by simpa using h1)
    have HO := Lib.hid ho; have HB4 := Lib.hid hb4
    clear h1 h2 h3 ho hb4
    go_wp2_with fail
    go_ret
    exact ⟨_, [G], rfl, HO.out, Na.Dg.cons.2 ⟨⟨g0, g1⟩, Na.Dg.nil⟩, by simp [Na.V], by simp, HB4.out⟩

set_option maxRecDepth 100000 in
set_option maxHeartbeats 4000000 in
theorem with_own (base g : Nat) (s : List Value) (l : List Int) (G : Int) (w : World) (hb : Blk w g [] l s) (hd : Na.Dg l) (hg : base ≤ g) (hc : l.length + s.length ≤ maxLen) (hl : l.length ≤ 2000) (g0 : 0 ≤ G) (g1 : G < 4294967296) (hB : base ≤ w.heap.size) :
    Calls Tryd.prog 48 #[.slice (some ⟨g, 0, none⟩) l.length (l.length + s.length), .int .u32 G] w (PostWith base l G w) := by
  obtain ⟨i0, hi, hz0, hz1, hz2⟩ := info_parts infoU32
  have hA : AccW w (w.alloc (.cells #[.int .u32 G] 48)) g w.heap.size [] s l [] G G := by
    have := AccW.start hb (grown_refl w _) (Nat.le_refl _) 0 (by omega) (Na.Dg.take hd 0) g0 g1
    simpa [Na.V, Na.Bp] using this
  have hgb : g ≠ w.heap.size := by have := hb.lt; omega
  have HA := Lib.hid hA; clear hA hb
  go_enter Tryd.func48, Tryd.ntmps48
  go_wp2_with (go_at_call 37; refine (carrying_any _ _).mono ?_; rintro e w2 ⟨rfl, h2⟩; have H2 := Lib.hid h2; clear h2)
  obtain ⟨b, hb⟩ : ∃ b, w.heap.size = b := ⟨_, rfl⟩
  rw [hb] at hgb ⊢
  have hbw : w.heap.size ≤ b := by omega
  have hA : AccW w w2 g b [] s l [] G G := by
    have h2 := H2.out
    subst hb h2
    exact HA.out
  have HA2 := Lib.hid hA; clear hA HA H2 hb
  go_loopw [13] (fun i wr => ∃ (k : Nat) (q : List Int) (c : Int), k ≤ l.length ∧ i = .int .i64 k ∧ Hid (q.length = k) ∧ Hid (AccW w wr g b [] s l q c (G + Na.V (l.take k) * 1000000000))) (fun i _ => l.length - (intOf i).toNat)
  case atStart => exact ⟨0, [], G, by omega, rfl, Lib.hid rfl, Lib.hid (by simpa [Na.V] using HA2.out)⟩
  case round =>
    obtain ⟨k, q, c, hk, rfl, HQ, HS⟩ := hrel
    by_cases h0 : k = l.length
    · have hS := HS.out
      have nx := next_any 0 c b wr hS.one (by omega) hS.c0 (by have := hS.c1; omega)
      rw [Int.zero_add, Int.emod_eq_of_lt hS.c0 hS.c1] at nx
      have ls := fun w3 => hS.last (w1 := w3) hgb hbw
      have c0 := hS.c0
      have c1 := hS.c1
      have hv := hS.val
      rw [h0, List.take_length, HQ.out, h0] at hv
      have hdq := hS.dg
      have NX := Lib.hid nx; have LS := Lib.hid ls; have HV := Lib.hid hv; have HDQ := Lib.hid hdq
      subst h0
      clear nx ls hv hdq hS
      by_cases hcz : c = 0
      · have HC := Lib.hid hcz
        have f1 : decide (0 < c) = false := decide_eq_false (by omega)
        clear hcz
        go_wp2_with (go_at_call 61; (with_reducible refine NX.out.mono ?_); rintro e w3 ⟨rfl, -, hgr⟩; have HG := Lib.hid hgr; clear hgr)
        go_ret
        obtain ⟨f1, f2⟩ := LS.out w3 HG.out
        rw [List.drop_of_length_le (by rw [HQ.out]; omega), List.append_nil] at f1
        refine ⟨.slice (some ⟨g, 0, none⟩) l.length (l.length + s.length), q, rfl, .inr ⟨g, s, by rw [HQ.out], f1, hg, by rw [HQ.out]; exact hc⟩, HDQ.out, ?_, by rw [HQ.out]; omega, (Below.refl base w).grown f2 hB (fun k hk => by cases hk; exact hg)⟩
        have := HV.out
        rw [HC.out] at this
        omega
      · have f1 : 0 < c := by omega
        clear hcz
        have hrw : ∀ w3, wr.grownBy w3 (some b) → w3.ownsRow base 48 1 (.slice (some ⟨g, 0, none⟩) l.length (l.length + s.length)) l.length (q.map (Value.int .u32)) ∧ Below base w w3 := by
          intro w3 hgr
          obtain ⟨k1, k2⟩ := LS.out w3 hgr
          rw [List.drop_of_length_le (by rw [HQ.out]; omega), List.append_nil] at k1
          have hown := k1.own (base := base) hg (by rw [HQ.out]; exact hc)
          rw [HQ.out] at hown
          exact ⟨hown, (Below.refl base w).grown k2 hB (fun k hk => by cases hk; exact hg)⟩
        have HRW := Lib.hid hrw
        clear hrw
        go_wp2_with (first
          | (go_at_call 61; (with_reducible refine NX.out.mono ?_); rintro e w3 ⟨rfl, -, hgr⟩; have HO := Lib.hid (HRW.out w3 hgr).1; have HB := Lib.hid (HRW.out w3 hgr).2; clear hgr)
          | (at_builtin; refine wpList_append_own _ rfl _ _ 22 rfl base 48 i0 (.int .u32 0) 1 4 Tryd.underlying22 hi hz0 hz1 hz2 rfl (by decide) _ l.length _ rfl (HO.out.alloc _) ⟨w3.heap.size, 0, none⟩ 1 1 [.int .u32 c] rfl rfl ?c1 ?c2 ?c3 ?c4 ?c5 ?_))
        case c1 =>
          intro j u hj
          match j, hj with
          | 0, hj => simp at hj; subst hj; simp [Addr.add]
        case c2 => intro u hu; simp at hu; subst hu; rfl
        case c3 => unfold maxLen; omega
        case c4 => omega
        case c5 => have := HB.out.size; simp; omega
        intro v' w4 h1 h2 h3
        have hs3 : base ≤ w3.heap.size := by have := HB.out.size; omega
        have hb4 := (HB.out.alloc hs3 (.cells #[.int .u32 c] 48)).grown h2 (by simp; omega) (fun k hk => by cases hk; exact hg)
        have ho : Own w4 base v' (q ++ [c]) := own_of (n := l.length + 1) (by simpa using h1)
        have HO4 := Lib.hid ho; have HB4 := Lib.hid hb4
        clear h1 h2 h3 ho hb4
        go_wp2_with fail
        go_ret
        exact ⟨_, q ++ [c], rfl, HO4.out, HDQ.out.snoc c0 c1, by have := HV.out; rw [Na.V_snoc, HQ.out]; grind, by simp [HQ.out], HB4.out⟩
    · have hS := HS.out
      obtain ⟨z0, z1⟩ := hd.at k
      have hzk := Na.V_take l k
      have hc4 := hS.cell (grown_refl wr none) (by simp) k (by rw [HQ.out]; omega) (by omega) (i := k) (by simp)
      have hcc := fun w3 (hgr : wr.grownBy w3 (some b)) => hS.cell hgr (by simpa using hgb) k (by rw [HQ.out]; omega) (by omega) (i := k) (by simp)
      have hcf := fun w3 (hgr : wr.grownBy w3 (some b)) => hS.free hgr (by simpa using hgb) k
      generalize l.getD k 0 = z at *
      have f1 : IntKind.u64.wrap (z * 1000000000) = z * 1000000000 := u64_in _ (by omega) (by omega)
      have nx := next_any (z * 1000000000) c b wr hS.one (by omega) hS.c0 (by have := hS.c1; omega)
      have st := fun w3 => hS.step (w1 := w3) (x := z * 1000000000) (by rw [HQ.out]; omega) (by omega) (by omega) hgb hbw (i := k) (hi := by simp [HQ.out])
      have HVK := Lib.hid hzk
      have NX := Lib.hid nx; have ST := Lib.hid st; have HCC := Lib.hid hcc; have HCF := Lib.hid hcf
      have j2 : (0 : Int) ≤ (k : Int) := by omega
      have j3 : (k : Int) < (l.length : Int) := by omega
      clear h0 hzk hS nx st hcc hcf hd
      go_wp2_with (go_at_call 61; (with_reducible refine NX.out.mono ?_); rintro e w3 ⟨rfl, ho, hgr⟩; have hd1 := HCC.out w3 hgr; have hd2 := HCF.out w3 hgr; have HST := Lib.hid (ST.out w3 ho hgr); clear ho hgr)
      have hst := HST.out
      rw [HQ.out, show G + Na.V (l.take k) * 1000000000 + Na.Bp k * (z * 1000000000) = G + Na.V (l.take (k + 1)) * 1000000000 by rw [HVK.out]; grind] at hst
      exact ⟨⟨k + 1, _, _, by omega, by go_num, Lib.hid (by rw [List.length_append, HQ.out]; rfl), Lib.hid hst⟩, by simp [intOf]; omega⟩

/-- nine digits more -/
theorem with_any (base : Nat) (v : Value) (l : List Int) (G : Int) (w : World) (ho : Own w base v l) (hd : Na.Dg l) (hl : l.length ≤ 2000) (g0 : 0 ≤ G) (g1 : G < 4294967296) (hB : base ≤ w.heap.size) :
    Calls Tryd.prog 48 #[v, .int .u32 G] w (PostWith base l G w) := by
  rcases ho with ⟨rfl, rfl⟩ | ⟨g, s, rfl, hb, hg, hc⟩
  · exact with_nil base G w g0 g1 hB
  · exact with_own base g s l G w hb hd hg hc hl g0 g1 hB

end Go.Proofs.YtgcfmkelanhdhaaDoor
