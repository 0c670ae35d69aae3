/-
  The walk of the law StatsQuantiles.
-/
import Derived.Test.YtgbifcfdbelfpaaStaQRef
import Derived.Test.YtgbifcfdbelfpaaStaLent
namespace Go.Proofs.Ytgbifcfdbelfpaa
open Go.RowKit
set_option linter.unusedVariables false

/-- the error of a quantile, and the quantile -/
def qe (zs : List Int) (q : Int) : Int := if 10000 < zs.length then 5 else if shareB q = false then 2 else if zs = [] then 6 else 0
def qv (zs : List Int) (q : Int) : Int := if qe zs q = 0 then qnt zs q else 0
def PostQ (zs : List Int) (q : Int) (W : World) (e : Ending) (w' : World) : Prop := e = .returned (.tuple #[.int .i64 (qv zs q), .int .i64 (qe zs q)]) ∧ Below W.heap.size W w'
theorem postQ_err {zs : List Int} {q k : Int} {W : World} (h : qe zs q = k) (h0 : k ≠ 0) : ∀ e w', PostIntErr k W e w' → PostQ zs q W e w' := by
  rintro e w' ⟨h1, h2⟩
  refine ⟨?_, h2⟩
  have : qv zs q = 0 := by unfold qv; rw [h, if_neg h0]
  rw [this, h]; exact h1
theorem qe_many {zs : List Int} (q : Int) (h : 10000 < zs.length) : qe zs q = 5 := if_pos h
theorem qe_arg {zs : List Int} {q : Int} (h : zs.length ≤ 10000) (hq : shareB q = false) : qe zs q = 2 := by unfold qe; rw [if_neg (by omega), if_pos hq]
theorem qe_none {zs : List Int} {q : Int} (h : zs = []) (hq : shareB q = true) : qe zs q = 6 := by unfold qe; rw [if_neg (by rw [h]; simp), if_neg (by rw [hq]; simp), if_pos h]
theorem qe_ok {zs : List Int} {q : Int} (h : zs.length ≤ 10000) (h0 : zs ≠ []) (hq : shareB q = true) : qe zs q = 0 := by unfold qe; rw [if_neg (by omega), if_neg (by rw [hq]; simp), if_neg h0]

theorem quantile_all (A : Option Addr) (cap : Nat) (zs : List Int) (q : Int) (w : World) (hr : Rd w A zs) (hl : zs.length ≤ 9223372036854775807) :
    Calls Try.prog 37 #[.slice A zs.length cap, .int .i64 q] w (PostQ zs q w) := by
  rcases Nat.lt_or_ge 10000 zs.length with h | h
  · exact (quantile_many A cap zs.length q w h hl).mono (postQ_err (qe_many q h) (by omega))
  · cases hq : shareB q with
    | false => exact (quantile_arg A cap zs.length q w h hq).mono (postQ_err (qe_arg h hq) (by omega))
    | true =>
      by_cases h0 : zs = []
      · have h1 := (quantile_none A cap q w hq).mono (postQ_err (qe_none h0 hq) (by omega))
        have e : zs.length = 0 := by rw [h0]; rfl
        rw [e]; exact h1
      · obtain ⟨b, off, rfl, hb, hc⟩ := hr (List.length_pos_iff.2 h0)
        have hs := shareB_iff.1 hq
        refine (quantile_ok b off cap zs q w h h0 hs.1 hs.2 hb hc).mono ?_
        rintro e w' ⟨h1, h2⟩
        have h3 := qe_ok h h0 hq
        refine ⟨?_, h2⟩
        have : qv zs q = qnt zs q := by unfold qv; rw [h3, if_pos rfl]
        rw [this, h3]; exact h1
theorem rQuantile_all (A : Option Addr) (cap : Nat) (zs : List Int) (q : Int) (w : World) (hr : Rd w A zs) (hl : zs.length ≤ 9223372036854775807) :
    Calls Try.prog 48 #[.slice A zs.length cap, .int .i64 q] w (PostQ zs q w) := by
  rcases Nat.lt_or_ge 10000 zs.length with h | h
  · exact (rQuantile_many A cap zs.length q w h hl).mono (postQ_err (qe_many q h) (by omega))
  · cases hq : shareB q with
    | false =>
      have hs : q < 0 ∨ 10000 < q := by
        rcases Int.lt_or_le q 0 with h1 | h1
        · exact .inl h1
        · rcases Int.lt_or_le 10000 q with h2 | h2
          · exact .inr h2
          · rw [shareB_yes h1 h2] at hq; cases hq
      exact (rQuantile_arg A cap zs.length q w h hs).mono (postQ_err (qe_arg h hq) (by omega))
    | true =>
      have hs := shareB_iff.1 hq
      by_cases h0 : zs = []
      · have h1 := (rQuantile_none A cap q w hs.1 hs.2).mono (postQ_err (qe_none h0 hq) (by omega))
        have e : zs.length = 0 := by rw [h0]; rfl
        rw [e]; exact h1
      · obtain ⟨b, off, rfl, hb, hc⟩ := hr (List.length_pos_iff.2 h0)
        refine (rQuantile_ok b off cap zs q w h h0 hs.1 hs.2 hb hc).mono ?_
        rintro e w' ⟨h1, h2⟩
        have h3 := qe_ok h h0 hq
        refine ⟨?_, h2⟩
        have : qv zs q = qnt zs q := by unfold qv; rw [h3, if_pos rfl]
        rw [this, h3]; exact h1

set_option maxHeartbeats 1000000 in
theorem quants_any (A : Option Addr) (cap : Nat) (zs : List Int) (q : Int) (w : World) (hr : Rd w A zs) (hA : A = none → zs.length = 0 ∧ cap = 0) (hl : zs.length ≤ 17592186043904) :
    Calls Try.prog 17 #[.slice A zs.length cap, .int .i64 q] w fun e w' => e = .returned (.bool true) ∧ Below w.heap.size w w' := by
  have z0 : (0 : Int) ≤ (zs.length : Int) := by omega
  have z1 : (zs.length : Int) ≤ 17592186043904 := by omega
  by_cases hm : 300 < zs.length ∧ zs.length ≤ 10000
  · have f1 : (300 : Int) < (zs.length : Int) := by omega
    have f2 : (zs.length : Int) ≤ 10000 := by omega
    have HH := Lib.hid hm
    clear hm hr hA
    go_enter Try.func17, Try.ntmps17
    go_wp2
    go_ret
    exact ⟨rfl, Below.refl _ _⟩
  · have LE := Lib.hid (lent_any A cap zs w hr hA hl)
    have HR := Lib.hid hr
    have QQ := Lib.hid (fun g c V (h : Rd V (some ⟨g, 0, none⟩) zs) => quantile_all (some ⟨g, 0, none⟩) c zs q V h (by omega))
    have RQ := Lib.hid (fun V (h : Rd V A zs) => rQuantile_all A cap zs q V h (by omega))
    have KE := Lib.hid (fun B g V (h : Rd V A zs) (h2 : Lent V B g zs) => kept_any A cap B g zs V h h2 hl)
    generalize qv zs q = x at *
    generalize qe zs q = y at *
    have c1 : (x == x) = true := by rw [beq_iff_eq]
    have c2 : (y == y) = true := by rw [beq_iff_eq]
    rcases Nat.lt_or_ge 300 zs.length with h3 | h3
    · have f1 : (300 : Int) < (zs.length : Int) := by omega
      have f2 : (10000 : Int) < (zs.length : Int) := by omega
      have f3 : decide ((zs.length : Int) ≤ 10000) = false := decide_eq_false (by omega)
      clear hm h3 hr hA
      go_enter Try.func17, Try.ntmps17
      go_wp2_with (first
        | (go_at_call 47; (with_reducible refine (LE.out).mono ?_); rintro e v1 ⟨g, rfl, h, hb⟩; have B1 := Lib.hid hb; have L1 := Lib.hid h; clear h hb)
        | (go_at_call 37; (with_reducible refine (QQ.out g _ v1 L1.out.rd).mono ?_); rintro e v2 ⟨rfl, hb⟩; have B2 := Lib.hid (B1.out.trans (hb.mono B1.out.size)); have L2 := Lib.hid (L1.out.below hb); clear hb)
        | (go_at_call 48; (with_reducible refine (RQ.out v2 (HR.out.below B2.out)).mono ?_); rintro e v3 ⟨rfl, hb⟩; have B3 := Lib.hid (B2.out.trans (hb.mono B2.out.size)); have L3 := Lib.hid (L2.out.below hb); clear hb)
        | (go_at_call 49; (with_reducible refine (KE.out _ g v3 (HR.out.below B3.out) L3.out).mono ?_); rintro e v4 ⟨rfl, hb⟩; have B4 := Lib.hid (B3.out.trans (hb.mono B3.out.size)); clear hb))
      go_ret
      exact ⟨rfl, B4.out⟩
    · have f1 : (zs.length : Int) ≤ 300 := by omega
      have f3 : decide ((300 : Int) < (zs.length : Int)) = false := decide_eq_false (by omega)
      clear hm h3 hr hA
      go_enter Try.func17, Try.ntmps17
      go_wp2_with (first
        | (go_at_call 47; (with_reducible refine (LE.out).mono ?_); rintro e v1 ⟨g, rfl, h, hb⟩; have B1 := Lib.hid hb; have L1 := Lib.hid h; clear h hb)
        | (go_at_call 37; (with_reducible refine (QQ.out g _ v1 L1.out.rd).mono ?_); rintro e v2 ⟨rfl, hb⟩; have B2 := Lib.hid (B1.out.trans (hb.mono B1.out.size)); have L2 := Lib.hid (L1.out.below hb); clear hb)
        | (go_at_call 48; (with_reducible refine (RQ.out v2 (HR.out.below B2.out)).mono ?_); rintro e v3 ⟨rfl, hb⟩; have B3 := Lib.hid (B2.out.trans (hb.mono B2.out.size)); have L3 := Lib.hid (L2.out.below hb); clear hb)
        | (go_at_call 49; (with_reducible refine (KE.out _ g v3 (HR.out.below B3.out) L3.out).mono ?_); rintro e v4 ⟨rfl, hb⟩; have B4 := Lib.hid (B3.out.trans (hb.mono B3.out.size)); clear hb))
      go_ret
      exact ⟨rfl, B4.out⟩

theorem walk_statsQuantiles (w : World) (A0 : Option Addr) (len0 cap0 : Nat) (z0 : List Int) (w0 : IsRow .i64 w A0 len0 cap0 z0) (b0 : len0 * 8 ≤ 140737488351232) (a1 : Int) (w1 : (Lit.int .i64 a1).wf = true) :
    Calls Try.prog 5 #[.slice A0 len0 cap0, .int .i64 a1] w fun e w' => e = .returned (.bool true) ∧ Below w.heap.size w w' := by
  obtain ⟨hl, hr⟩ := row_rd w0
  have hA := row_none w0
  have AW := Lib.hid (awake_any w)
  have QA := Lib.hid (fun V (hb : Below w.heap.size w V) => show Calls Try.prog 17 #[.slice A0 len0 cap0, .int .i64 a1] V _ from by
    have h := quants_any A0 cap0 (z0.take len0) a1 V (hr.below hb) (fun e => by have := hA e; rw [hl]; exact this) (by rw [hl]; omega)
    rw [hl] at h
    exact h)
  clear hr hl hA w0
  go_enter Try.func5, Try.ntmps5
  go_wp2_with (first
    | (go_at_call 14; (with_reducible refine (AW.out).mono ?_); rintro e x1 ⟨rfl, hb⟩; have B1 := Lib.hid hb; clear hb)
    | (go_at_call 17; (with_reducible refine (QA.out _ B1.out).mono ?_); rintro e x2 ⟨rfl, hb⟩; have B2 := Lib.hid (B1.out.trans (hb.mono B1.out.size)); clear hb))
  go_ret
  exact ⟨rfl, B2.out⟩
end Go.Proofs.Ytgbifcfdbelfpaa
