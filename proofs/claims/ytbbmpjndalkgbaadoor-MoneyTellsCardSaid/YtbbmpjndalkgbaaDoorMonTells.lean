/-
  The walk of the law MoneyTells.
-/
import Derived.Test.YtbbmpjndalkgbaaDoorMonRef5
import Derived.Test.YtbbmpjndalkgbaaDoorMonLent
namespace Go.Proofs.YtbbmpjndalkgbaaDoor
open Go.RowKit
set_option linter.unusedVariables false

theorem drewN_below (w : World) (n : Nat) : Below w.heap.size w (w.drewN n) := below_drewN (Below.refl _ _) n

set_option maxRecDepth 100000 in
set_option maxHeartbeats 2000000 in
theorem tells_any (a b share way : Int) (A : Option Addr) (cap : Nat) (zs : List Int) (s : ByteArray) (w : World) (hw : Rdy w) (v0 : 0 ≤ way) (v1 : way ≤ 255) (hr : Rd w A zs) (hA : A = none → zs.length = 0 ∧ cap = 0) (hl : zs.length ≤ 9223372036854775807) (hs : s.size ≤ 140737488355328) :
    Calls Tryd.prog 12 #[.int .i64 a, .int .i64 b, .int .i64 share, .int .u8 way, .slice A zs.length cap, .string s] w fun e w' => e = .returned (.bool true) ∧ Below w.heap.size w w' := by
  by_cases hlen : 5000 < zs.length
  · clear hr hA hw
    go_enter Tryd.func12, Tryd.ntmps12
    go_wp2_with fail
    go_ret
    exact ⟨rfl, Below.refl _ _⟩
  have hl5 : zs.length ≤ 5000 := by omega
  have hq1 := fun W => add_any a b W
  have hq2 := fun W => rAdd_any a b W
  have hq3 := fun W => mRight_any a W
  have hq4 := fun W => rRight_any a W
  have hq5 := fun W (hB : Below w.heap.size w W) => lent_any A cap zs W (hr.below hB) hA hl5
  have hq6 := fun W g (hL : Rd W (some ⟨g, 0, none⟩) zs) => mSum_any (some ⟨g, 0, none⟩) (zs.length + 12) zs W hL (by omega)
  have hq7 := fun W (hB : Below w.heap.size w W) => rSum_any A cap zs W (hr.below hB) (by omega)
  have hq8 := fun W B g (hB : Below w.heap.size w W) (hL : Lent W B g zs) => kept_any A cap B g zs W (hr.below hB) hL hl5
  have hq9 := fun W => share_any a share way W v0 v1
  have hq10 := fun W => rshare_any a share way W v0 v1
  have hq11 := fun W (hB : Below w.heap.size w W) => text_any a W (hw.below hB).p10
  have hq12 := fun W => rtext_any a W
  have hq13 := fun W (hB : Below w.heap.size w W) => read_any s W (hw.below hB) hs
  have hq14 := fun W => rread_any s W (by omega)
  unfold PostSh at hq9
  unfold PostRS at hq10
  unfold PostTx at hq11 hq12
  generalize Mo.smV [a, b] = V1 at *
  generalize Mo.smE [a, b] = E1 at *
  generalize Mo.smV zs = V2 at *
  generalize Mo.smE zs = E2 at *
  generalize Mo.shV a share way = V3 at *
  generalize Mo.shE a share way = E3 at *
  generalize Mo.txV a = T4 at *
  generalize Mo.txE a = E4 at *
  generalize Mo.rt a = rb at *
  have Q1 := Lib.hid hq1; have Q2 := Lib.hid hq2; have Q3 := Lib.hid hq3; have Q4 := Lib.hid hq4; have Q5 := Lib.hid hq5; have Q6 := Lib.hid hq6; have Q7 := Lib.hid hq7; have Q8 := Lib.hid hq8; have Q9 := Lib.hid hq9; have Q10 := Lib.hid hq10; have Q11 := Lib.hid hq11; have Q12 := Lib.hid hq12; have Q13 := Lib.hid hq13; have Q14 := Lib.hid hq14
  clear hq1 hq2 hq3 hq4 hq5 hq6 hq7 hq8 hq9 hq10 hq11 hq12 hq13 hq14 hr hA hw hl
  go_enter Tryd.func12, Tryd.ntmps12
  go_wp2_with (first
    | (go_at_call 20; (with_reducible refine (Q1.out _).mono ?_); rintro e y1 ⟨rfl, hb⟩; have B1 := Lib.hid hb; clear hb)
    | (go_at_call 24; (with_reducible refine (Q2.out _).mono ?_); rintro e y2 ⟨rfl, hb⟩; have B2 := Lib.hid (B1.out.trans (hb.mono B1.out.size)); clear hb)
    | (go_at_call 23; (with_reducible refine (Q3.out _).mono ?_); rintro e w' ⟨rfl, rfl⟩)
    | (go_at_call 25; (with_reducible refine (Q4.out _).mono ?_); rintro e w' ⟨rfl, rfl⟩)
    | (go_at_call 26; (with_reducible refine (Q5.out _ B2.out).mono ?_); rintro e y3 ⟨g, rfl, hL, hb⟩; have HL := Lib.hid hL; have B3 := Lib.hid (B2.out.trans (hb.mono B2.out.size)); clear hb hL)
    | (go_at_call 16; (with_reducible refine (Q6.out _ _ HL.out.rd).mono ?_); rintro e w' ⟨rfl, rfl⟩)
    | (go_at_call 27; (with_reducible refine (Q7.out _ B3.out).mono ?_); rintro e w' ⟨rfl, rfl⟩)
    | (go_at_call 28; (with_reducible refine (Q8.out _ _ _ B3.out HL.out).mono ?_); rintro e y4 ⟨rfl, hb⟩; have B4 := Lib.hid (B3.out.trans (hb.mono B3.out.size)); clear hb)
    | (go_at_call 18; (with_reducible refine (Q9.out _).mono ?_); rintro e y5 ⟨rfl, hb⟩; have B5 := Lib.hid (B4.out.trans (hb.mono B4.out.size)); clear hb)
    | (go_at_call 29; (with_reducible refine (Q10.out _).mono ?_); rintro e w' ⟨rfl, nn, rfl⟩; have B6 := Lib.hid (below_drewN B5.out nn))
    | (go_at_call 21; (with_reducible refine (Q11.out _ B6.out).mono ?_); rintro e y7 ⟨rfl, hb⟩; have B7 := Lib.hid (B6.out.trans (hb.mono B6.out.size)); clear hb)
    | (go_at_call 30; (with_reducible refine (Q12.out _).mono ?_); rintro e y8 ⟨rfl, hb⟩; have B8 := Lib.hid (B7.out.trans (hb.mono B7.out.size)); clear hb)
    | (go_at_call 22; (with_reducible refine (Q13.out _ B8.out).mono ?_); rintro e y9 ⟨v9, e9, rfl, hd, hb⟩; have HD := Lib.hid hd; have B9 := Lib.hid (B8.out.trans (hb.mono B8.out.size)); clear hb hd)
    | (go_at_call 31; (with_reducible refine (Q14.out _).mono ?_); rintro e y10 ⟨v10, e10, rfl, hd, hb⟩; obtain ⟨rfl, rfl⟩ := Mo.rdIs_one HD.out hd; have B10 := Lib.hid (B9.out.trans (hb.mono B9.out.size)); clear hb hd))
  go_ret
  exact ⟨rfl, B10.out⟩

set_option maxRecDepth 100000 in
set_option maxHeartbeats 1000000 in
theorem walk_moneyTells (w : World) (a0 : Int) (w0 : (Lit.int .i64 a0).wf = true) (a1 : Int) (w1 : (Lit.int .i64 a1).wf = true) (a2 : Int) (w2 : (Lit.int .i64 a2).wf = true) (a3 : Int) (w3 : (Lit.int .u8 a3).wf = true)
    (A4 : Option Addr) (len4 cap4 : Nat) (z4 : List Int) (w4 : IsRow .i64 w A4 len4 cap4 z4) (s : ByteArray) (hs : s.size ≤ 140737488355328) (hw : Rdy w) :
    Calls Tryd.prog 3 #[.int .i64 a0, .int .i64 a1, .int .i64 a2, .int .u8 a3, .slice A4 len4 cap4, .string s] w fun e w' => e = .returned (.bool true) ∧ Below w.heap.size w w' := by
  have b3 := u8_bd w3
  obtain ⟨hlen, hrd⟩ := row_rd w4
  have hl := row_len w4
  have hn := row_none w4
  have hq := fun W (hB : Below w.heap.size w W) => tells_any a0 a1 a2 a3 A4 cap4 (z4.take len4) s W (hw.below hB) b3.1 b3.2 (hrd.below hB) (fun h => by rw [hlen]; exact hn h) (by omega) hs
  rw [hlen] at hq
  have R0 := Lib.hid hw; have HQ := Lib.hid hq
  clear hw hq w0 w1 w2 w3 w4 hrd hn
  go_enter Tryd.func3, Tryd.ntmps3
  go_wp2_with (first
    | (go_at_call 11; refine (awake_any _ R0.out).mono ?_; rintro e x1 ⟨rfl, hb⟩; have B1 := Lib.hid hb; clear hb)
    | (go_at_call 12; (with_reducible refine (HQ.out _ B1.out).mono ?_); rintro e x2 ⟨rfl, hb⟩; have B2 := Lib.hid (B1.out.trans (hb.mono B1.out.size)); clear hb))
  go_ret
  exact ⟨rfl, B2.out⟩

end Go.Proofs.YtbbmpjndalkgbaaDoor
