/-
  The walks of nat.takeAway.
-/
import Derived.Test.YtgbifcfdbelfpaaNatMul
namespace Go.Proofs.Ytgbifcfdbelfpaa
open Go.RowKit
set_option linter.unusedVariables false

/-- limbs that lie outside block g -/
def RdOff (w : World) (g : Nat) (A : Option Addr) (zs : List Int) : Prop :=
  0 < zs.length → ∃ b off, A = some ⟨b, off, none⟩ ∧ b < w.heap.size ∧ b ≠ g ∧ ∀ i, i < zs.length → w.cell? ⟨b, off + i, none⟩ = some (.int .u32 (zs.getD i 0))
theorem RdOff.rd {w : World} {g : Nat} {A : Option Addr} {zs : List Int} (h : RdOff w g A zs) : RdK .u32 w A zs := fun h0 => by
  obtain ⟨b, off, e, h1, -, h2⟩ := h h0
  exact ⟨b, off, e, h1, h2⟩
theorem RdOff.kept {w w' : World} {g : Nat} {A : Option Addr} {zs : List Int} (h : RdOff w g A zs) (hg : w.grownBy w' (some g)) : RdOff w' g A zs := fun h0 => by
  obtain ⟨b, off, e, h1, hne, h2⟩ := h h0
  exact ⟨b, off, e, by have := hg.size; omega, hne, fun i hi => hg.cell (h2 i hi) (by simpa using hne)⟩
theorem RdK.off {w w' : World} {g : Nat} {A : Option Addr} {zs : List Int} (h : RdK .u32 w A zs) (hb : Below w.heap.size w w') (hg : w.heap.size ≤ g) : RdOff w' g A zs := fun h0 => by
  obtain ⟨b, off, e, h1, h2⟩ := (RdK.below h hb) h0
  obtain ⟨b', off', e', h1', -⟩ := h h0
  obtain ⟨rfl, rfl⟩ : b = b' ∧ off = off' := by rw [e] at e'; simpa using e'
  exact ⟨b, off, e, h1, by omega, h2⟩
theorem Blk.off {w : World} {g h : Nat} {p s : List Value} {m : List Int} (hb : Blk w h p m s) (hne : h ≠ g) {i : Nat} (hi : i = p.length) : RdOff w g (some ⟨h, i, none⟩) m := fun h0 =>
  ⟨h, i, rfl, hb.lt, hne, fun k hk => hb.cell k hk (by omega)⟩

/-- q: the limbs from which something has been taken; m: what the limbs were -/
structure Tak (W w : World) (g : Nat) (p s : List Value) (m q l : List Int) (T β : Int) : Prop where
  blk : Blk w g p (q ++ m.drop q.length) s
  c0 : 0 ≤ β
  c1 : β < 4294967296
  dg : Na.Dg q
  val : Na.V q + T * Na.V (l.take q.length) = Na.V (m.take q.length) + β * Na.Bp q.length
  frm : W.grownBy w (some g)
theorem Tak.step {W w : World} {g : Nat} {p s : List Value} {m q l : List Int} {T β lo hi v c : Int} (h : Tak W w g p s m q l T β) (hq : q.length < m.length) (e : l.getD q.length 0 * T + β = lo + 4294967296 * hi) (hv : v = m.getD q.length 0 - lo + 4294967296 * c)
    (v0 : 0 ≤ v) (v1 : v < 4294967296) (c0 : 0 ≤ hi + c) (c1 : hi + c < 4294967296) {i : Nat} (hi' : i = p.length + q.length) :
    Tak W (w.setCell ⟨g, i, none⟩ (.int .u32 v)) g p s m (q ++ [v]) l T (hi + c) := by
  refine ⟨?_, c0, c1, h.dg.snoc v0 v1, ?_, grown_then h.frm (grown_set _ _ _) (fun k hk => by cases hk; exact .inr rfl)⟩
  · have := h.blk.set q.length (by simp; omega) v hi'
    rw [Na.set_win rfl hq] at this
    rw [List.length_append, List.length_singleton]
    exact this
  · rw [List.length_append, List.length_singleton, Na.V_take, Na.V_take]
    exact Na.bor rfl h.val e hv

/-- what is left: limbs m', and what was borrowed -/
def PostTake (g : Nat) (p s : List Value) (m l : List Int) (T : Int) (w : World) (e : Ending) (w' : World) : Prop :=
  ∃ q β, e = .returned (.bool (decide (0 < β))) ∧ Blk w' g p q s ∧ q.length = m.length ∧ Na.Dg q ∧ 0 ≤ β ∧ β < 4294967296 ∧ Na.V q + T * Na.V (l.take m.length) = Na.V m + β * Na.Bp m.length ∧ w.grownBy w' (some g)

set_option maxRecDepth 100000 in
set_option maxHeartbeats 2000000 in
theorem takeAway_any (A : Option Addr) (g off ca cb : Nat) (p s : List Value) (m l : List Int) (T : Int) (w : World) (hb : Blk w g p m s) (hp : p.length = off) (hd : Na.Dg m) (hs : RdOff w g A l) (hl : Na.Dg l) (ll : l.length ≤ 9223372036854775807)
    (T0 : 0 ≤ T) (T1 : T < 4294967296) (hm : m.length ≤ 1000000) :
    Calls Try.prog 116 #[.slice (some ⟨g, off, none⟩) m.length ca, .slice A l.length cb, .int .u32 T] w (PostTake g p s m l T w) := by
  have hst : Tak w w g p s m [] l T 0 := ⟨hb, by omega, by omega, Na.Dg.nil, by simp [Na.V], grown_refl _ _⟩
  have HST := Lib.hid hst; have Hs := Lib.hid hs; clear hst hs hb
  go_enter Try.func116, Try.ntmps116
  go_wp2_with fail
  go_loopw [7, 12] (fun r i wr => ∃ (k : Nat) (q : List Int) (β : Int), k ≤ m.length ∧ i = .int .i64 k ∧ r = .int .u64 β ∧ Hid (q.length = k) ∧ Hid (Tak w wr g p s m q l T β)) (fun _ i _ => m.length - (intOf i).toNat)
  case atStart => exact ⟨0, [], 0, by omega, rfl, rfl, Lib.hid rfl, HST⟩
  case round =>
    obtain ⟨k, q, β, hk, rfl, rfl, HQ, HS⟩ := hrel
    have β0 := HS.out.c0
    have β1 := HS.out.c1
    by_cases h0 : k = m.length
    · have hS := HS.out
      have hb := hS.blk
      have hv := hS.val
      have hq := HQ.out
      rw [h0] at hq
      rw [hq, List.drop_length, List.append_nil] at hb
      rw [hq, List.take_length] at hv
      have HB := Lib.hid hb; have HV := Lib.hid hv
      subst h0
      clear hS hb hv hq
      go_wp2_with fail
      go_ret
      exact ⟨q, β, rfl, HB.out, HQ.out, HS.out.dg, β0, β1, HV.out, HS.out.frm⟩
    · have q1 := limb_any A cb l k wr (Hs.out.kept HS.out.frm).rd ll
      obtain ⟨x0, x1⟩ := hl.at k
      obtain ⟨y0, y1⟩ := hd.at k
      obtain ⟨n0, n1⟩ := mul_bd T0 T1 x0 x1
      have st := fun lo hi v c a1 a2 a3 a4 a5 a6 => HS.out.step (lo := lo) (hi := hi) (v := v) (c := c) (i := off + k) (by rw [HQ.out]; omega) a1 a2 a3 a4 a5 a6 (by rw [HQ.out, hp])
      rw [HQ.out] at st
      have hc1 : wr.cell? ⟨g, off + k, none⟩ = some (.int .u32 (m.getD k 0)) := by
        have := HS.out.blk.cell k (by simp [HQ.out]; omega) (i := off + k) (by omega)
        rw [this, HQ.out, Na.get_win0 HQ.out]
      have hc2 := HS.out.blk.free (off + k)
      generalize l.getD k 0 = v at *
      generalize m.getD k 0 = z at *
      have f1 : IntKind.u64.wrap (v * T) = v * T := u64_in _ n0 (by omega)
      have hbd : v * T + β ≤ 18446744069414584320 := by
        have : v * T ≤ 4294967295 * 4294967295 := Int.mul_le_mul (by omega) (by omega) T0 (by omega)
        omega
      obtain ⟨tk, htk⟩ : ∃ tk, v * T + β = tk := ⟨_, rfl⟩
      rw [htk] at st hbd
      have t0 : 0 ≤ tk := by omega
      have f2 : IntKind.u64.wrap tk = tk := u64_in _ t0 (by omega)
      have Q1 := Lib.hid q1; have ST := Lib.hid st
      have i0 : (0 : Int) ≤ (k : Int) := by omega
      have i1 : (k : Int) < (m.length : Int) := by omega
      clear q1 st h0 hd hl
      by_cases hlt : z < tk % 4294967296
      · go_wp2_with (go_at_call 61; (with_reducible refine Q1.out.mono ?_); rintro e w' ⟨rfl, rfl⟩)
        exact ⟨⟨k + 1, _, _, by omega, by go_num, rfl, Lib.hid (by rw [List.length_append, HQ.out]; rfl), Lib.hid (ST.out (tk % 4294967296) (tk / 4294967296) _ 1 (by omega) (by omega) (by omega) (by omega) (by omega) (by omega))⟩, by simp [intOf]; omega⟩
      · go_wp2_with (go_at_call 61; (with_reducible refine Q1.out.mono ?_); rintro e w' ⟨rfl, rfl⟩)
        have hst := ST.out (tk % 4294967296) (tk / 4294967296) (z - tk % 4294967296) 0 (by omega) (by omega) (by omega) (by omega) (by omega) (by omega)
        rw [Int.add_zero] at hst
        exact ⟨⟨k + 1, _, _, by omega, by go_num, rfl, Lib.hid (by rw [List.length_append, HQ.out]; rfl), Lib.hid hst⟩, by simp [intOf]; omega⟩

end Go.Proofs.Ytgbifcfdbelfpaa
