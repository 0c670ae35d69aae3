/-
  The walks of nat.takeAway, slices.Clone and nat.Sub.
-/
import Derived.Test.YtgcfmkelanhdhaaDoorNatMul
namespace Go.Proofs.YtgcfmkelanhdhaaDoor
open Go.RowKit
set_option linter.unusedVariables false

/-- limbs that lie outside block g -/
def RdOff (w : World) (g : Nat) (A : Option Addr) (zs : List Int) : Prop :=
  0 < zs.length → ∃ b off, A = some ⟨b, off, none⟩ ∧ b < w.heap.size ∧ b ≠ g ∧ ∀ i, i < zs.length → w.cell? ⟨b, off + i, none⟩ = some (.int .u32 (zs.getD i 0))
theorem RdOff.rd {w : World} {g : Nat} {A : Option Addr} {zs : List Int} (h : RdOff w g A zs) : RdK .u32 w A zs := fun h0 => by
  obtain ⟨b, off, e, h1, -, h2⟩ := h h0
  exact ⟨b, off, e, h1, h2⟩
theorem RdOff.kept {w w' : World} {g : Nat} {A : Option Addr} {zs : List Int} (h : RdOff w g A zs) (hg : w.grownBy w' (some g)) : RdOff w' g A zs := fun h0 => by
  obtain ⟨b, off, e, h1, hne, h2⟩ := h h0
  exact ⟨b, off, e, by have := hg.size; omega, hne, fun i hi => hg.cell (h2 i hi) (by simpa using hne)⟩
theorem RdK.off {w w' : World} {g : Nat} {A : Option Addr} {zs : List Int} (h : RdK .u32 w A zs) (hb : Below w.heap.size w w') (hg : w.heap.size ≤ g) : RdOff w' g A zs := fun h0 => by
  obtain ⟨b, off, e, h1, h2⟩ := (RdK.below h hb) h0
  obtain ⟨b', off', e', h1', -⟩ := h h0
  obtain ⟨rfl, rfl⟩ : b = b' ∧ off = off' := by rw [e] at e'; simpa using e'
  exact ⟨b, off, e, h1, by omega, h2⟩
theorem Blk.off {w : World} {g h : Nat} {p s : List Value} {m : List Int} (hb : Blk w h p m s) (hne : h ≠ g) {i : Nat} (hi : i = p.length) : RdOff w g (some ⟨h, i, none⟩) m := fun h0 =>
  ⟨h, i, rfl, hb.lt, hne, fun k hk => hb.cell k hk (by omega)⟩

/-- q: the limbs from which something has been taken; m: what the limbs were -/
structure Tak (W w : World) (g : Nat) (p s : List Value) (m q l : List Int) (T β : Int) : Prop where
  blk : Blk w g p (q ++ m.drop q.length) s
  c0 : 0 ≤ β
  c1 : β < 4294967296
  dg : Na.Dg q
  val : Na.V q + T * Na.V (l.take q.length) = Na.V (m.take q.length) + β * Na.Bp q.length
  frm : W.grownBy w (some g)
theorem Tak.step {W w : World} {g : Nat} {p s : List Value} {m q l : List Int} {T β lo hi v c : Int} (h : Tak W w g p s m q l T β) (hq : q.length < m.length) (e : l.getD q.length 0 * T + β = lo + 4294967296 * hi) (hv : v = m.getD q.length 0 - lo + 4294967296 * c)
    (v0 : 0 ≤ v) (v1 : v < 4294967296) (c0 : 0 ≤ hi + c) (c1 : hi + c < 4294967296) {i : Nat} (hi' : i = p.length + q.length) :
    Tak W (w.setCell ⟨g, i, none⟩ (.int .u32 v)) g p s m (q ++ [v]) l T (hi + c) := by
  refine ⟨?_, c0, c1, h.dg.snoc v0 v1, ?_, grown_then h.frm (grown_set _ _ _) (fun k hk => by cases hk; exact .inr rfl)⟩
  · have := h.blk.set q.length (by simp; omega) v hi'
    rw [Na.set_win rfl hq] at this
    rw [List.length_append, List.length_singleton]
    exact this
  · rw [List.length_append, List.length_singleton, Na.V_take, Na.V_take]
    exact Na.bor rfl h.val e hv

/-- what is left: limbs m', and what was borrowed -/
def PostTake (g : Nat) (p s : List Value) (m l : List Int) (T : Int) (w : World) (e : Ending) (w' : World) : Prop :=
  ∃ q β, e = .returned (.bool (decide (0 < β))) ∧ Blk w' g p q s ∧ q.length = m.length ∧ Na.Dg q ∧ 0 ≤ β ∧ β < 4294967296 ∧ Na.V q + T * Na.V (l.take m.length) = Na.V m + β * Na.Bp m.length ∧ w.grownBy w' (some g)

set_option maxRecDepth 100000 in
set_option maxHeartbeats 2000000 in
theorem takeAway_any (A : Option Addr) (g off ca cb : Nat) (p s : List Value) (m l : List Int) (T : Int) (w : World) (hb : Blk w g p m s) (hp : p.length = off) (hd : Na.Dg m) (hs : RdOff w g A l) (hl : Na.Dg l) (ll : l.length ≤ 9223372036854775807)
    (T0 : 0 ≤ T) (T1 : T < 4294967296) (hm : m.length ≤ 1000000) :
    Calls Tryd.prog 42 #[.slice (some ⟨g, off, none⟩) m.length ca, .slice A l.length cb, .int .u32 T] w (PostTake g p s m l T w) := by
  have hst : Tak w w g p s m [] l T 0 := ⟨hb, by omega, by omega, Na.Dg.nil, by simp [Na.V], grown_refl _ _⟩
  have HST := Lib.hid hst; have Hs := Lib.hid hs; clear hst hs hb
  go_enter Tryd.func42, Tryd.ntmps42
  go_wp2_with fail
  go_loopw [7, 12] (fun r i wr => ∃ (k : Nat) (q : List Int) (β : Int), k ≤ m.length ∧ i = .int .i64 k ∧ r = .int .u64 β ∧ Hid (q.length = k) ∧ Hid (Tak w wr g p s m q l T β)) (fun _ i _ => m.length - (intOf i).toNat)
  case atStart => exact ⟨0, [], 0, by omega, rfl, rfl, Lib.hid rfl, HST⟩
  case round =>
    obtain ⟨k, q, β, hk, rfl, rfl, HQ, HS⟩ := hrel
    have β0 := HS.out.c0
    have β1 := HS.out.c1
    by_cases h0 : k = m.length
    · have hS := HS.out
      have hb := hS.blk
      have hv := hS.val
      have hq := HQ.out
      rw [h0] at hq
      rw [hq, List.drop_length, List.append_nil] at hb
      rw [hq, List.take_length] at hv
      have HB := Lib.hid hb; have HV := Lib.hid hv
      subst h0
      clear hS hb hv hq
      go_wp2_with fail
      go_ret
      exact ⟨q, β, rfl, HB.out, HQ.out, HS.out.dg, β0, β1, HV.out, HS.out.frm⟩
    · have q1 := limb_any A cb l k wr (Hs.out.kept HS.out.frm).rd ll
      obtain ⟨x0, x1⟩ := hl.at k
      obtain ⟨y0, y1⟩ := hd.at k
      obtain ⟨n0, n1⟩ := mul_bd T0 T1 x0 x1
      have st := fun lo hi v c a1 a2 a3 a4 a5 a6 => HS.out.step (lo := lo) (hi := hi) (v := v) (c := c) (i := off + k) (by rw [HQ.out]; omega) a1 a2 a3 a4 a5 a6 (by rw [HQ.out, hp])
      rw [HQ.out] at st
      have hc1 : wr.cell? ⟨g, off + k, none⟩ = some (.int .u32 (m.getD k 0)) := by
        have := HS.out.blk.cell k (by simp [HQ.out]; omega) (i := off + k) (by omega)
        rw [this, HQ.out, Na.get_win0 HQ.out]
      have hc2 := HS.out.blk.free (off + k)
      generalize l.getD k 0 = v at *
      generalize m.getD k 0 = z at *
      have f1 : IntKind.u64.wrap (v * T) = v * T := u64_in _ n0 (by omega)
      have hbd : v * T + β ≤ 18446744069414584320 := by
        have : v * T ≤ 4294967295 * 4294967295 := Int.mul_le_mul (by omega) (by omega) T0 (by omega)
        omega
      obtain ⟨tk, htk⟩ : ∃ tk, v * T + β = tk := ⟨_, rfl⟩
      rw [htk] at st hbd
      have t0 : 0 ≤ tk := by omega
      have f2 : IntKind.u64.wrap tk = tk := u64_in _ t0 (by omega)
      have Q1 := Lib.hid q1; have ST := Lib.hid st
      have i0 : (0 : Int) ≤ (k : Int) := by omega
      have i1 : (k : Int) < (m.length : Int) := by omega
      clear q1 st h0 hd hl
      by_cases hlt : z < tk % 4294967296
      · go_wp2_with (go_at_call 39; (with_reducible refine Q1.out.mono ?_); rintro e w' ⟨rfl, rfl⟩)
        exact ⟨⟨k + 1, _, _, by omega, by go_num, rfl, Lib.hid (by rw [List.length_append, HQ.out]; rfl), Lib.hid (ST.out (tk % 4294967296) (tk / 4294967296) _ 1 (by omega) (by omega) (by omega) (by omega) (by omega) (by omega))⟩, by simp [intOf]; omega⟩
      · go_wp2_with (go_at_call 39; (with_reducible refine Q1.out.mono ?_); rintro e w' ⟨rfl, rfl⟩)
        have hst := ST.out (tk % 4294967296) (tk / 4294967296) (z - tk % 4294967296) 0 (by omega) (by omega) (by omega) (by omega) (by omega) (by omega)
        rw [Int.add_zero] at hst
        exact ⟨⟨k + 1, _, _, by omega, by go_num, rfl, Lib.hid (by rw [List.length_append, HQ.out]; rfl), Lib.hid hst⟩, by simp [intOf]; omega⟩

/-- a clone: limbs in a block of the call's own -/
def PostClone (l : List Int) (W : World) (e : Ending) (w' : World) : Prop :=
  ∃ v, e = .returned v ∧ ((l = [] ∧ v = .slice none 0 0) ∨ ∃ g s, v = .slice (some ⟨g, 0, none⟩) l.length (l.length + s.length) ∧ Blk w' g [] l s ∧ W.heap.size ≤ g ∧ l.length + s.length ≤ maxLen) ∧ Below W.heap.size W w'
set_option maxRecDepth 100000 in
set_option maxHeartbeats 1000000 in
theorem clone_any (A : Option Addr) (cap : Nat) (l : List Int) (w : World) (hr : RdK .u32 w A l) (hl : l.length ≤ 1000000000) :
    Calls Tryd.prog 41 #[.slice A l.length cap] w (PostClone l w) := by
  obtain ⟨i0, hi, hz0, hz1, hz2⟩ := info_parts infoU32
  have Hr := Lib.hid hr; clear hr
  have hnil := fun wx => Lib.run_eql_slice_nil (P := Tryd.prog) wx 22 48 A l.length cap 0 0 Tryd.underlying22
  cases A with
  | none =>
    have hn : l = [] := by
      cases l with
      | nil => rfl
      | cons x t => obtain ⟨b, off, e, -⟩ := Hr.out (by simp); cases e
    subst hn
    clear hnil
    have hnil := fun wx => Lib.run_eql_slice_nil (P := Tryd.prog) wx 22 48 none 0 cap 0 0 Tryd.underlying22
    go_enter Tryd.func41, Tryd.ntmps41
    go_wp2_with fail
    go_ret
    exact ⟨_, rfl, .inl ⟨rfl, rfl⟩, Below.refl _ _⟩
  | some ad =>
    have B0 := Lib.hid ((Below.refl w.heap.size w).alloc (Nat.le_refl _) (.cells #[] 48))
    have hcells : ∀ j u, (l.map (Value.int .u32))[j]? = some u → (w.alloc (.cells #[] 48)).cell? (ad.add j) = some u := by
      intro j u hu
      have hj : j < l.length := by
        have := (List.getElem?_eq_some_iff.1 hu).1
        simpa using this
      obtain ⟨b, off, e, -, hc⟩ := (RdK.below Hr.out B0.out) (by omega)
      obtain rfl := Option.some.inj e
      have ea : (⟨b, off, none⟩ : Addr).add j = ⟨b, off + j, none⟩ := by unfold Addr.add; split <;> simp [*]
      rw [ea, hc j hj]
      simpa [List.getD_eq_getElem?_getD, List.getElem?_eq_getElem hj] using hu
    have HC := Lib.hid hcells; clear hcells
    have HO := Lib.hid (World.ownsRow_lit (base := w.heap.size) (e := 48) (size := 1) w #[] 0 (Nat.le_refl _) (by simp [maxLen]) rfl)
    go_enter Tryd.func41, Tryd.ntmps41
    go_wp2_with (at_builtin; refine wpList_append_own _ rfl _ _ 22 rfl w.heap.size 48 i0 (.int .u32 0) 1 4 Tryd.underlying22 hi hz0 hz1 hz2 rfl (by decide) _ 0 [] rfl HO.out ad l.length cap (l.map (Value.int .u32)) rfl (by simp) HC.out ?c1 ?c2 ?c3 (by simp) ?_)
    case c1 => intro u hu; first | rfl | (obtain ⟨z, -, rfl⟩ := List.mem_map.1 hu; rfl)
    case c2 => unfold maxLen; omega
    case c3 => omega
    intro v' w1 h1 h2 h3
    have B1 := Lib.hid (B0.out.grown h2 (by simp) (fun k hk => by cases hk; exact Nat.le_refl _))
    try rw [List.nil_append, Nat.zero_add] at h1
    rcases own_val h1 with ⟨rfl, hnil, hz⟩ | ⟨g, s, rfl, hB, -, hg, hs⟩
    · exfalso
      first | exact h3 rfl | (have := h3.1 rfl; simp at this)
    · have HB := Lib.hid hB
      clear h1 h2 h3 hB
      go_wp2_with fail
      go_ret
      exact ⟨_, rfl, .inr ⟨g, s, rfl, HB.out, hg, hs⟩, B1.out⟩

end Go.Proofs.YtgcfmkelanhdhaaDoor
