/-
  What the examples of the chapter are.
-/
import Derived.Test.YtgbifcfdbelfpaaStaIter
import Derived.Maps.RangeWalk
import Derived.Maps.OwnSet
namespace Go.Proofs.Ytgbifcfdbelfpaa
open Go.RowKit Go.Maps
set_option linter.unusedVariables false

theorem wpList_insert_own {H : Type} {P : Program} (w : World) {ops : Array Oper} {rest : List Oper} {o : Oper} {a : Act} {Q : Exit → Act → World → Prop}
    (hg : o.guard = none) (m x v : Operand) (t : TypeId) (hop : o.op = Op.insert t m x v)
    (k e : TypeId) (K : Keyed P k) (ht : P.underlying t = some (.map k e)) (R : Value → Option (DataW H × List MemPlace)) (b n : Nat) (D : DataW H)
    (hm : a.eval m = .map (some b)) (hown : w.ownsMap P k R b n D) (hn : n < maxLen) (key val : Value) (kl : Lit) (hx : a.eval x = key) (hv : a.eval v = val) (hkey : keyOf P k key = some kl)
    (d : DataW H) (ps : List MemPlace) (hval : R val = some (d, ps))
    (hK : ∀ w', w'.ownsMap P k R b (n + 1) (D.put kl d) → w.grownBy w' (some b) → wpList P ops Q rest (a.put o.dst undef) w') :
    wpList P ops Q (o :: rest) a w := by
  refine wpList_plain hg fun K' hK' => ?_
  obtain ⟨w', hrun, r1, r2⟩ := hown.update K ht hn hkey hval
  unfold Oper.wp
  simp [execOp, hop, hm, hx, hv, hrun, Result.andThen]
  exact hK' _ _ (hK w' r1 r2)

/-- the quantiles of the chapter's list -/
def D4 : DataW Unit := ((((DataW.map []).put (.int .i64 0) (.lit (.int .i64 1))).put (.int .i64 5000) (.lit (.int .i64 2))).put (.int .i64 9000) (.lit (.int .i64 5))).put (.int .i64 10000) (.lit (.int .i64 5))
theorem D4_is : D4 = .map [(.int .i64 0, .lit (.int .i64 1)), (.int .i64 5000, .lit (.int .i64 2)), (.int .i64 9000, .lit (.int .i64 5)), (.int .i64 10000, .lit (.int .i64 5))] := by rfl
theorem D4_has {x c : Int} (h : Maps.has D4 (.int .i64 x) = true) (hat : ∀ zd, D4.atKey (.int .i64 x) zd = .lit (.int .i64 c)) : (x = 0 ∧ c = 1) ∨ (x = 5000 ∧ c = 2) ∨ (x = 9000 ∧ c = 5) ∨ (x = 10000 ∧ c = 5) := by
  rw [D4_is] at h hat
  have ha := hat .nil
  have one : ∀ {a b : Int}, (DataW.lit (.int .i64 a) : DataW Unit) = .lit (.int .i64 b) → a = b := fun e => by cases e; rfl
  by_cases e1 : x = 0
  · subst e1; exact .inl ⟨rfl, (one ha).symm⟩
  by_cases e2 : x = 5000
  · subst e2; exact .inr (.inl ⟨rfl, (one ha).symm⟩)
  by_cases e3 : x = 9000
  · subst e3; exact .inr (.inr (.inl ⟨rfl, (one ha).symm⟩))
  by_cases e4 : x = 10000
  · subst e4; exact .inr (.inr (.inr ⟨rfl, (one ha).symm⟩))
  exfalso
  simp [Maps.has, Lit.sameKey] at h
  omega
theorem srt_4 : srt [5, 1, 4, 2] = [1, 2, 4, 5] := by
  simp [srt, List.mergeSort, List.MergeSort.Internal.splitInTwo]
theorem num_one {W : World} {A : Option Addr} {l : List Int} {z : Int} (h : Num W A l z) (h0 : 0 < z) (h1 : z < 4294967296) : l = [z] := by
  refine h.can.inj (Na.Can.of_last (Na.Dg.cons.2 ⟨⟨by omega, h1⟩, Na.Dg.nil⟩) (fun _ => ?_)) ?_
  · simp; omega
  · rw [h.val]; simp [Na.V]
theorem ex_low (n k : Nat) (r : Int) (s : Nat) (h : s ≤ 10000) (h1 : s = 0 ∨ exB n r (upc n k ((s - 1 : Nat) : Int)) = false) (h2 : s = 10000 ∨ exB n r (upc n k s) = true) : (lowB n k r : Int) = s := by rw [← lowB_is h h1 h2]
theorem low_1 : (lowB 10 10 500 : Int) = 7412 := ex_low 10 10 500 7412 (by decide) (.inr (by decide)) (.inr (by decide))
theorem low_2 : (lowB 10 0 500 : Int) = 0 := ex_low 10 0 500 0 (by decide) (.inl rfl) (.inr (by decide))
theorem low_3 : (lowB 0 0 500 : Int) = 0 := ex_low 0 0 500 0 (by decide) (.inl rfl) (.inr (by decide))
theorem qnt_0 : qnt [5, 1, 4, 2] 0 = 1 := by unfold qnt; rw [srt_4]; rfl
theorem qnt_1 : qnt [5, 1, 4, 2] 5000 = 2 := by unfold qnt; rw [srt_4]; rfl
theorem qnt_2 : qnt [5, 1, 4, 2] 9000 = 5 := by unfold qnt; rw [srt_4]; rfl
theorem qnt_3 : qnt [5, 1, 4, 2] 10000 = 5 := by unfold qnt; rw [srt_4]; rfl
theorem quantile_4 (x c : Int) (h : (x = 0 ∧ c = 1) ∨ (x = 5000 ∧ c = 2) ∨ (x = 9000 ∧ c = 5) ∨ (x = 10000 ∧ c = 5)) (W : World) :
    Calls Try.prog 37 #[.slice (some ⟨W.heap.size, 0, none⟩) 4 4, .int .i64 x] (W.alloc (.cells #[.int .i64 5, .int .i64 1, .int .i64 4, .int .i64 2] 3)) fun e w' => e = .returned (.tuple #[.int .i64 c, .int .i64 0]) ∧ Below W.heap.size W w' := by
  have hq := quantile_ok W.heap.size 0 4 [5, 1, 4, 2] x (W.alloc (.cells #[.int .i64 5, .int .i64 1, .int .i64 4, .int .i64 2] 3)) (by decide) (by simp) (by omega) (by omega) (by simp)
    (fun j hj => ((rdk_new .i64 W [5, 1, 4, 2] 3 (by decide)).elim fun b h => h.elim fun off h => by
      obtain ⟨e, _, hc⟩ := h
      cases e
      exact hc j hj))
  have e : qnt [5, 1, 4, 2] x = c := by
    rcases h with ⟨rfl, rfl⟩ | ⟨rfl, rfl⟩ | ⟨rfl, rfl⟩ | ⟨rfl, rfl⟩
    · exact qnt_0
    · exact qnt_1
    · exact qnt_2
    · exact qnt_3
  rw [e] at hq
  refine hq.mono ?_
  rintro e w' ⟨h1, h2⟩
  exact ⟨h1, ((Below.refl W.heap.size W).alloc (Nat.le_refl _) _).trans (h2.mono (by simp))⟩
theorem choose_52 (W : World) : Calls Try.prog 32 #[.int .i64 5, .int .i64 2] W (PostNumE 10 W) := choose_ok 5 2 W (by decide) (by decide)
theorem chance_21 (W : World) : Calls Try.prog 22 #[.int .i64 2, .int .i64 1, .int .i64 2500] W (PostNumE 37500000 W) := chance_ok 2 1 2500 W (by decide) (by decide) (by decide) (by decide)
theorem upper_21 (W : World) : Calls Try.prog 28 #[.int .i64 2, .int .i64 1, .int .i64 2500] W (PostNumE 43750000 W) := upper_ok 2 1 2500 W (by decide) (by decide) (by decide) (by decide)
theorem least_1 (W : World) : Calls Try.prog 23 #[.int .i64 10, .int .i64 10, .int .i64 500] W (PostIntE 7412 W) := by
  have h := least_ok 10 10 500 W (by decide) (by decide) (by decide) (by decide)
  rw [low_1] at h
  exact h
theorem least_2 (W : World) : Calls Try.prog 23 #[.int .i64 10, .int .i64 0, .int .i64 500] W (PostIntE 0 W) := by
  have h := least_ok 10 0 500 W (by decide) (by decide) (by decide) (by decide)
  rw [low_2] at h
  exact h
theorem great_1 (W : World) : Calls Try.prog 24 #[.int .i64 10, .int .i64 0, .int .i64 500] W (PostIntE 2588 W) := by
  have h := greatest_ok 10 0 500 W (by decide) (by decide) (by decide) (by decide)
  rw [show 10 - 0 = 10 from rfl, low_1] at h
  exact h
theorem great_2 (W : World) : Calls Try.prog 24 #[.int .i64 0, .int .i64 0, .int .i64 500] W (PostIntE 10000 W) := by
  have h := greatest_ok 0 0 500 W (by decide) (by decide) (by decide) (by decide)
  rw [show 0 - 0 = 0 from rfl, low_3] at h
  exact h
theorem same4_any (A B : Option Addr) (ca cb : Nat) (l m : List Int) (w : World) (hr : RdK .u32 w A l) (hs : RdK .u32 w B m) (hl : l.length ≤ 9223372036854775807) (hm : m.length ≤ 9223372036854775807) :
    Calls Try.prog 30 #[.slice A l.length ca, .slice B m.length cb] w fun e w' => e = .returned (.bool (decide (l = m))) ∧ Below w.heap.size w w' := by
  have H := Lib.hid (same_any A B ca cb l m w hr hs hl hm)
  clear hr hs
  go_enter Try.func30, Try.ntmps30
  go_wp2_with (go_at_call 63; (with_reducible refine H.out.mono ?_); rintro e w1 ⟨rfl, hb⟩; have HB := Lib.hid hb; clear hb)
  go_ret
  exact ⟨rfl, HB.out⟩
/-- numbers are the same if and only if they are equal -/
theorem same_num (A B : Option Addr) (ca cb : Nat) (l m : List Int) (x y : Int) (w : World) (hr : Num w A l x) (hs : Num w B m y) :
    Calls Try.prog 30 #[.slice A l.length ca, .slice B m.length cb] w fun e w' => e = .returned (.bool (decide (x = y))) ∧ Below w.heap.size w w' := by
  have h := same4_any A B ca cb l m w hr.rd hs.rd (by have := hr.len; omega) (by have := hs.len; omega)
  have e : decide (l = m) = decide (x = y) := by
    rw [decide_eq_decide, ← hr.val, ← hs.val]
    exact ⟨fun e => by rw [e], fun e => hr.can.inj hs.can e⟩
  rw [e] at h
  exact h
/-- a new slice of one limb -/
theorem same_lit (A : Option Addr) (c : Nat) (l : List Int) (z : Int) (w : World) (hr : Num w A l z) (h0 : 0 < z) (h1 : z < 4294967296) :
    Calls Try.prog 30 #[.slice A l.length c, .slice (some ⟨w.heap.size, 0, none⟩) 1 1] (w.alloc (.cells #[.int .u32 z] 55)) fun e w' => e = .returned (.bool true) ∧ Below (w.heap.size + 1) (w.alloc (.cells #[.int .u32 z] 55)) w' := by
  have e := num_one hr h0 h1
  have h := same4_any A (some ⟨w.heap.size, 0, none⟩) c 1 l [z] _ ((hr.below ((Below.refl _ w).alloc (Nat.le_refl _) _)).rd) (rdk_new .u32 w [z] 55) (by have := hr.len; omega) (by simp)
  rw [decide_eq_true e] at h
  simpa using h
end Go.Proofs.Ytgbifcfdbelfpaa
