/-
  The region of the reference's Read: ten times what is read so far, and the next digit.
-/
import Derived.Test.YtgcfmkelanhdhaaDoorNatReg
namespace Go.Proofs.YtgcfmkelanhdhaaDoor
open Go.RowKit
set_option linter.unusedVariables false

def putRd (a : Act) (f : Nat → Value) : Act := ((((((((((((a.put (some 42) (f 0)).put (some 43) (f 1)).put (some 44) (f 2)).put (some 45) (f 3)).put (some 46) (f 4)).put (some 47) (f 5)).put (some 48) (f 6)).put (some 49) (f 7)).put (some 50) (f 8)).put (some 51) (f 9)).put (some 52) (f 10)).put (some 4) (f 11))
def slotsRd (a : Act) : Nat → Value
  | 0 => a.eval (.tmp 42)
  | 1 => a.eval (.tmp 43)
  | 2 => a.eval (.tmp 44)
  | 3 => a.eval (.tmp 45)
  | 4 => a.eval (.tmp 46)
  | 5 => a.eval (.tmp 47)
  | 6 => a.eval (.tmp 48)
  | 7 => a.eval (.tmp 49)
  | 8 => a.eval (.tmp 50)
  | 9 => a.eval (.tmp 51)
  | 10 => a.eval (.tmp 52)
  | 11 => a.eval (.tmp 4)
  | _ => undef
theorem putRd_self (a : Act) : putRd a (slotsRd a) = a := by
  simp only [putRd, slotsRd, put_self]
theorem putRd_e0 (a : Act) (f : Nat → Value) : (putRd a f).eval (.tmp 0) = a.eval (.tmp 0) := by
  unfold putRd
  rw [eval_ne _ 4 0 _ (by decide), eval_ne _ 52 0 _ (by decide), eval_ne _ 51 0 _ (by decide), eval_ne _ 50 0 _ (by decide), eval_ne _ 49 0 _ (by decide), eval_ne _ 48 0 _ (by decide), eval_ne _ 47 0 _ (by decide), eval_ne _ 46 0 _ (by decide), eval_ne _ 45 0 _ (by decide), eval_ne _ 44 0 _ (by decide), eval_ne _ 43 0 _ (by decide), eval_ne _ 42 0 _ (by decide)]
theorem putRd_e6 (a : Act) (f : Nat → Value) : (putRd a f).eval (.tmp 6) = a.eval (.tmp 6) := by
  unfold putRd
  rw [eval_ne _ 4 6 _ (by decide), eval_ne _ 52 6 _ (by decide), eval_ne _ 51 6 _ (by decide), eval_ne _ 50 6 _ (by decide), eval_ne _ 49 6 _ (by decide), eval_ne _ 48 6 _ (by decide), eval_ne _ 47 6 _ (by decide), eval_ne _ 46 6 _ (by decide), eval_ne _ 45 6 _ (by decide), eval_ne _ 44 6 _ (by decide), eval_ne _ 43 6 _ (by decide), eval_ne _ 42 6 _ (by decide)]
theorem putRd_e42 (a : Act) (h : 52 < a.tmps.size) (f : Nat → Value) : (putRd a f).eval (.tmp 42) = f 0 := by
  unfold putRd
  rw [eval_ne _ 4 42 _ (by decide), eval_ne _ 52 42 _ (by decide), eval_ne _ 51 42 _ (by decide), eval_ne _ 50 42 _ (by decide), eval_ne _ 49 42 _ (by decide), eval_ne _ 48 42 _ (by decide), eval_ne _ 47 42 _ (by decide), eval_ne _ 46 42 _ (by decide), eval_ne _ 45 42 _ (by decide), eval_ne _ 44 42 _ (by decide), eval_ne _ 43 42 _ (by decide), eval_eq _ 42 _ (by first | omega | (simp only [size_put]; omega))]
theorem putRd_e43 (a : Act) (h : 52 < a.tmps.size) (f : Nat → Value) : (putRd a f).eval (.tmp 43) = f 1 := by
  unfold putRd
  rw [eval_ne _ 4 43 _ (by decide), eval_ne _ 52 43 _ (by decide), eval_ne _ 51 43 _ (by decide), eval_ne _ 50 43 _ (by decide), eval_ne _ 49 43 _ (by decide), eval_ne _ 48 43 _ (by decide), eval_ne _ 47 43 _ (by decide), eval_ne _ 46 43 _ (by decide), eval_ne _ 45 43 _ (by decide), eval_ne _ 44 43 _ (by decide), eval_eq _ 43 _ (by first | omega | (simp only [size_put]; omega))]
theorem putRd_e44 (a : Act) (h : 52 < a.tmps.size) (f : Nat → Value) : (putRd a f).eval (.tmp 44) = f 2 := by
  unfold putRd
  rw [eval_ne _ 4 44 _ (by decide), eval_ne _ 52 44 _ (by decide), eval_ne _ 51 44 _ (by decide), eval_ne _ 50 44 _ (by decide), eval_ne _ 49 44 _ (by decide), eval_ne _ 48 44 _ (by decide), eval_ne _ 47 44 _ (by decide), eval_ne _ 46 44 _ (by decide), eval_ne _ 45 44 _ (by decide), eval_eq _ 44 _ (by first | omega | (simp only [size_put]; omega))]
theorem putRd_e45 (a : Act) (h : 52 < a.tmps.size) (f : Nat → Value) : (putRd a f).eval (.tmp 45) = f 3 := by
  unfold putRd
  rw [eval_ne _ 4 45 _ (by decide), eval_ne _ 52 45 _ (by decide), eval_ne _ 51 45 _ (by decide), eval_ne _ 50 45 _ (by decide), eval_ne _ 49 45 _ (by decide), eval_ne _ 48 45 _ (by decide), eval_ne _ 47 45 _ (by decide), eval_ne _ 46 45 _ (by decide), eval_eq _ 45 _ (by first | omega | (simp only [size_put]; omega))]
theorem putRd_e46 (a : Act) (h : 52 < a.tmps.size) (f : Nat → Value) : (putRd a f).eval (.tmp 46) = f 4 := by
  unfold putRd
  rw [eval_ne _ 4 46 _ (by decide), eval_ne _ 52 46 _ (by decide), eval_ne _ 51 46 _ (by decide), eval_ne _ 50 46 _ (by decide), eval_ne _ 49 46 _ (by decide), eval_ne _ 48 46 _ (by decide), eval_ne _ 47 46 _ (by decide), eval_eq _ 46 _ (by first | omega | (simp only [size_put]; omega))]
theorem putRd_e47 (a : Act) (h : 52 < a.tmps.size) (f : Nat → Value) : (putRd a f).eval (.tmp 47) = f 5 := by
  unfold putRd
  rw [eval_ne _ 4 47 _ (by decide), eval_ne _ 52 47 _ (by decide), eval_ne _ 51 47 _ (by decide), eval_ne _ 50 47 _ (by decide), eval_ne _ 49 47 _ (by decide), eval_ne _ 48 47 _ (by decide), eval_eq _ 47 _ (by first | omega | (simp only [size_put]; omega))]
theorem putRd_e48 (a : Act) (h : 52 < a.tmps.size) (f : Nat → Value) : (putRd a f).eval (.tmp 48) = f 6 := by
  unfold putRd
  rw [eval_ne _ 4 48 _ (by decide), eval_ne _ 52 48 _ (by decide), eval_ne _ 51 48 _ (by decide), eval_ne _ 50 48 _ (by decide), eval_ne _ 49 48 _ (by decide), eval_eq _ 48 _ (by first | omega | (simp only [size_put]; omega))]
theorem putRd_e49 (a : Act) (h : 52 < a.tmps.size) (f : Nat → Value) : (putRd a f).eval (.tmp 49) = f 7 := by
  unfold putRd
  rw [eval_ne _ 4 49 _ (by decide), eval_ne _ 52 49 _ (by decide), eval_ne _ 51 49 _ (by decide), eval_ne _ 50 49 _ (by decide), eval_eq _ 49 _ (by first | omega | (simp only [size_put]; omega))]
theorem putRd_e50 (a : Act) (h : 52 < a.tmps.size) (f : Nat → Value) : (putRd a f).eval (.tmp 50) = f 8 := by
  unfold putRd
  rw [eval_ne _ 4 50 _ (by decide), eval_ne _ 52 50 _ (by decide), eval_ne _ 51 50 _ (by decide), eval_eq _ 50 _ (by first | omega | (simp only [size_put]; omega))]
theorem putRd_e51 (a : Act) (h : 52 < a.tmps.size) (f : Nat → Value) : (putRd a f).eval (.tmp 51) = f 9 := by
  unfold putRd
  rw [eval_ne _ 4 51 _ (by decide), eval_ne _ 52 51 _ (by decide), eval_eq _ 51 _ (by first | omega | (simp only [size_put]; omega))]
theorem putRd_e52 (a : Act) (h : 52 < a.tmps.size) (f : Nat → Value) : (putRd a f).eval (.tmp 52) = f 10 := by
  unfold putRd
  rw [eval_ne _ 4 52 _ (by decide), eval_eq _ 52 _ (by first | omega | (simp only [size_put]; omega))]
theorem putRd_e4 (a : Act) (h : 52 < a.tmps.size) (f : Nat → Value) : (putRd a f).eval (.tmp 4) = f 11 := by
  unfold putRd
  rw [eval_eq _ 4 _ (by first | omega | (simp only [size_put]; omega))]
theorem putRd_p0 (a : Act) (f : Nat → Value) (v : Value) : (putRd a f).put (some 42) v = putRd a (upd f 0 v) := by
  unfold putRd
  rw [put_ne _ 4 42 _ _ (by decide), put_ne _ 52 42 _ _ (by decide), put_ne _ 51 42 _ _ (by decide), put_ne _ 50 42 _ _ (by decide), put_ne _ 49 42 _ _ (by decide), put_ne _ 48 42 _ _ (by decide), put_ne _ 47 42 _ _ (by decide), put_ne _ 46 42 _ _ (by decide), put_ne _ 45 42 _ _ (by decide), put_ne _ 44 42 _ _ (by decide), put_ne _ 43 42 _ _ (by decide), put_eq _ 42]
  rfl
theorem putRd_p1 (a : Act) (f : Nat → Value) (v : Value) : (putRd a f).put (some 43) v = putRd a (upd f 1 v) := by
  unfold putRd
  rw [put_ne _ 4 43 _ _ (by decide), put_ne _ 52 43 _ _ (by decide), put_ne _ 51 43 _ _ (by decide), put_ne _ 50 43 _ _ (by decide), put_ne _ 49 43 _ _ (by decide), put_ne _ 48 43 _ _ (by decide), put_ne _ 47 43 _ _ (by decide), put_ne _ 46 43 _ _ (by decide), put_ne _ 45 43 _ _ (by decide), put_ne _ 44 43 _ _ (by decide), put_eq _ 43]
  rfl
theorem putRd_p2 (a : Act) (f : Nat → Value) (v : Value) : (putRd a f).put (some 44) v = putRd a (upd f 2 v) := by
  unfold putRd
  rw [put_ne _ 4 44 _ _ (by decide), put_ne _ 52 44 _ _ (by decide), put_ne _ 51 44 _ _ (by decide), put_ne _ 50 44 _ _ (by decide), put_ne _ 49 44 _ _ (by decide), put_ne _ 48 44 _ _ (by decide), put_ne _ 47 44 _ _ (by decide), put_ne _ 46 44 _ _ (by decide), put_ne _ 45 44 _ _ (by decide), put_eq _ 44]
  rfl
theorem putRd_p3 (a : Act) (f : Nat → Value) (v : Value) : (putRd a f).put (some 45) v = putRd a (upd f 3 v) := by
  unfold putRd
  rw [put_ne _ 4 45 _ _ (by decide), put_ne _ 52 45 _ _ (by decide), put_ne _ 51 45 _ _ (by decide), put_ne _ 50 45 _ _ (by decide), put_ne _ 49 45 _ _ (by decide), put_ne _ 48 45 _ _ (by decide), put_ne _ 47 45 _ _ (by decide), put_ne _ 46 45 _ _ (by decide), put_eq _ 45]
  rfl
theorem putRd_p4 (a : Act) (f : Nat → Value) (v : Value) : (putRd a f).put (some 46) v = putRd a (upd f 4 v) := by
  unfold putRd
  rw [put_ne _ 4 46 _ _ (by decide), put_ne _ 52 46 _ _ (by decide), put_ne _ 51 46 _ _ (by decide), put_ne _ 50 46 _ _ (by decide), put_ne _ 49 46 _ _ (by decide), put_ne _ 48 46 _ _ (by decide), put_ne _ 47 46 _ _ (by decide), put_eq _ 46]
  rfl
theorem putRd_p5 (a : Act) (f : Nat → Value) (v : Value) : (putRd a f).put (some 47) v = putRd a (upd f 5 v) := by
  unfold putRd
  rw [put_ne _ 4 47 _ _ (by decide), put_ne _ 52 47 _ _ (by decide), put_ne _ 51 47 _ _ (by decide), put_ne _ 50 47 _ _ (by decide), put_ne _ 49 47 _ _ (by decide), put_ne _ 48 47 _ _ (by decide), put_eq _ 47]
  rfl
theorem putRd_p6 (a : Act) (f : Nat → Value) (v : Value) : (putRd a f).put (some 48) v = putRd a (upd f 6 v) := by
  unfold putRd
  rw [put_ne _ 4 48 _ _ (by decide), put_ne _ 52 48 _ _ (by decide), put_ne _ 51 48 _ _ (by decide), put_ne _ 50 48 _ _ (by decide), put_ne _ 49 48 _ _ (by decide), put_eq _ 48]
  rfl
theorem putRd_p7 (a : Act) (f : Nat → Value) (v : Value) : (putRd a f).put (some 49) v = putRd a (upd f 7 v) := by
  unfold putRd
  rw [put_ne _ 4 49 _ _ (by decide), put_ne _ 52 49 _ _ (by decide), put_ne _ 51 49 _ _ (by decide), put_ne _ 50 49 _ _ (by decide), put_eq _ 49]
  rfl
theorem putRd_p8 (a : Act) (f : Nat → Value) (v : Value) : (putRd a f).put (some 50) v = putRd a (upd f 8 v) := by
  unfold putRd
  rw [put_ne _ 4 50 _ _ (by decide), put_ne _ 52 50 _ _ (by decide), put_ne _ 51 50 _ _ (by decide), put_eq _ 50]
  rfl
theorem putRd_p9 (a : Act) (f : Nat → Value) (v : Value) : (putRd a f).put (some 51) v = putRd a (upd f 9 v) := by
  unfold putRd
  rw [put_ne _ 4 51 _ _ (by decide), put_ne _ 52 51 _ _ (by decide), put_eq _ 51]
  rfl
theorem putRd_p10 (a : Act) (f : Nat → Value) (v : Value) : (putRd a f).put (some 52) v = putRd a (upd f 10 v) := by
  unfold putRd
  rw [put_ne _ 4 52 _ _ (by decide), put_eq _ 52]
  rfl
theorem putRd_p11 (a : Act) (f : Nat → Value) (v : Value) : (putRd a f).put (some 4) v = putRd a (upd f 11 v) := by
  unfold putRd
  rw [put_eq _ 4]
  rfl
/-- a slice of bits of a number -/
def SB (w : World) (v : Value) (z : Int) : Prop := ∃ A c q, v = .slice A q.length c ∧ NumB w A q z ∧ q.length ≤ c ∧ c ≤ 9223372036854775807
theorem SB.below {w w' : World} {v : Value} {z : Int} (h : SB w v z) (hb : Below w.heap.size w w') : SB w' v z := by
  obtain ⟨A, c, q, h1, h2, h3⟩ := h
  exact ⟨A, c, q, h1, h2.below hb, h3⟩
def HoldsRd (s : ByteArray) (k : Nat) (c y : Int) (w : World) : Nat → Value → Prop
  | 0, v => ∃ A, v = .slice A 4 4 ∧ NumB w A [0, 1, 0, 1] 10
  | 1, v => SB w v y
  | 2, v => SB w v (10 * y)
  | 3, v => v = .string s
  | 4, v => v = .int .i64 k
  | 5, v => v = .int .u8 c
  | 6, v => v = .int .u8 (c - 48)
  | 7, v => v = .int .u32 (c - 48)
  | 8, v => Full w v [c - 48]
  | 9, v => SB w v (c - 48)
  | 10, v => SB w v (10 * y + (c - 48))
  | 11, v => SB w v (10 * y + (c - 48))
  | _, _ => True
theorem Full.below {w w' : World} {v : Value} {l : List Int} (h : Full w v l) (hb : Below w.heap.size w w') : Full w' v l := by
  obtain ⟨g, h1, h2⟩ := h
  exact ⟨g, h1, h2.below hb⟩
theorem HoldsRd.below {s : ByteArray} {k : Nat} {c y : Int} (w w' : World) (j : Nat) (v : Value) (h : HoldsRd s k c y w j v) (hb : Below w.heap.size w w') : HoldsRd s k c y w' j v := by
  unfold HoldsRd at *
  split at h
  · obtain ⟨A, h1, h2⟩ := h
    exact ⟨A, h1, h2.below hb⟩
  all_goals first | exact h | exact SB.below h hb | exact Full.below h hb | trivial
structure RegRd (ops : Array Oper) : Prop where
  size : ops.size = 12
  early : Earlier ops
  o0 : IsOp ops 0 42 (.buildSlice 77 4 #[(0, .const (.int .i64 0)), (1, .const (.int .i64 1)), (2, .const (.int .i64 0)), (3, .const (.int .i64 1))])
  o1 : IsOp ops 1 43 (.move (.tmp 4))
  o2 : IsOp ops 2 44 (.call { callee := .value (.func 56), args := #[.tmp 42, .tmp 43], argTypes := #[77, 77] })
  o3 : IsOp ops 3 45 (.move (.tmp 0))
  o4 : IsOp ops 4 46 (.move (.tmp 6))
  o5 : IsOp ops 5 47 (.index 9 (.tmp 45) (.tmp 46))
  o6 : IsOp ops 6 48 (.binOp .sub 5 (.tmp 47) (.const (.int .u8 48)) 5)
  o7 : IsOp ops 7 49 (.convert 5 48 (.tmp 48))
  o8 : IsOp ops 8 50 (.buildSlice 22 1 #[(0, .tmp 49)])
  o9 : IsOp ops 9 51 (.call { callee := .value (.func 52), args := #[.tmp 50], argTypes := #[22] })
  o10 : IsOp ops 10 52 (.call { callee := .value (.func 55), args := #[.tmp 44, .tmp 51, .const (.int .i64 0)], argTypes := #[77, 77, 3] })
  o11 : IsOp ops 11 4 (.assign (.tmp 52))
  w2_0 : Waits ops 2 0
  w2_1 : Waits ops 2 1
  w5_3 : Waits ops 5 3
  w5_4 : Waits ops 5 4
  w6_5 : Waits ops 6 5
  w7_6 : Waits ops 7 6
  w8_7 : Waits ops 8 7
  w9_8 : Waits ops 9 8
  w10_2 : Waits ops 10 2
  w10_9 : Waits ops 10 9
  w11_10 : Waits ops 11 10
theorem run_mul : ∀ args w, (callFunc 56 args).run Tryd.prog w = .ok (.enter 56 args) w := fun args w => run_enter Tryd.func56 (by kernel_rfl) rfl args w
theorem run_bits : ∀ args w, (callFunc 52 args).run Tryd.prog w = .ok (.enter 52 args) w := fun args w => run_enter Tryd.func52 (by kernel_rfl) rfl args w
theorem run_add : ∀ args w, (callFunc 55 args).run Tryd.prog w = .ok (.enter 55 args) w := fun args w => run_enter Tryd.func55 (by kernel_rfl) rfl args w
theorem post_sb {z : Int} {W : World} {e : Ending} {w' : World} (h : PostBn z W e w') : ∃ v, e = .returned v ∧ SB w' v z ∧ Below W.heap.size W w' := by
  obtain ⟨A, c, q, rfl, h1, h2, h3, -, h5⟩ := h
  exact ⟨_, rfl, ⟨A, c, q, rfl, h1, h2, h3⟩, h5⟩
theorem sb_len {w : World} {A : Option Addr} {q : List Int} {z : Int} {N : Nat} (h : NumB w A q z) (hz : z < Nb.Bp N) : q.length ≤ N := by rw [h.can.len_iff, h.val]; exact hz
set_option maxRecDepth 100000 in
set_option maxHeartbeats 4000000 in
theorem regRd_at {ops : Array Oper} {Q : Exit → Act → World → Prop} {id : Nat} (hr : RegRd ops) (a : Act) (h : 52 < a.tmps.size) (s : ByteArray) (k : Nat) (c y : Int) (w : World)
    (h0 : a.eval (.tmp 0) = .string s) (h6 : a.eval (.tmp 6) = .int .i64 k) (h4 : SB w (a.eval (.tmp 4)) y) (hk : k < s.size) (hks : s.size ≤ 1000) (hc : ((s[k]'hk).toNat : Int) = c) (c0 : 48 ≤ c) (c1 : c ≤ 57) (y0 : 0 ≤ y) (hy : y < Nb.Bp 1600)
    (hQ : ∀ (v0 v1 v2 v3 v4 v5 v6 v7 v8 v9 v10 v11 : Value) (w' : World), Below w.heap.size w w' → SB w' v11 (10 * y + (c - 48)) → Q .normal ((((((((((((a.put (some 42) v0).put (some 43) v1).put (some 44) v2).put (some 45) v3).put (some 46) v4).put (some 47) v5).put (some 48) v6).put (some 49) v7).put (some 50) v8).put (some 51) v9).put (some 52) v10).put (some 4) v11) w') : Code.wp Tryd.prog (Code.region id ops true) Q a w := by
  have := regN (Q := Q) (id := id) (H := HoldsRd s k c y) (A := putRd a) hr.size hr.early HoldsRd.below w (slotsRd a) ?_ (fun f w' hb hh => hQ (f 0) (f 1) (f 2) (f 3) (f 4) (f 5) (f 6) (f 7) (f 8) (f 9) (f 10) (f 11) w' hb (hh 11 (by omega)))
  · rwa [putRd_self] at this
  intro i hi L f w' K hrd hinv hK
  have AT := hinv.at'
  have dn := fun {j : Nat} (hw : Waits ops i j) => hw.done hrd
  match i, hi with
  | 0, _ =>
    have hb : Below w'.heap.size w' (w'.alloc (.cells #[.int .i64 0, .int .i64 1, .int .i64 0, .int .i64 1] 3)) := (Below.refl _ _).alloc (Nat.le_refl _) _
    refine op_plain (v := .slice (some ⟨w'.heap.size, 0, none⟩) 4 4) (w' := w'.alloc (.cells #[.int .i64 0, .int .i64 1, .int .i64 0, .int .i64 1] 3)) hr.o0 ?_ (by rw [putRd_p0]; exact hK _ _ hb ⟨_, rfl, ten_bn w'⟩)
    intro o ho hd
    simp only [execOp, ho]
    go_simp
  | 1, _ =>
    have hold : f 11 = a.eval (.tmp 4) := by
      refine hinv.old 11 ?_
      cases e : L.getD 11 false with
      | false => rfl
      | true =>
        exfalso
        have e1 := hinv.cl _ _ (hinv.cl _ _ (hinv.cl _ _ e hr.w11_10) hr.w10_2) hr.w2_1
        have e2 := (ready_mem hrd).1
        by_cases hsz : 1 < L.size
        · simp only [Array.getD_eq_getD_getElem?, Array.getElem?_eq_getElem hsz, Option.getD_some] at e1 e2
          rw [e1] at e2; cases e2
        · rw [Array.getD_eq_getD_getElem?, Array.getElem?_eq_none (by omega)] at e1; cases e1
    exact op_move hr.o1 (by rw [putRd_p1]; exact hK _ _ (Below.refl _ _) (by rw [putRd_e4 _ h, hold]; exact h4.below hinv.bel))
  | 2, _ =>
    obtain ⟨A0, e0, n0⟩ := AT 0 (by omega) (hr.w2_0.done hrd)
    obtain ⟨A1, c1', q1, e1, n1, -⟩ := AT 1 (by omega) (hr.w2_1.done hrd)
    have hl := sb_len n1 hy
    have hargs : (#[Operand.tmp 42, Operand.tmp 43].map (putRd a f).eval) = #[.slice A0 4 4, .slice A1 q1.length c1'] := by
      simp only [List.map_toArray, List.map_cons, List.map_nil, putRd_e42 _ h, putRd_e43 _ h, e0, e1]
    refine op_call hr.o2 run_mul (R := PostBn (10 * y) w') (by rw [hargs]; exact rmul_any A0 A1 4 c1' [0, 1, 0, 1] q1 10 y w' n0 n1 (by simp; omega)) (fun e w2 hp => ?_)
    obtain ⟨v, rfl, hs, hb⟩ := post_sb hp
    exact ⟨v, rfl, by rw [putRd_p2]; exact hK v w2 hb hs⟩
  | 3, _ => exact op_move hr.o3 (by rw [putRd_p3]; exact hK _ _ (Below.refl _ _) (by rw [putRd_e0]; exact h0))
  | 4, _ => exact op_move hr.o4 (by rw [putRd_p4]; exact hK _ _ (Below.refl _ _) (by rw [putRd_e6]; exact h6))
  | 5, _ =>
    have e1 : f 3 = .string s := AT 3 (by omega) (hr.w5_3.done hrd)
    have e2 : f 4 = .int .i64 k := AT 4 (by omega) (hr.w5_4.done hrd)
    refine op_plain (v := .int .u8 c) (w' := w') hr.o5 ?_ (by rw [putRd_p5]; exact hK _ _ (Below.refl _ _) rfl)
    intro o ho hd
    have i0 : (0 : Int) ≤ (k : Int) := by omega
    have i1 : (k : Int) < (s.size : Int) := by omega
    simp only [execOp, ho, putRd_e45 _ h, putRd_e46 _ h, e1, e2]
    go_simp
  | 6, _ =>
    have e1 : f 5 = .int .u8 c := AT 5 (by omega) (hr.w6_5.done hrd)
    refine op_plain (v := .int .u8 (c - 48)) (w' := w') hr.o6 ?_ (by rw [putRd_p6]; exact hK _ _ (Below.refl _ _) rfl)
    intro o ho hd
    have ev : (putRd a f).eval (.const (.int .u8 48)) = .int .u8 48 := rfl
    simp only [execOp, ho, putRd_e47 _ h, e1, ev]
    go_simp
    simp [IntKind.wrap, IntKind.bits, IntKind.signed]
    omega
  | 7, _ =>
    have e1 : f 6 = .int .u8 (c - 48) := AT 6 (by omega) (hr.w7_6.done hrd)
    refine op_plain (v := .int .u32 (c - 48)) (w' := w') hr.o7 ?_ (by rw [putRd_p7]; exact hK _ _ (Below.refl _ _) rfl)
    intro o ho hd
    have j0 : 0 ≤ c - 48 := by omega
    have j1 : c - 48 ≤ 9 := by omega
    simp only [execOp, ho, putRd_e48 _ h, e1]
    go_simp
    exact u32_in _ j0 (by omega)
  | 8, _ =>
    have e1 : f 7 = .int .u32 (c - 48) := AT 7 (by omega) (hr.w8_7.done hrd)
    exact op_build (x := c - 48) hr.o8 (by rw [putRd_e49 _ h]; exact e1) (fun v w2 hg hv => by rw [putRd_p8]; exact hK v w2 ((Below.refl _ _).grown hg (Nat.le_refl _) (fun k hk => by cases hk)) hv)
  | 9, _ =>
    obtain ⟨g, e1, hB⟩ := AT 8 (by omega) (hr.w9_8.done hrd)
    have hargs : (#[Operand.tmp 50].map (putRd a f).eval) = #[.slice (some ⟨g, 0, none⟩) 1 1] := by
      simp only [List.map_toArray, List.map_cons, List.map_nil, putRd_e50 _ h, e1]; rfl
    have hbt := rbits_any (some ⟨g, 0, none⟩) 1 [c - 48] w' (hB.rd rfl) (Na.Dg.cons.2 ⟨⟨by omega, by omega⟩, Na.Dg.nil⟩) (by simp)
    rw [show Na.V [c - 48] = c - 48 by simp [Na.V]] at hbt
    refine op_call hr.o9 run_bits (R := PostBn (c - 48) w') (by rw [hargs]; exact hbt) (fun e w2 hp => ?_)
    obtain ⟨v, rfl, hs, hb⟩ := post_sb hp
    exact ⟨v, rfl, by rw [putRd_p9]; exact hK v w2 hb hs⟩
  | 10, _ =>
    obtain ⟨A0, c0', q0, e0, n0, -⟩ := AT 2 (by omega) (hr.w10_2.done hrd)
    obtain ⟨A1, c1', q1, e1, n1, -⟩ := AT 9 (by omega) (hr.w10_9.done hrd)
    have hl0 := sb_len (N := 1604) n0 (by rw [show Nb.Bp 1604 = Nb.Bp 4 * Nb.Bp 1600 from Nb.Bp_add 4 1600, show Nb.Bp 4 = 16 by decide]; omega)
    have hl1 := sb_len (N := 4) n1 (by rw [show Nb.Bp 4 = 16 by decide]; omega)
    have hargs : (#[Operand.tmp 44, Operand.tmp 51, Operand.const (.int .i64 0)].map (putRd a f).eval) = #[.slice A0 q0.length c0', .slice A1 q1.length c1', .int .i64 0] := by
      simp only [List.map_toArray, List.map_cons, List.map_nil, putRd_e44 _ h, putRd_e51 _ h, e0, e1]; rfl
    have had := radd_any A0 A1 c0' c1' 0 q0 q1 (10 * y) (c - 48) w' n0 n1 (by omega) (by omega)
    rw [show Nb.Bp 0 = 1 from rfl, Int.one_mul] at had
    refine op_call hr.o10 run_add (R := PostBn (10 * y + (c - 48)) w') (by rw [hargs]; exact had) (fun e w2 hp => ?_)
    obtain ⟨v, rfl, hs, hb⟩ := post_sb hp
    exact ⟨v, rfl, by rw [putRd_p10]; exact hK v w2 hb hs⟩
  | 11, _ => exact op_assign hr.o11 (by rw [putRd_p11]; exact hK _ _ (Below.refl _ _) (by rw [putRd_e52 _ h]; exact AT 10 (by omega) (hr.w11_10.done hrd)))
  | n + 12, h => exact absurd h (by omega)

end Go.Proofs.YtgcfmkelanhdhaaDoor
