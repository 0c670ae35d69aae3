/-
  The slots of the region of NatLong: twelve of them are written, whatever the order.
-/
import Derived.Test.YtgcfmkelanhdhaaDoorNatLong0
namespace Go.Proofs.YtgcfmkelanhdhaaDoor
open Go.RowKit
set_option linter.unusedVariables false

theorem put_ne (a : Act) (d e : Nat) (u v : Value) (h : d ≠ e) : (a.put (some d) u).put (some e) v = (a.put (some e) v).put (some d) u := by
  simp only [Act.put]
  rw [Array.setIfInBounds_comm _ _ h]
theorem put_eq (a : Act) (d : Nat) (u v : Value) : (a.put (some d) u).put (some d) v = a.put (some d) v := by
  simp [Act.put]
theorem put_self (a : Act) (d : Nat) : a.put (some d) (a.eval (.tmp d)) = a := by
  have : a.tmps.setIfInBounds d (a.tmps.getD d undef) = a.tmps := by
    refine Array.ext_getElem? (fun j => ?_)
    by_cases h : d = j
    · subst h
      by_cases hd : d < a.tmps.size
      · simp [hd]
      · simp [hd]
    · simp [h]
  simp only [Act.put, Act.eval, this]
theorem eval_ne (a : Act) (d t : Nat) (v : Value) (h : d ≠ t) : (a.put (some d) v).eval (.tmp t) = a.eval (.tmp t) := by
  simp [Act.put, Act.eval, h]
theorem eval_eq (a : Act) (d : Nat) (v : Value) (h : d < a.tmps.size) : (a.put (some d) v).eval (.tmp d) = v := by
  simp [Act.put, Act.eval, h]
theorem size_put (a : Act) (d : Nat) (v : Value) : (a.put (some d) v).tmps.size = a.tmps.size := by simp [Act.put]
def putAll (a : Act) (f : Nat → Value) : Act := ((((((((((((a.put (some 30) (f 0)).put (some 31) (f 1)).put (some 32) (f 2)).put (some 33) (f 3)).put (some 34) (f 4)).put (some 35) (f 5)).put (some 36) (f 6)).put (some 37) (f 7)).put (some 38) (f 8)).put (some 39) (f 9)).put (some 11) (f 10)).put (some 12) (f 11))
def slots (a : Act) : Nat → Value
  | 0 => a.eval (.tmp 30)
  | 1 => a.eval (.tmp 31)
  | 2 => a.eval (.tmp 32)
  | 3 => a.eval (.tmp 33)
  | 4 => a.eval (.tmp 34)
  | 5 => a.eval (.tmp 35)
  | 6 => a.eval (.tmp 36)
  | 7 => a.eval (.tmp 37)
  | 8 => a.eval (.tmp 38)
  | 9 => a.eval (.tmp 39)
  | 10 => a.eval (.tmp 11)
  | 11 => a.eval (.tmp 12)
  | _ => undef
theorem putAll_self (a : Act) : putAll a (slots a) = a := by
  simp only [putAll, slots, put_self]
theorem putAll_e9 (a : Act) (f : Nat → Value) : (putAll a f).eval (.tmp 9) = a.eval (.tmp 9) := by
  unfold putAll
  rw [eval_ne _ 12 9 _ (by decide), eval_ne _ 11 9 _ (by decide), eval_ne _ 39 9 _ (by decide), eval_ne _ 38 9 _ (by decide), eval_ne _ 37 9 _ (by decide), eval_ne _ 36 9 _ (by decide), eval_ne _ 35 9 _ (by decide), eval_ne _ 34 9 _ (by decide), eval_ne _ 33 9 _ (by decide), eval_ne _ 32 9 _ (by decide), eval_ne _ 31 9 _ (by decide), eval_ne _ 30 9 _ (by decide)]
theorem putAll_e2 (a : Act) (f : Nat → Value) : (putAll a f).eval (.tmp 2) = a.eval (.tmp 2) := by
  unfold putAll
  rw [eval_ne _ 12 2 _ (by decide), eval_ne _ 11 2 _ (by decide), eval_ne _ 39 2 _ (by decide), eval_ne _ 38 2 _ (by decide), eval_ne _ 37 2 _ (by decide), eval_ne _ 36 2 _ (by decide), eval_ne _ 35 2 _ (by decide), eval_ne _ 34 2 _ (by decide), eval_ne _ 33 2 _ (by decide), eval_ne _ 32 2 _ (by decide), eval_ne _ 31 2 _ (by decide), eval_ne _ 30 2 _ (by decide)]
theorem putAll_e10 (a : Act) (f : Nat → Value) : (putAll a f).eval (.tmp 10) = a.eval (.tmp 10) := by
  unfold putAll
  rw [eval_ne _ 12 10 _ (by decide), eval_ne _ 11 10 _ (by decide), eval_ne _ 39 10 _ (by decide), eval_ne _ 38 10 _ (by decide), eval_ne _ 37 10 _ (by decide), eval_ne _ 36 10 _ (by decide), eval_ne _ 35 10 _ (by decide), eval_ne _ 34 10 _ (by decide), eval_ne _ 33 10 _ (by decide), eval_ne _ 32 10 _ (by decide), eval_ne _ 31 10 _ (by decide), eval_ne _ 30 10 _ (by decide)]
theorem putAll_e3 (a : Act) (f : Nat → Value) : (putAll a f).eval (.tmp 3) = a.eval (.tmp 3) := by
  unfold putAll
  rw [eval_ne _ 12 3 _ (by decide), eval_ne _ 11 3 _ (by decide), eval_ne _ 39 3 _ (by decide), eval_ne _ 38 3 _ (by decide), eval_ne _ 37 3 _ (by decide), eval_ne _ 36 3 _ (by decide), eval_ne _ 35 3 _ (by decide), eval_ne _ 34 3 _ (by decide), eval_ne _ 33 3 _ (by decide), eval_ne _ 32 3 _ (by decide), eval_ne _ 31 3 _ (by decide), eval_ne _ 30 3 _ (by decide)]
theorem putAll_e30 (a : Act) (h : 39 < a.tmps.size) (f : Nat → Value) : (putAll a f).eval (.tmp 30) = f 0 := by
  unfold putAll
  rw [eval_ne _ 12 30 _ (by decide), eval_ne _ 11 30 _ (by decide), eval_ne _ 39 30 _ (by decide), eval_ne _ 38 30 _ (by decide), eval_ne _ 37 30 _ (by decide), eval_ne _ 36 30 _ (by decide), eval_ne _ 35 30 _ (by decide), eval_ne _ 34 30 _ (by decide), eval_ne _ 33 30 _ (by decide), eval_ne _ 32 30 _ (by decide), eval_ne _ 31 30 _ (by decide), eval_eq _ 30 _ (by first | omega | (simp only [size_put]; omega))]
theorem putAll_e31 (a : Act) (h : 39 < a.tmps.size) (f : Nat → Value) : (putAll a f).eval (.tmp 31) = f 1 := by
  unfold putAll
  rw [eval_ne _ 12 31 _ (by decide), eval_ne _ 11 31 _ (by decide), eval_ne _ 39 31 _ (by decide), eval_ne _ 38 31 _ (by decide), eval_ne _ 37 31 _ (by decide), eval_ne _ 36 31 _ (by decide), eval_ne _ 35 31 _ (by decide), eval_ne _ 34 31 _ (by decide), eval_ne _ 33 31 _ (by decide), eval_ne _ 32 31 _ (by decide), eval_eq _ 31 _ (by first | omega | (simp only [size_put]; omega))]
theorem putAll_e32 (a : Act) (h : 39 < a.tmps.size) (f : Nat → Value) : (putAll a f).eval (.tmp 32) = f 2 := by
  unfold putAll
  rw [eval_ne _ 12 32 _ (by decide), eval_ne _ 11 32 _ (by decide), eval_ne _ 39 32 _ (by decide), eval_ne _ 38 32 _ (by decide), eval_ne _ 37 32 _ (by decide), eval_ne _ 36 32 _ (by decide), eval_ne _ 35 32 _ (by decide), eval_ne _ 34 32 _ (by decide), eval_ne _ 33 32 _ (by decide), eval_eq _ 32 _ (by first | omega | (simp only [size_put]; omega))]
theorem putAll_e33 (a : Act) (h : 39 < a.tmps.size) (f : Nat → Value) : (putAll a f).eval (.tmp 33) = f 3 := by
  unfold putAll
  rw [eval_ne _ 12 33 _ (by decide), eval_ne _ 11 33 _ (by decide), eval_ne _ 39 33 _ (by decide), eval_ne _ 38 33 _ (by decide), eval_ne _ 37 33 _ (by decide), eval_ne _ 36 33 _ (by decide), eval_ne _ 35 33 _ (by decide), eval_ne _ 34 33 _ (by decide), eval_eq _ 33 _ (by first | omega | (simp only [size_put]; omega))]
theorem putAll_e34 (a : Act) (h : 39 < a.tmps.size) (f : Nat → Value) : (putAll a f).eval (.tmp 34) = f 4 := by
  unfold putAll
  rw [eval_ne _ 12 34 _ (by decide), eval_ne _ 11 34 _ (by decide), eval_ne _ 39 34 _ (by decide), eval_ne _ 38 34 _ (by decide), eval_ne _ 37 34 _ (by decide), eval_ne _ 36 34 _ (by decide), eval_ne _ 35 34 _ (by decide), eval_eq _ 34 _ (by first | omega | (simp only [size_put]; omega))]
theorem putAll_e35 (a : Act) (h : 39 < a.tmps.size) (f : Nat → Value) : (putAll a f).eval (.tmp 35) = f 5 := by
  unfold putAll
  rw [eval_ne _ 12 35 _ (by decide), eval_ne _ 11 35 _ (by decide), eval_ne _ 39 35 _ (by decide), eval_ne _ 38 35 _ (by decide), eval_ne _ 37 35 _ (by decide), eval_ne _ 36 35 _ (by decide), eval_eq _ 35 _ (by first | omega | (simp only [size_put]; omega))]
theorem putAll_e36 (a : Act) (h : 39 < a.tmps.size) (f : Nat → Value) : (putAll a f).eval (.tmp 36) = f 6 := by
  unfold putAll
  rw [eval_ne _ 12 36 _ (by decide), eval_ne _ 11 36 _ (by decide), eval_ne _ 39 36 _ (by decide), eval_ne _ 38 36 _ (by decide), eval_ne _ 37 36 _ (by decide), eval_eq _ 36 _ (by first | omega | (simp only [size_put]; omega))]
theorem putAll_e37 (a : Act) (h : 39 < a.tmps.size) (f : Nat → Value) : (putAll a f).eval (.tmp 37) = f 7 := by
  unfold putAll
  rw [eval_ne _ 12 37 _ (by decide), eval_ne _ 11 37 _ (by decide), eval_ne _ 39 37 _ (by decide), eval_ne _ 38 37 _ (by decide), eval_eq _ 37 _ (by first | omega | (simp only [size_put]; omega))]
theorem putAll_e38 (a : Act) (h : 39 < a.tmps.size) (f : Nat → Value) : (putAll a f).eval (.tmp 38) = f 8 := by
  unfold putAll
  rw [eval_ne _ 12 38 _ (by decide), eval_ne _ 11 38 _ (by decide), eval_ne _ 39 38 _ (by decide), eval_eq _ 38 _ (by first | omega | (simp only [size_put]; omega))]
theorem putAll_e39 (a : Act) (h : 39 < a.tmps.size) (f : Nat → Value) : (putAll a f).eval (.tmp 39) = f 9 := by
  unfold putAll
  rw [eval_ne _ 12 39 _ (by decide), eval_ne _ 11 39 _ (by decide), eval_eq _ 39 _ (by first | omega | (simp only [size_put]; omega))]
theorem putAll_p0 (a : Act) (f : Nat → Value) (v : Value) : (putAll a f).put (some 30) v = putAll a (upd f 0 v) := by
  unfold putAll
  rw [put_ne _ 12 30 _ _ (by decide), put_ne _ 11 30 _ _ (by decide), put_ne _ 39 30 _ _ (by decide), put_ne _ 38 30 _ _ (by decide), put_ne _ 37 30 _ _ (by decide), put_ne _ 36 30 _ _ (by decide), put_ne _ 35 30 _ _ (by decide), put_ne _ 34 30 _ _ (by decide), put_ne _ 33 30 _ _ (by decide), put_ne _ 32 30 _ _ (by decide), put_ne _ 31 30 _ _ (by decide), put_eq _ 30]
  rfl
theorem putAll_p1 (a : Act) (f : Nat → Value) (v : Value) : (putAll a f).put (some 31) v = putAll a (upd f 1 v) := by
  unfold putAll
  rw [put_ne _ 12 31 _ _ (by decide), put_ne _ 11 31 _ _ (by decide), put_ne _ 39 31 _ _ (by decide), put_ne _ 38 31 _ _ (by decide), put_ne _ 37 31 _ _ (by decide), put_ne _ 36 31 _ _ (by decide), put_ne _ 35 31 _ _ (by decide), put_ne _ 34 31 _ _ (by decide), put_ne _ 33 31 _ _ (by decide), put_ne _ 32 31 _ _ (by decide), put_eq _ 31]
  rfl
theorem putAll_p2 (a : Act) (f : Nat → Value) (v : Value) : (putAll a f).put (some 32) v = putAll a (upd f 2 v) := by
  unfold putAll
  rw [put_ne _ 12 32 _ _ (by decide), put_ne _ 11 32 _ _ (by decide), put_ne _ 39 32 _ _ (by decide), put_ne _ 38 32 _ _ (by decide), put_ne _ 37 32 _ _ (by decide), put_ne _ 36 32 _ _ (by decide), put_ne _ 35 32 _ _ (by decide), put_ne _ 34 32 _ _ (by decide), put_ne _ 33 32 _ _ (by decide), put_eq _ 32]
  rfl
theorem putAll_p3 (a : Act) (f : Nat → Value) (v : Value) : (putAll a f).put (some 33) v = putAll a (upd f 3 v) := by
  unfold putAll
  rw [put_ne _ 12 33 _ _ (by decide), put_ne _ 11 33 _ _ (by decide), put_ne _ 39 33 _ _ (by decide), put_ne _ 38 33 _ _ (by decide), put_ne _ 37 33 _ _ (by decide), put_ne _ 36 33 _ _ (by decide), put_ne _ 35 33 _ _ (by decide), put_ne _ 34 33 _ _ (by decide), put_eq _ 33]
  rfl
theorem putAll_p4 (a : Act) (f : Nat → Value) (v : Value) : (putAll a f).put (some 34) v = putAll a (upd f 4 v) := by
  unfold putAll
  rw [put_ne _ 12 34 _ _ (by decide), put_ne _ 11 34 _ _ (by decide), put_ne _ 39 34 _ _ (by decide), put_ne _ 38 34 _ _ (by decide), put_ne _ 37 34 _ _ (by decide), put_ne _ 36 34 _ _ (by decide), put_ne _ 35 34 _ _ (by decide), put_eq _ 34]
  rfl
theorem putAll_p5 (a : Act) (f : Nat → Value) (v : Value) : (putAll a f).put (some 35) v = putAll a (upd f 5 v) := by
  unfold putAll
  rw [put_ne _ 12 35 _ _ (by decide), put_ne _ 11 35 _ _ (by decide), put_ne _ 39 35 _ _ (by decide), put_ne _ 38 35 _ _ (by decide), put_ne _ 37 35 _ _ (by decide), put_ne _ 36 35 _ _ (by decide), put_eq _ 35]
  rfl
theorem putAll_p6 (a : Act) (f : Nat → Value) (v : Value) : (putAll a f).put (some 36) v = putAll a (upd f 6 v) := by
  unfold putAll
  rw [put_ne _ 12 36 _ _ (by decide), put_ne _ 11 36 _ _ (by decide), put_ne _ 39 36 _ _ (by decide), put_ne _ 38 36 _ _ (by decide), put_ne _ 37 36 _ _ (by decide), put_eq _ 36]
  rfl
theorem putAll_p7 (a : Act) (f : Nat → Value) (v : Value) : (putAll a f).put (some 37) v = putAll a (upd f 7 v) := by
  unfold putAll
  rw [put_ne _ 12 37 _ _ (by decide), put_ne _ 11 37 _ _ (by decide), put_ne _ 39 37 _ _ (by decide), put_ne _ 38 37 _ _ (by decide), put_eq _ 37]
  rfl
theorem putAll_p8 (a : Act) (f : Nat → Value) (v : Value) : (putAll a f).put (some 38) v = putAll a (upd f 8 v) := by
  unfold putAll
  rw [put_ne _ 12 38 _ _ (by decide), put_ne _ 11 38 _ _ (by decide), put_ne _ 39 38 _ _ (by decide), put_eq _ 38]
  rfl
theorem putAll_p9 (a : Act) (f : Nat → Value) (v : Value) : (putAll a f).put (some 39) v = putAll a (upd f 9 v) := by
  unfold putAll
  rw [put_ne _ 12 39 _ _ (by decide), put_ne _ 11 39 _ _ (by decide), put_eq _ 39]
  rfl
theorem putAll_p10 (a : Act) (f : Nat → Value) (v : Value) : (putAll a f).put (some 11) v = putAll a (upd f 10 v) := by
  unfold putAll
  rw [put_ne _ 12 11 _ _ (by decide), put_eq _ 11]
  rfl
theorem putAll_p11 (a : Act) (f : Nat → Value) (v : Value) : (putAll a f).put (some 12) v = putAll a (upd f 11 v) := by
  unfold putAll
  rw [put_eq _ 12]
  rfl
theorem putAll_acts (a : Act) (h : 39 < a.tmps.size) {I K : Nat} {x y : Int} (h9 : a.eval (.tmp 9) = .int .i64 I) (h2 : a.eval (.tmp 2) = .int .u32 x) (h10 : a.eval (.tmp 10) = .int .i64 K) (h3 : a.eval (.tmp 3) = .int .u32 y) : Acts (putAll a) I K x y :=
  { e9 := fun f => (putAll_e9 a f).trans h9, e2 := fun f => (putAll_e2 a f).trans h2, e10 := fun f => (putAll_e10 a f).trans h10, e3 := fun f => (putAll_e3 a f).trans h3,
    e30 := putAll_e30 a h,
    e31 := putAll_e31 a h,
    e32 := putAll_e32 a h,
    e33 := putAll_e33 a h,
    e34 := putAll_e34 a h,
    e35 := putAll_e35 a h,
    e36 := putAll_e36 a h,
    e37 := putAll_e37 a h,
    e38 := putAll_e38 a h,
    e39 := putAll_e39 a h,
    p0 := putAll_p0 a,
    p1 := putAll_p1 a,
    p2 := putAll_p2 a,
    p3 := putAll_p3 a,
    p4 := putAll_p4 a,
    p5 := putAll_p5 a,
    p6 := putAll_p6 a,
    p7 := putAll_p7 a,
    p8 := putAll_p8 a,
    p9 := putAll_p9 a,
    p10 := putAll_p10 a,
    p11 := putAll_p11 a }
def earlierB (ops : Array Oper) : Bool := (List.range ops.size).all fun i => ((ops[i]?).map fun o => o.after.toList.all fun e => decide (e.on < i)).getD true
theorem early_of {ops : Array Oper} (h : earlierB ops = true) : Earlier ops := by
  intro i o ho e he
  have hi := (Array.getElem?_eq_some_iff.1 ho).1
  unfold earlierB at h
  rw [List.all_eq_true] at h
  have := h i (List.mem_range.2 hi)
  rw [ho] at this
  simp only [Option.map_some, Option.getD_some, List.all_eq_true, decide_eq_true_eq] at this
  exact this e he
theorem reg5_at {ops : Array Oper} {Q : Exit → Act → World → Prop} {id : Nat} (hr : Reg5 ops) (a : Act) (h : 39 < a.tmps.size) {I K : Nat} {x y : Int} (h9 : a.eval (.tmp 9) = .int .i64 I) (h2 : a.eval (.tmp 2) = .int .u32 x) (h10 : a.eval (.tmp 10) = .int .i64 K) (h3 : a.eval (.tmp 3) = .int .u32 y)
    (hI : I ≤ 1000000) (hK : K ≤ 1000000) (W w : World) (hb : Below W.heap.size W w)
    (hQ : ∀ (v0 v1 v2 v3 v4 v5 v6 v7 v8 v9 v10 v11 : Value) (w' : World), Below W.heap.size W w' → Own w' 0 v10 (List.replicate I 0 ++ [x]) → Own w' 0 v11 (List.replicate K 0 ++ [y]) → Q .normal ((((((((((((a.put (some 30) v0).put (some 31) v1).put (some 32) v2).put (some 33) v3).put (some 34) v4).put (some 35) v5).put (some 36) v6).put (some 37) v7).put (some 38) v8).put (some 39) v9).put (some 11) v10).put (some 12) v11) w') : Code.wp Tryd.prog (Code.region id ops true) Q a w := by
  have := reg5 (Q := Q) (id := id) hr (putAll_acts a h h9 h2 h10 h3) hI hK W w (slots a) hb (fun f w' hb' hh => hQ (f 0) (f 1) (f 2) (f 3) (f 4) (f 5) (f 6) (f 7) (f 8) (f 9) (f 10) (f 11) w' hb' (hh 10 (by omega)) (hh 11 (by omega)))
  rwa [putAll_self] at this

end Go.Proofs.YtgcfmkelanhdhaaDoor
