/-
  The great region of awake: the examples are laid, whatever the order.
-/
import Derived.Test.YthojojjdamchpaaEdiReg
namespace Go.Proofs.Ythojojjdamchpaa
open Go.RowKit Go.Shelf
set_option linter.unusedVariables false
set_option linter.unusedSimpArgs false

/-- bytes that have been laid -/
def BY (w : World) (v : Value) (ks : List Nat) : Prop := ∃ g, v = .slice (some ⟨g, 0, none⟩) ks.length ks.length ∧ ∀ i (h : i < ks.length), w.cell? ⟨g, i, none⟩ = some (.int .u8 (ks[i]))
/-- a script that can be read -/
def SC (w : World) (v : Value) (l : List (Nat × Nat)) : Prop := ∃ A n c, v = .slice A n c ∧ l.length = n ∧ RdO w A l
theorem BY.below {w w' : World} {v : Value} {ks : List Nat} (h : BY w v ks) (hb : Below w.heap.size w w') : BY w' v ks := by
  obtain ⟨g, h1, h2⟩ := h
  exact ⟨g, h1, fun i hi => cell_keep (h2 i hi) hb⟩
theorem SC.below {w w' : World} {v : Value} {l : List (Nat × Nat)} (h : SC w v l) (hb : Below w.heap.size w w') : SC w' v l := by
  obtain ⟨A, n, c, h1, h2, h3⟩ := h
  exact ⟨A, n, c, h1, h2, h3.below hb⟩
/-- an example: its texts, costs, distance, script -/
def RW (w : World) (g k : Nat) (a b : ByteArray) (c : Ed.Cst) (n : Int) (l : List (Nat × Nat)) : Prop :=
  w.cell? ⟨g, k * 8, none⟩ = some (.string a) ∧ w.cell? ⟨g, k * 8 + 1, none⟩ = some (.string b) ∧ w.cell? ⟨g, k * 8 + 2, none⟩ = some (.int .i64 c.ins) ∧ w.cell? ⟨g, k * 8 + 3, none⟩ = some (.int .i64 c.del) ∧ w.cell? ⟨g, k * 8 + 4, none⟩ = some (.int .i64 c.chg) ∧ w.cell? ⟨g, k * 8 + 5, none⟩ = some (.int .i64 c.swp) ∧
    w.cell? ⟨g, k * 8 + 6, none⟩ = some (.int .i64 n) ∧ ∃ x, w.cell? ⟨g, k * 8 + 7, none⟩ = some x ∧ SC w x l
theorem RW.below {w w' : World} {g k : Nat} {a b : ByteArray} {c : Ed.Cst} {n : Int} {l : List (Nat × Nat)} (h : RW w g k a b c n l) (hb : Below w.heap.size w w') : RW w' g k a b c n l := by
  obtain ⟨h0, h1, h2, h3, h4, h5, h6, x, h7, h8⟩ := h
  exact ⟨cell_keep h0 hb, cell_keep h1 hb, cell_keep h2 hb, cell_keep h3 hb, cell_keep h4 hb, cell_keep h5 hb, cell_keep h6 hb, x, cell_keep h7 hb, h8.below hb⟩
/-- the five examples -/
def TB (w : World) (v : Value) : Prop := ∃ g, v = .slice (some ⟨g, 0, none⟩) 5 5 ∧ RW w g 0 ⟨#[82, 79, 65, 68]⟩ ⟨#[82, 65, 79, 68]⟩ c1s 1 [(1, 0), (3, 0), (1, 0)] ∧ RW w g 1 ⟨#[77, 65, 73, 78]⟩ ⟨#[77, 65, 73, 78, 69]⟩ c1s 1 [(1, 0), (1, 0), (1, 0), (1, 0), (5, 69)] ∧ RW w g 2 ⟨#[65, 66]⟩ ⟨#[]⟩ c1s 2 [(4, 0), (4, 0)] ∧ RW w g 3 ⟨#[67, 65]⟩ ⟨#[65, 66, 67]⟩ c1s 3 [(2, 65), (2, 66), (5, 67)] ∧ RW w g 4 ⟨#[65]⟩ ⟨#[66]⟩ cDear 2 [(4, 0), (5, 66)]
theorem TB.below {w w' : World} {v : Value} (h : TB w v) (hb : Below w.heap.size w w') : TB w' v := by
  obtain ⟨g, h1, h2, h3, h4, h5, h6⟩ := h
  exact ⟨g, h1, h2.below hb, h3.below hb, h4.below hb, h5.below hb, h6.below hb⟩
/-- what a slot holds once its operation has run -/
def HoldsA (w : World) : Nat → Value → Prop
  | 0, v => v = (.agg #[.int .i64 1, .int .i64 1, .int .i64 1, .int .i64 1])
  | 1, v => BY w v [1, 3, 1]
  | 2, v => SC w v [(1, 0), (3, 0), (1, 0)]
  | 3, v => ∃ x, SC w x [(1, 0), (3, 0), (1, 0)] ∧ v = .agg #[.string ⟨#[82, 79, 65, 68]⟩, .string ⟨#[82, 65, 79, 68]⟩, .int .i64 1, .int .i64 1, .int .i64 1, .int .i64 1, .int .i64 1, x]
  | 4, v => v = (.agg #[.int .i64 1, .int .i64 1, .int .i64 1, .int .i64 1])
  | 5, v => BY w v [1, 1, 1, 1, 5]
  | 6, v => SC w v [(1, 0), (1, 0), (1, 0), (1, 0), (5, 69)]
  | 7, v => ∃ x, SC w x [(1, 0), (1, 0), (1, 0), (1, 0), (5, 69)] ∧ v = .agg #[.string ⟨#[77, 65, 73, 78]⟩, .string ⟨#[77, 65, 73, 78, 69]⟩, .int .i64 1, .int .i64 1, .int .i64 1, .int .i64 1, .int .i64 1, x]
  | 8, v => v = (.agg #[.int .i64 1, .int .i64 1, .int .i64 1, .int .i64 1])
  | 9, v => BY w v [4, 4]
  | 10, v => SC w v [(4, 0), (4, 0)]
  | 11, v => ∃ x, SC w x [(4, 0), (4, 0)] ∧ v = .agg #[.string ⟨#[65, 66]⟩, .string ⟨#[]⟩, .int .i64 1, .int .i64 1, .int .i64 1, .int .i64 1, .int .i64 2, x]
  | 12, v => v = (.agg #[.int .i64 1, .int .i64 1, .int .i64 1, .int .i64 1])
  | 13, v => BY w v [2, 2, 5]
  | 14, v => SC w v [(2, 65), (2, 66), (5, 67)]
  | 15, v => ∃ x, SC w x [(2, 65), (2, 66), (5, 67)] ∧ v = .agg #[.string ⟨#[67, 65]⟩, .string ⟨#[65, 66, 67]⟩, .int .i64 1, .int .i64 1, .int .i64 1, .int .i64 1, .int .i64 3, x]
  | 16, v => v = (.agg #[.int .i64 1, .int .i64 1, .int .i64 3, .int .i64 1])
  | 17, v => BY w v [4, 5]
  | 18, v => SC w v [(4, 0), (5, 66)]
  | 19, v => ∃ x, SC w x [(4, 0), (5, 66)] ∧ v = .agg #[.string ⟨#[65]⟩, .string ⟨#[66]⟩, .int .i64 1, .int .i64 1, .int .i64 3, .int .i64 1, .int .i64 2, x]
  | 20, v => TB w v
  | 21, v => v = .int .i64 5
  | 22, v => v = .int .i64 0
  | _, _ => True
theorem HoldsA.below (w w' : World) (i : Nat) (v : Value) (h : HoldsA w i v) (hb : Below w.heap.size w w') : HoldsA w' i v := by
  unfold HoldsA at *
  split at h <;> first | exact h | exact BY.below h hb | exact SC.below h hb | exact TB.below h hb | (obtain ⟨x, h1, h2⟩ := h; exact ⟨x, h1.below hb, h2⟩) | trivial
structure RegA (ops : Array Oper) : Prop where
  size : ops.size = 23
  early : Earlier ops
  o0 : IsOp ops 0 25 (.call { callee := .value (.func 6), args := #[], argTypes := #[] })
  o1 : IsOp ops 1 26 (.buildSlice 53 3 #[(0, .const (.int .u8 1)), (1, .const (.int .u8 3)), (2, .const (.int .u8 1))])
  o2 : IsOp ops 2 27 (.call { callee := .value (.func 7), args := #[.const (.string ⟨#[]⟩), .tmp 26], argTypes := #[9, 53] })
  o3 : IsOp ops 3 28 (.build 29 #[(0, .const (.string ⟨#[82, 79, 65, 68]⟩)), (1, .const (.string ⟨#[82, 65, 79, 68]⟩)), (2, .tmp 25), (3, .const (.int .i64 1)), (4, .tmp 27)])
  o4 : IsOp ops 4 29 (.call { callee := .value (.func 6), args := #[], argTypes := #[] })
  o5 : IsOp ops 5 30 (.buildSlice 53 5 #[(0, .const (.int .u8 1)), (1, .const (.int .u8 1)), (2, .const (.int .u8 1)), (3, .const (.int .u8 1)), (4, .const (.int .u8 5))])
  o6 : IsOp ops 6 31 (.call { callee := .value (.func 7), args := #[.const (.string ⟨#[69]⟩), .tmp 30], argTypes := #[9, 53] })
  o7 : IsOp ops 7 32 (.build 29 #[(0, .const (.string ⟨#[77, 65, 73, 78]⟩)), (1, .const (.string ⟨#[77, 65, 73, 78, 69]⟩)), (2, .tmp 29), (3, .const (.int .i64 1)), (4, .tmp 31)])
  o8 : IsOp ops 8 33 (.call { callee := .value (.func 6), args := #[], argTypes := #[] })
  o9 : IsOp ops 9 34 (.buildSlice 53 2 #[(0, .const (.int .u8 4)), (1, .const (.int .u8 4))])
  o10 : IsOp ops 10 35 (.call { callee := .value (.func 7), args := #[.const (.string ⟨#[]⟩), .tmp 34], argTypes := #[9, 53] })
  o11 : IsOp ops 11 36 (.build 29 #[(0, .const (.string ⟨#[65, 66]⟩)), (1, .const (.string ⟨#[]⟩)), (2, .tmp 33), (3, .const (.int .i64 2)), (4, .tmp 35)])
  o12 : IsOp ops 12 37 (.call { callee := .value (.func 6), args := #[], argTypes := #[] })
  o13 : IsOp ops 13 38 (.buildSlice 53 3 #[(0, .const (.int .u8 2)), (1, .const (.int .u8 2)), (2, .const (.int .u8 5))])
  o14 : IsOp ops 14 39 (.call { callee := .value (.func 7), args := #[.const (.string ⟨#[65, 66, 67]⟩), .tmp 38], argTypes := #[9, 53] })
  o15 : IsOp ops 15 40 (.build 29 #[(0, .const (.string ⟨#[67, 65]⟩)), (1, .const (.string ⟨#[65, 66, 67]⟩)), (2, .tmp 37), (3, .const (.int .i64 3)), (4, .tmp 39)])
  o16 : IsOp ops 16 41 (.load 23 (.tmp 1))
  o17 : IsOp ops 17 42 (.buildSlice 53 2 #[(0, .const (.int .u8 4)), (1, .const (.int .u8 5))])
  o18 : IsOp ops 18 43 (.call { callee := .value (.func 7), args := #[.const (.string ⟨#[66]⟩), .tmp 42], argTypes := #[9, 53] })
  o19 : IsOp ops 19 44 (.build 29 #[(0, .const (.string ⟨#[65]⟩)), (1, .const (.string ⟨#[66]⟩)), (2, .tmp 41), (3, .const (.int .i64 2)), (4, .tmp 43)])
  o20 : IsOp ops 20 45 (.buildSlice 30 5 #[(0, .tmp 28), (1, .tmp 32), (2, .tmp 36), (3, .tmp 40), (4, .tmp 44)])
  o21 : IsOp ops 21 46 (.call { callee := .builtin .len, args := #[.tmp 45], argTypes := #[30] })
  o22 : IsOp ops 22 47 (.move (.const (.int .i64 0)))
  w2_1 : Waits ops 2 1
  w3_0 : Waits ops 3 0
  w3_2 : Waits ops 3 2
  w6_5 : Waits ops 6 5
  w7_4 : Waits ops 7 4
  w7_6 : Waits ops 7 6
  w10_9 : Waits ops 10 9
  w11_8 : Waits ops 11 8
  w11_10 : Waits ops 11 10
  w14_13 : Waits ops 14 13
  w15_12 : Waits ops 15 12
  w15_14 : Waits ops 15 14
  w18_17 : Waits ops 18 17
  w19_16 : Waits ops 19 16
  w19_18 : Waits ops 19 18
  w20_3 : Waits ops 20 3
  w20_7 : Waits ops 20 7
  w20_11 : Waits ops 20 11
  w20_15 : Waits ops 20 15
  w20_19 : Waits ops 20 19
  w21_20 : Waits ops 21 20
theorem ones_enter (args : Array Value) (w : World) : (callFunc 6 args).run Try.prog w = .ok (.enter 6 args) w := run_enter Try.func6 (by kernel_rfl) rfl args w
theorem kinds_enter (args : Array Value) (w : World) : (callFunc 7 args).run Try.prog w = .ok (.enter 7 args) w := run_enter Try.func7 (by kernel_rfl) rfl args w
theorem sc_of {w w' : World} {l : List (Nat × Nat)} {A : Option Addr} {n c : Nat} (ho : OwnO w.heap.size 51 w' A n c l) : SC w' (.slice A n c) l := ⟨A, n, c, rfl, ho.1, ho.rd⟩
theorem by_new (w : World) (ks : List Nat) : BY (w.alloc (.cells (ks.map fun (k : Nat) => Value.int .u8 k).toArray 5)) (.slice (some ⟨w.heap.size, 0, none⟩) ks.length ks.length) ks := ⟨_, rfl, bytes_new w ks⟩
theorem kinds_by {bs : ByteArray} (hbs : bs.size ≤ 1000) {ks : List Nat} (hn2 : ks.length ≤ 1000) {l : List (Nat × Nat)} (hl : kindsL (tx bs) ks = l) {w : World} {v : Value} (h : BY w v ks) :
    Calls Try.prog 7 #[.string bs, v] w (PostK l w) := by
  subst hl
  obtain ⟨g, rfl, h2⟩ := h
  exact kinds_any bs g ks.length ks.length ks w hbs rfl hn2 h2

set_option maxRecDepth 100000 in
set_option maxHeartbeats 4000000 in
theorem regA {ops : Array Oper} {Q : Exit → Act → World → Prop} {id : Nat} (hr : RegA ops) (a : Act) (hs : 25 + 23 ≤ a.tmps.size) (q : Nat) (w : World) (h1 : a.eval (.tmp 1) = .pointer (some ⟨q, 0, none⟩))
    (hd : w.cell? ⟨q, 0, none⟩ = some (.int .i64 1) ∧ w.cell? ⟨q, 1, none⟩ = some (.int .i64 1) ∧ w.cell? ⟨q, 2, none⟩ = some (.int .i64 3) ∧ w.cell? ⟨q, 3, none⟩ = some (.int .i64 1))
    (hQ : ∀ (f : Nat → Value) (w' : World), Below w.heap.size w w' → TB w' (f 20) → f 21 = .int .i64 5 → f 22 = .int .i64 0 → Q .normal (putS a 25 23 f) w') : Code.wp Try.prog (Code.region id ops true) Q a w := by
  have := regN (Q := Q) (id := id) (H := HoldsA) (A := putS a 25 23) hr.size hr.early HoldsA.below w (fun i => a.eval (.tmp (25 + i))) ?_ (fun f w' hb hh => hQ f w' hb (hh 20 (by omega)) (hh 21 (by omega)) (hh 22 (by omega)))
  · rwa [putS_self] at this
  intro i hi L f w' K hrd hinv hK
  have AT := hinv.at'
  have EV := fun (j : Nat) (hj : j < 23) => putS_in (a := a) (c := 25) (n := 23) f hs j hj
  have PU := fun (v : Value) => putS_put (a := a) (c := 25) (n := 23) f i hi v
  match i, hi with
  | 0, _ =>
    refine op_call hr.o0 ones_enter (R := fun e w2 => e = .returned (cstV c1s) ∧ Below w'.heap.size w' w2) (by have e : (#[] : Array Operand).map (putS a 25 23 f).eval = #[] := (by simp); rw [e]; exact ones_any w') (fun e w2 hp => ?_)
    obtain ⟨rfl, hb⟩ := hp
    exact ⟨_, rfl, by rw [PU]; exact hK _ _ hb rfl⟩
  | 1, _ =>
    refine op_plain (v := .slice (some ⟨w'.heap.size, 0, none⟩) 3 3) (w' := w'.alloc (.cells #[.int .u8 1, .int .u8 3, .int .u8 1] 5)) hr.o1 ?_ (by rw [PU]; exact hK _ _ (below_new w' _) (by_new w' [1, 3, 1]))
    intro o ho hd
    simp only [execOp, ho]
    go_simp
  | 2, _ =>
    have h := AT 1 (by omega) (hr.w2_1.done hrd)
    have e1 := EV 1 (by omega)
    refine op_call hr.o2 kinds_enter (R := PostK [(1, 0), (3, 0), (1, 0)] w') ?_ (fun e w2 hp => ?_)
    · have hargs : (#[Operand.const (.string ⟨#[]⟩), Operand.tmp 26].map (putS a 25 23 f).eval) = #[.string ⟨#[]⟩, f 1] := by
        simp only [List.map_toArray, List.map_cons, List.map_nil]
        rw [show (putS a 25 23 f).eval (.tmp 26) = f 1 from e1]; rfl
      rw [hargs]
      exact kinds_by (by decide) (by decide) exk1 h
    · obtain ⟨A, n, c, rfl, ho, hb⟩ := hp
      exact ⟨_, rfl, by rw [PU]; exact hK _ _ hb (sc_of ho)⟩
  | 3, _ =>
    have h := AT 2 (by omega) (hr.w3_2.done hrd)
    have h0 : f 0 = (.agg #[.int .i64 1, .int .i64 1, .int .i64 1, .int .i64 1]) := AT 0 (by omega) (hr.w3_0.done hrd)
    have e0 : (putS a 25 23 f).eval (.tmp 25) = f 0 := EV 0 (by omega)
    have e1 : (putS a 25 23 f).eval (.tmp 27) = f 2 := EV 2 (by omega)
    obtain ⟨A, n, c, h2, h3, h4⟩ := h
    refine op_plain (v := .agg #[.string ⟨#[82, 79, 65, 68]⟩, .string ⟨#[82, 65, 79, 68]⟩, .int .i64 1, .int .i64 1, .int .i64 1, .int .i64 1, .int .i64 1, .slice A n c]) (w' := w') hr.o3 ?_ (by rw [PU]; exact hK _ _ (Below.refl _ _) ⟨_, ⟨A, n, c, rfl, h3, h4⟩, rfl⟩)
    intro o ho hd
    simp only [execOp, ho, List.map_toArray, List.map_cons, List.map_nil, e0, e1, h0, h2]
    go_simp
  | 4, _ =>
    refine op_call hr.o4 ones_enter (R := fun e w2 => e = .returned (cstV c1s) ∧ Below w'.heap.size w' w2) (by have e : (#[] : Array Operand).map (putS a 25 23 f).eval = #[] := (by simp); rw [e]; exact ones_any w') (fun e w2 hp => ?_)
    obtain ⟨rfl, hb⟩ := hp
    exact ⟨_, rfl, by rw [PU]; exact hK _ _ hb rfl⟩
  | 5, _ =>
    refine op_plain (v := .slice (some ⟨w'.heap.size, 0, none⟩) 5 5) (w' := w'.alloc (.cells #[.int .u8 1, .int .u8 1, .int .u8 1, .int .u8 1, .int .u8 5] 5)) hr.o5 ?_ (by rw [PU]; exact hK _ _ (below_new w' _) (by_new w' [1, 1, 1, 1, 5]))
    intro o ho hd
    simp only [execOp, ho]
    go_simp
  | 6, _ =>
    have h := AT 5 (by omega) (hr.w6_5.done hrd)
    have e1 := EV 5 (by omega)
    refine op_call hr.o6 kinds_enter (R := PostK [(1, 0), (1, 0), (1, 0), (1, 0), (5, 69)] w') ?_ (fun e w2 hp => ?_)
    · have hargs : (#[Operand.const (.string ⟨#[69]⟩), Operand.tmp 30].map (putS a 25 23 f).eval) = #[.string ⟨#[69]⟩, f 5] := by
        simp only [List.map_toArray, List.map_cons, List.map_nil]
        rw [show (putS a 25 23 f).eval (.tmp 30) = f 5 from e1]; rfl
      rw [hargs]
      exact kinds_by (by decide) (by decide) exk2 h
    · obtain ⟨A, n, c, rfl, ho, hb⟩ := hp
      exact ⟨_, rfl, by rw [PU]; exact hK _ _ hb (sc_of ho)⟩
  | 7, _ =>
    have h := AT 6 (by omega) (hr.w7_6.done hrd)
    have h0 : f 4 = (.agg #[.int .i64 1, .int .i64 1, .int .i64 1, .int .i64 1]) := AT 4 (by omega) (hr.w7_4.done hrd)
    have e0 : (putS a 25 23 f).eval (.tmp 29) = f 4 := EV 4 (by omega)
    have e1 : (putS a 25 23 f).eval (.tmp 31) = f 6 := EV 6 (by omega)
    obtain ⟨A, n, c, h2, h3, h4⟩ := h
    refine op_plain (v := .agg #[.string ⟨#[77, 65, 73, 78]⟩, .string ⟨#[77, 65, 73, 78, 69]⟩, .int .i64 1, .int .i64 1, .int .i64 1, .int .i64 1, .int .i64 1, .slice A n c]) (w' := w') hr.o7 ?_ (by rw [PU]; exact hK _ _ (Below.refl _ _) ⟨_, ⟨A, n, c, rfl, h3, h4⟩, rfl⟩)
    intro o ho hd
    simp only [execOp, ho, List.map_toArray, List.map_cons, List.map_nil, e0, e1, h0, h2]
    go_simp
  | 8, _ =>
    refine op_call hr.o8 ones_enter (R := fun e w2 => e = .returned (cstV c1s) ∧ Below w'.heap.size w' w2) (by have e : (#[] : Array Operand).map (putS a 25 23 f).eval = #[] := (by simp); rw [e]; exact ones_any w') (fun e w2 hp => ?_)
    obtain ⟨rfl, hb⟩ := hp
    exact ⟨_, rfl, by rw [PU]; exact hK _ _ hb rfl⟩
  | 9, _ =>
    refine op_plain (v := .slice (some ⟨w'.heap.size, 0, none⟩) 2 2) (w' := w'.alloc (.cells #[.int .u8 4, .int .u8 4] 5)) hr.o9 ?_ (by rw [PU]; exact hK _ _ (below_new w' _) (by_new w' [4, 4]))
    intro o ho hd
    simp only [execOp, ho]
    go_simp
  | 10, _ =>
    have h := AT 9 (by omega) (hr.w10_9.done hrd)
    have e1 := EV 9 (by omega)
    refine op_call hr.o10 kinds_enter (R := PostK [(4, 0), (4, 0)] w') ?_ (fun e w2 hp => ?_)
    · have hargs : (#[Operand.const (.string ⟨#[]⟩), Operand.tmp 34].map (putS a 25 23 f).eval) = #[.string ⟨#[]⟩, f 9] := by
        simp only [List.map_toArray, List.map_cons, List.map_nil]
        rw [show (putS a 25 23 f).eval (.tmp 34) = f 9 from e1]; rfl
      rw [hargs]
      exact kinds_by (by decide) (by decide) exk3 h
    · obtain ⟨A, n, c, rfl, ho, hb⟩ := hp
      exact ⟨_, rfl, by rw [PU]; exact hK _ _ hb (sc_of ho)⟩
  | 11, _ =>
    have h := AT 10 (by omega) (hr.w11_10.done hrd)
    have h0 : f 8 = (.agg #[.int .i64 1, .int .i64 1, .int .i64 1, .int .i64 1]) := AT 8 (by omega) (hr.w11_8.done hrd)
    have e0 : (putS a 25 23 f).eval (.tmp 33) = f 8 := EV 8 (by omega)
    have e1 : (putS a 25 23 f).eval (.tmp 35) = f 10 := EV 10 (by omega)
    obtain ⟨A, n, c, h2, h3, h4⟩ := h
    refine op_plain (v := .agg #[.string ⟨#[65, 66]⟩, .string ⟨#[]⟩, .int .i64 1, .int .i64 1, .int .i64 1, .int .i64 1, .int .i64 2, .slice A n c]) (w' := w') hr.o11 ?_ (by rw [PU]; exact hK _ _ (Below.refl _ _) ⟨_, ⟨A, n, c, rfl, h3, h4⟩, rfl⟩)
    intro o ho hd
    simp only [execOp, ho, List.map_toArray, List.map_cons, List.map_nil, e0, e1, h0, h2]
    go_simp
  | 12, _ =>
    refine op_call hr.o12 ones_enter (R := fun e w2 => e = .returned (cstV c1s) ∧ Below w'.heap.size w' w2) (by have e : (#[] : Array Operand).map (putS a 25 23 f).eval = #[] := (by simp); rw [e]; exact ones_any w') (fun e w2 hp => ?_)
    obtain ⟨rfl, hb⟩ := hp
    exact ⟨_, rfl, by rw [PU]; exact hK _ _ hb rfl⟩
  | 13, _ =>
    refine op_plain (v := .slice (some ⟨w'.heap.size, 0, none⟩) 3 3) (w' := w'.alloc (.cells #[.int .u8 2, .int .u8 2, .int .u8 5] 5)) hr.o13 ?_ (by rw [PU]; exact hK _ _ (below_new w' _) (by_new w' [2, 2, 5]))
    intro o ho hd
    simp only [execOp, ho]
    go_simp
  | 14, _ =>
    have h := AT 13 (by omega) (hr.w14_13.done hrd)
    have e1 := EV 13 (by omega)
    refine op_call hr.o14 kinds_enter (R := PostK [(2, 65), (2, 66), (5, 67)] w') ?_ (fun e w2 hp => ?_)
    · have hargs : (#[Operand.const (.string ⟨#[65, 66, 67]⟩), Operand.tmp 38].map (putS a 25 23 f).eval) = #[.string ⟨#[65, 66, 67]⟩, f 13] := by
        simp only [List.map_toArray, List.map_cons, List.map_nil]
        rw [show (putS a 25 23 f).eval (.tmp 38) = f 13 from e1]; rfl
      rw [hargs]
      exact kinds_by (by decide) (by decide) exk4 h
    · obtain ⟨A, n, c, rfl, ho, hb⟩ := hp
      exact ⟨_, rfl, by rw [PU]; exact hK _ _ hb (sc_of ho)⟩
  | 15, _ =>
    have h := AT 14 (by omega) (hr.w15_14.done hrd)
    have h0 : f 12 = (.agg #[.int .i64 1, .int .i64 1, .int .i64 1, .int .i64 1]) := AT 12 (by omega) (hr.w15_12.done hrd)
    have e0 : (putS a 25 23 f).eval (.tmp 37) = f 12 := EV 12 (by omega)
    have e1 : (putS a 25 23 f).eval (.tmp 39) = f 14 := EV 14 (by omega)
    obtain ⟨A, n, c, h2, h3, h4⟩ := h
    refine op_plain (v := .agg #[.string ⟨#[67, 65]⟩, .string ⟨#[65, 66, 67]⟩, .int .i64 1, .int .i64 1, .int .i64 1, .int .i64 1, .int .i64 3, .slice A n c]) (w' := w') hr.o15 ?_ (by rw [PU]; exact hK _ _ (Below.refl _ _) ⟨_, ⟨A, n, c, rfl, h3, h4⟩, rfl⟩)
    intro o ho hd
    simp only [execOp, ho, List.map_toArray, List.map_cons, List.map_nil, e0, e1, h0, h2]
    go_simp
  | 16, _ =>
    have d0 := cell_keep hd.1 hinv.bel; have d1 := cell_keep hd.2.1 hinv.bel; have d2 := cell_keep hd.2.2.1 hinv.bel; have d3 := cell_keep hd.2.2.2 hinv.bel
    have e1 : (putS a 25 23 f).eval (.tmp 1) = .pointer (some ⟨q, 0, none⟩) := by rw [putS_out f 1 (by omega)]; exact h1
    refine op_plain (v := (.agg #[.int .i64 1, .int .i64 1, .int .i64 3, .int .i64 1])) (w' := w') hr.o16 ?_ (by rw [PU]; exact hK _ _ (Below.refl _ _) rfl)
    intro o ho hd
    simp only [execOp, ho, e1]
    go_simp
  | 17, _ =>
    refine op_plain (v := .slice (some ⟨w'.heap.size, 0, none⟩) 2 2) (w' := w'.alloc (.cells #[.int .u8 4, .int .u8 5] 5)) hr.o17 ?_ (by rw [PU]; exact hK _ _ (below_new w' _) (by_new w' [4, 5]))
    intro o ho hd
    simp only [execOp, ho]
    go_simp
  | 18, _ =>
    have h := AT 17 (by omega) (hr.w18_17.done hrd)
    have e1 := EV 17 (by omega)
    refine op_call hr.o18 kinds_enter (R := PostK [(4, 0), (5, 66)] w') ?_ (fun e w2 hp => ?_)
    · have hargs : (#[Operand.const (.string ⟨#[66]⟩), Operand.tmp 42].map (putS a 25 23 f).eval) = #[.string ⟨#[66]⟩, f 17] := by
        simp only [List.map_toArray, List.map_cons, List.map_nil]
        rw [show (putS a 25 23 f).eval (.tmp 42) = f 17 from e1]; rfl
      rw [hargs]
      exact kinds_by (by decide) (by decide) exk5 h
    · obtain ⟨A, n, c, rfl, ho, hb⟩ := hp
      exact ⟨_, rfl, by rw [PU]; exact hK _ _ hb (sc_of ho)⟩
  | 19, _ =>
    have h := AT 18 (by omega) (hr.w19_18.done hrd)
    have h0 : f 16 = (.agg #[.int .i64 1, .int .i64 1, .int .i64 3, .int .i64 1]) := AT 16 (by omega) (hr.w19_16.done hrd)
    have e0 : (putS a 25 23 f).eval (.tmp 41) = f 16 := EV 16 (by omega)
    have e1 : (putS a 25 23 f).eval (.tmp 43) = f 18 := EV 18 (by omega)
    obtain ⟨A, n, c, h2, h3, h4⟩ := h
    refine op_plain (v := .agg #[.string ⟨#[65]⟩, .string ⟨#[66]⟩, .int .i64 1, .int .i64 1, .int .i64 3, .int .i64 1, .int .i64 2, .slice A n c]) (w' := w') hr.o19 ?_ (by rw [PU]; exact hK _ _ (Below.refl _ _) ⟨_, ⟨A, n, c, rfl, h3, h4⟩, rfl⟩)
    intro o ho hd
    simp only [execOp, ho, List.map_toArray, List.map_cons, List.map_nil, e0, e1, h0, h2]
    go_simp
  | 20, _ =>
    obtain ⟨x0, s0, y0⟩ := AT 3 (by omega) (hr.w20_3.done hrd)
    have e0 : (putS a 25 23 f).eval (.tmp 28) = f 3 := EV 3 (by omega)
    obtain ⟨x1, s1, y1⟩ := AT 7 (by omega) (hr.w20_7.done hrd)
    have e1 : (putS a 25 23 f).eval (.tmp 32) = f 7 := EV 7 (by omega)
    obtain ⟨x2, s2, y2⟩ := AT 11 (by omega) (hr.w20_11.done hrd)
    have e2 : (putS a 25 23 f).eval (.tmp 36) = f 11 := EV 11 (by omega)
    obtain ⟨x3, s3, y3⟩ := AT 15 (by omega) (hr.w20_15.done hrd)
    have e3 : (putS a 25 23 f).eval (.tmp 40) = f 15 := EV 15 (by omega)
    obtain ⟨x4, s4, y4⟩ := AT 19 (by omega) (hr.w20_19.done hrd)
    have e4 : (putS a 25 23 f).eval (.tmp 44) = f 19 := EV 19 (by omega)
    have hb := below_new w' (.cells #[.string ⟨#[82, 79, 65, 68]⟩, .string ⟨#[82, 65, 79, 68]⟩, .int .i64 1, .int .i64 1, .int .i64 1, .int .i64 1, .int .i64 1, x0, .string ⟨#[77, 65, 73, 78]⟩, .string ⟨#[77, 65, 73, 78, 69]⟩, .int .i64 1, .int .i64 1, .int .i64 1, .int .i64 1, .int .i64 1, x1, .string ⟨#[65, 66]⟩, .string ⟨#[]⟩, .int .i64 1, .int .i64 1, .int .i64 1, .int .i64 1, .int .i64 2, x2, .string ⟨#[67, 65]⟩, .string ⟨#[65, 66, 67]⟩, .int .i64 1, .int .i64 1, .int .i64 1, .int .i64 1, .int .i64 3, x3, .string ⟨#[65]⟩, .string ⟨#[66]⟩, .int .i64 1, .int .i64 1, .int .i64 3, .int .i64 1, .int .i64 2, x4] 29)
    have hnew := heap_alloc_new w' (.cells #[.string ⟨#[82, 79, 65, 68]⟩, .string ⟨#[82, 65, 79, 68]⟩, .int .i64 1, .int .i64 1, .int .i64 1, .int .i64 1, .int .i64 1, x0, .string ⟨#[77, 65, 73, 78]⟩, .string ⟨#[77, 65, 73, 78, 69]⟩, .int .i64 1, .int .i64 1, .int .i64 1, .int .i64 1, .int .i64 1, x1, .string ⟨#[65, 66]⟩, .string ⟨#[]⟩, .int .i64 1, .int .i64 1, .int .i64 1, .int .i64 1, .int .i64 2, x2, .string ⟨#[67, 65]⟩, .string ⟨#[65, 66, 67]⟩, .int .i64 1, .int .i64 1, .int .i64 1, .int .i64 1, .int .i64 3, x3, .string ⟨#[65]⟩, .string ⟨#[66]⟩, .int .i64 1, .int .i64 1, .int .i64 3, .int .i64 1, .int .i64 2, x4] 29)
    refine op_plain (v := .slice (some ⟨w'.heap.size, 0, none⟩) 5 5) (w' := w'.alloc (.cells #[.string ⟨#[82, 79, 65, 68]⟩, .string ⟨#[82, 65, 79, 68]⟩, .int .i64 1, .int .i64 1, .int .i64 1, .int .i64 1, .int .i64 1, x0, .string ⟨#[77, 65, 73, 78]⟩, .string ⟨#[77, 65, 73, 78, 69]⟩, .int .i64 1, .int .i64 1, .int .i64 1, .int .i64 1, .int .i64 1, x1, .string ⟨#[65, 66]⟩, .string ⟨#[]⟩, .int .i64 1, .int .i64 1, .int .i64 1, .int .i64 1, .int .i64 2, x2, .string ⟨#[67, 65]⟩, .string ⟨#[65, 66, 67]⟩, .int .i64 1, .int .i64 1, .int .i64 1, .int .i64 1, .int .i64 3, x3, .string ⟨#[65]⟩, .string ⟨#[66]⟩, .int .i64 1, .int .i64 1, .int .i64 3, .int .i64 1, .int .i64 2, x4] 29)) hr.o20 ?_ (by rw [PU]; exact hK _ _ hb ⟨_, rfl, ⟨cell_of_row _ _ 0 _ _ _ hnew, cell_of_row _ _ 1 _ _ _ hnew, cell_of_row _ _ 2 _ _ _ hnew, cell_of_row _ _ 3 _ _ _ hnew, cell_of_row _ _ 4 _ _ _ hnew, cell_of_row _ _ 5 _ _ _ hnew, cell_of_row _ _ 6 _ _ _ hnew, x0, cell_of_row _ _ 7 _ _ _ hnew, s0.below hb⟩, ⟨cell_of_row _ _ 8 _ _ _ hnew, cell_of_row _ _ 9 _ _ _ hnew, cell_of_row _ _ 10 _ _ _ hnew, cell_of_row _ _ 11 _ _ _ hnew, cell_of_row _ _ 12 _ _ _ hnew, cell_of_row _ _ 13 _ _ _ hnew, cell_of_row _ _ 14 _ _ _ hnew, x1, cell_of_row _ _ 15 _ _ _ hnew, s1.below hb⟩, ⟨cell_of_row _ _ 16 _ _ _ hnew, cell_of_row _ _ 17 _ _ _ hnew, cell_of_row _ _ 18 _ _ _ hnew, cell_of_row _ _ 19 _ _ _ hnew, cell_of_row _ _ 20 _ _ _ hnew, cell_of_row _ _ 21 _ _ _ hnew, cell_of_row _ _ 22 _ _ _ hnew, x2, cell_of_row _ _ 23 _ _ _ hnew, s2.below hb⟩, ⟨cell_of_row _ _ 24 _ _ _ hnew, cell_of_row _ _ 25 _ _ _ hnew, cell_of_row _ _ 26 _ _ _ hnew, cell_of_row _ _ 27 _ _ _ hnew, cell_of_row _ _ 28 _ _ _ hnew, cell_of_row _ _ 29 _ _ _ hnew, cell_of_row _ _ 30 _ _ _ hnew, x3, cell_of_row _ _ 31 _ _ _ hnew, s3.below hb⟩, ⟨cell_of_row _ _ 32 _ _ _ hnew, cell_of_row _ _ 33 _ _ _ hnew, cell_of_row _ _ 34 _ _ _ hnew, cell_of_row _ _ 35 _ _ _ hnew, cell_of_row _ _ 36 _ _ _ hnew, cell_of_row _ _ 37 _ _ _ hnew, cell_of_row _ _ 38 _ _ _ hnew, x4, cell_of_row _ _ 39 _ _ _ hnew, s4.below hb⟩⟩)
    intro o ho hd
    obtain ⟨A0, n0, c0, z0, -⟩ := s0; obtain ⟨A1, n1, c1, z1, -⟩ := s1; obtain ⟨A2, n2, c2, z2, -⟩ := s2; obtain ⟨A3, n3, c3, z3, -⟩ := s3; obtain ⟨A4, n4, c4, z4, -⟩ := s4
    subst z0; subst z1; subst z2; subst z3; subst z4
    simp only [execOp, ho, List.map_toArray, List.map_cons, List.map_nil, e0, e1, e2, e3, e4, y0, y1, y2, y3, y4]
    go_simp
  | 21, _ =>
    obtain ⟨g, h, _⟩ := AT 20 (by omega) (hr.w21_20.done hrd)
    have e1 : (putS a 25 23 f).eval (.tmp 45) = f 20 := EV 20 (by omega)
    refine op_plain (v := .int .i64 5) (w' := w') hr.o21 ?_ (by rw [PU]; exact hK _ _ (Below.refl _ _) rfl)
    intro o ho hd
    have e2 : (putS a 25 23 f).tmps[45]?.getD undef = .slice (some ⟨g, 0, none⟩) 5 5 := by
      rw [h] at e1
      simpa [Act.eval] using e1
    simp only [execOp, ho]
    go_simp
  | 22, _ =>
    refine op_plain (v := .int .i64 0) (w' := w') hr.o22 ?_ (by rw [PU]; exact hK _ _ (Below.refl _ _) rfl)
    intro o ho hd
    simp only [execOp, ho]
    go_simp
  | n + 23, h => exact absurd h (by omega)

theorem putS23 (a : Act) (f : Nat → Value) : putS a 25 23 f = (((((((((((((((((((((((a.put (some 25) (f 0)).put (some 26) (f 1)).put (some 27) (f 2)).put (some 28) (f 3)).put (some 29) (f 4)).put (some 30) (f 5)).put (some 31) (f 6)).put (some 32) (f 7)).put (some 33) (f 8)).put (some 34) (f 9)).put (some 35) (f 10)).put (some 36) (f 11)).put (some 37) (f 12)).put (some 38) (f 13)).put (some 39) (f 14)).put (some 40) (f 15)).put (some 41) (f 16)).put (some 42) (f 17)).put (some 43) (f 18)).put (some 44) (f 19)).put (some 45) (f 20)).put (some 46) (f 21)).put (some 47) (f 22)) := by
  have h0 := putS_self a 25 23
  have e : ∀ (g : Nat → Value) (i : Nat), i < 23 → ∀ v, (putS a 25 23 g).put (some (25 + i)) v = putS a 25 23 (upd g i v) := fun g i hi v => putS_put g i hi v
  conv => rhs; rw [← h0]
  rw [e _ 0 (by omega)]
  rw [e _ 1 (by omega)]
  rw [e _ 2 (by omega)]
  rw [e _ 3 (by omega)]
  rw [e _ 4 (by omega)]
  rw [e _ 5 (by omega)]
  rw [e _ 6 (by omega)]
  rw [e _ 7 (by omega)]
  rw [e _ 8 (by omega)]
  rw [e _ 9 (by omega)]
  rw [e _ 10 (by omega)]
  rw [e _ 11 (by omega)]
  rw [e _ 12 (by omega)]
  rw [e _ 13 (by omega)]
  rw [e _ 14 (by omega)]
  rw [e _ 15 (by omega)]
  rw [e _ 16 (by omega)]
  rw [e _ 17 (by omega)]
  rw [e _ 18 (by omega)]
  rw [e _ 19 (by omega)]
  rw [e _ 20 (by omega)]
  rw [e _ 21 (by omega)]
  rw [e _ 22 (by omega)]
  refine putS_congr fun i hi => ?_
  match i, hi with
  | 0, _ => rfl
  | 1, _ => rfl
  | 2, _ => rfl
  | 3, _ => rfl
  | 4, _ => rfl
  | 5, _ => rfl
  | 6, _ => rfl
  | 7, _ => rfl
  | 8, _ => rfl
  | 9, _ => rfl
  | 10, _ => rfl
  | 11, _ => rfl
  | 12, _ => rfl
  | 13, _ => rfl
  | 14, _ => rfl
  | 15, _ => rfl
  | 16, _ => rfl
  | 17, _ => rfl
  | 18, _ => rfl
  | 19, _ => rfl
  | 20, _ => rfl
  | 21, _ => rfl
  | 22, _ => rfl
  | n + 23, h => exact absurd h (by omega)
end Go.Proofs.Ythojojjdamchpaa
