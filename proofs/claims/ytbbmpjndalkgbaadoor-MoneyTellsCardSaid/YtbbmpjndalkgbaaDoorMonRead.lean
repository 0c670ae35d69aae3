/-
  The walk of money.Read, and what money's functions need of the world.
-/
import Derived.Test.YtbbmpjndalkgbaaDoorMonRepl
import Derived.Lib.AtoiErrMem
namespace Go.Proofs.YtbbmpjndalkgbaaDoor
open Go.RowKit
set_option linter.unusedVariables false

/-- an error value lies in a variable, or nil -/
def ErrAt (w : World) (g : Nat) : Prop := g < w.heap.size ∧ ∃ ev, w.cell? ⟨g, 0, none⟩ = some ev ∧ (ev = .nilIface ∨ ∃ te pe, ev = .iface te pe)
theorem ErrAt.below {w w1 : World} {g : Nat} (h : ErrAt w g) (hb : Below w.heap.size w w1) : ErrAt w1 g := by
  obtain ⟨h1, ev, h2, h3⟩ := h
  exact ⟨by have := hb.size; omega, ev, (bcell hb g 0 h1).trans h2, h3⟩
/-- what money's functions need of the world -/
structure Rdy (w : World) : Prop where
  p10 : P10 w
  syn : ErrAt w 0
  rng : ErrAt w 1
theorem Rdy.below {w w1 : World} (h : Rdy w) (hb : Below w.heap.size w w1) : Rdy w1 := ⟨h.p10.below hb, h.syn.below hb, h.rng.below hb⟩

def PostRead (l : List UInt8) (w : World) (e : Ending) (w' : World) : Prop :=
  ∃ v er, e = .returned (.tuple #[.int .i64 v, .int .i64 er]) ∧ Mo.RdIs l v er ∧ Below w.heap.size w w'

theorem rm1_len (l : List UInt8) : (Mo.rm1 l).length ≤ l.length := by
  induction l with
  | nil => simp [Mo.rm1]
  | cons c t ih => simp only [Mo.rm1]; split <;> simp <;> omega

set_option maxHeartbeats 1000000 in
theorem read_bad (s : ByteArray) (w : World) (hw : Rdy w) (hs : s.size ≤ 140737488355328) (h : ∀ v, Lib.atoiAll (Mo.rm1 s.data.toList) ≠ .ok v) :
    Calls Tryd.prog 22 #[.string s] w (PostRead s.data.toList w) := by
  have hl : (Mo.rm1 s.data.toList).length ≤ s.size := by have := rm1_len s.data.toList; simpa using this
  have HD := Lib.hid (Mo.rdIs_of_bad _ h)
  have hq : ∀ W, Rdy W → Calls Tryd.prog 36 #[.string ⟨(Mo.rm1 s.data.toList).toArray⟩] W fun e w' => ∃ x t p, e = .returned (.tuple #[.int .i64 x, .iface t (.pointer (some p))]) ∧ Below W.heap.size W w' := by
    intro W hW
    have e1 : (⟨(Mo.rm1 s.data.toList).toArray⟩ : ByteArray).data.toList = Mo.rm1 s.data.toList := rfl
    have e2 : (⟨(Mo.rm1 s.data.toList).toArray⟩ : ByteArray).size = (Mo.rm1 s.data.toList).length := by show Array.size _ = _; simp
    match ha : Lib.atoiAll (Mo.rm1 s.data.toList) with
    | Lib.NumEnd.ok v => exact absurd ha (h v)
    | Lib.NumEnd.syntax =>
      obtain ⟨-, ev, h2, h3⟩ := hW.syn
      refine (Tryd.strconv_Atoi_syntax _ (by rw [e2]; omega) (by rw [e1]; exact ha) ev W h2 h3).mono ?_
      rintro e w' ⟨N, rfl, -, -, hb⟩
      exact ⟨_, _, _, rfl, hb⟩
    | Lib.NumEnd.range =>
      obtain ⟨-, ev, h2, h3⟩ := hW.rng
      refine (Tryd.strconv_Atoi_range _ (by rw [e2]; omega) (by rw [e1]; exact ha) ev W h2 h3).mono ?_
      rintro e w' ⟨N, rfl, -, -, hb⟩
      exact ⟨_, _, _, rfl, hb⟩
  have HQ := Lib.hid hq; clear hq h
  have R0 := Lib.hid hw; clear hw
  have HP := Lib.hid (fun W => repl_any s W hs)
  go_enter Tryd.func22, Tryd.ntmps22
  go_wp2_with (first
    | (go_at_call 37; refine (HP.out _).mono ?_; rintro e w1 ⟨rfl, hb1⟩; have R1 := Lib.hid (R0.out.below hb1); have B1 := Lib.hid hb1; clear hb1)
    | (go_at_call 36; refine (HQ.out _ R1.out).mono ?_; rintro e w2 ⟨x, t, p, rfl, hb2⟩; have B2 := Lib.hid (B1.out.trans (hb2.mono B1.out.size)); clear hb2))
  go_ret2
  exact ⟨0, 20, rfl, HD.out, B2.out⟩

theorem str_eq (a : List UInt8) (s : ByteArray) (h : a = s.data.toList) : (a == s.toList) = true := by
  rw [Lib.toList_data, h]; simp
theorem str_ne (a : List UInt8) (s : ByteArray) (h : a ≠ s.data.toList) : (a == s.toList) = false := by
  rw [Lib.toList_data, beq_eq_false_iff_ne]; exact h
set_option maxHeartbeats 1000000 in
theorem read_ok (s : ByteArray) (w : World) (hw : Rdy w) (hs : s.size ≤ 140737488355328) (v : Int) (h : Lib.atoiAll (Mo.rm1 s.data.toList) = .ok v) :
    Calls Tryd.prog 22 #[.string s] w (PostRead s.data.toList w) := by
  have hl : (Mo.rm1 s.data.toList).length ≤ s.size := by have := rm1_len s.data.toList; simpa using this
  have hq : ∀ W, Calls Tryd.prog 36 #[.string ⟨(Mo.rm1 s.data.toList).toArray⟩] W fun e w' => e = .returned (.tuple #[.int .i64 v, .nilIface]) ∧ Below W.heap.size W w' := by
    intro W
    have e1 : (⟨(Mo.rm1 s.data.toList).toArray⟩ : ByteArray).data.toList = Mo.rm1 s.data.toList := rfl
    have e2 : (⟨(Mo.rm1 s.data.toList).toArray⟩ : ByteArray).size = (Mo.rm1 s.data.toList).length := by show Array.size _ = _; simp
    refine (Tryd.strconv_Atoi_ok _ (by rw [e2]; omega) v (by rw [e1]; exact h) W).mono ?_
    rintro e w' ⟨rfl, rfl | ⟨t, rfl⟩⟩
    · exact ⟨rfl, Below.refl _ _⟩
    · exact ⟨rfl, Lib.bytesWorld_below _ _ _⟩
  obtain ⟨hy, hn⟩ := Mo.rdIs_of_atoi _ v h
  have HQ := Lib.hid hq; clear hq h
  have R0 := Lib.hid hw; clear hw
  have HP := Lib.hid (fun W => repl_any s W hs)
  cases hr : Mo.rt v
  · have ht : ∀ W, P10 W → Calls Tryd.prog 21 #[.int .i64 v] W fun e w' => e = .returned (.tuple #[.string ⟨#[]⟩, .int .i64 2]) ∧ Below W.heap.size W w' := by
      intro W hW
      refine (text_any v W hW).mono ?_
      rintro e w' ⟨rfl, hb⟩
      rw [Mo.txV, Mo.txE, hr]; exact ⟨rfl, hb⟩
    have HT := Lib.hid ht; clear ht
    have HN := Lib.hid (hn (by rw [hr]; simp)); clear hy hn hr
    go_enter Tryd.func22, Tryd.ntmps22
    go_wp2_with (first
      | (go_at_call 37; refine (HP.out _).mono ?_; rintro e w1 ⟨rfl, hb1⟩; have R1 := Lib.hid (R0.out.below hb1); have B1 := Lib.hid hb1; clear hb1)
      | (go_at_call 36; refine (HQ.out _).mono ?_; rintro e w2 ⟨rfl, hb2⟩; have R2 := Lib.hid (R1.out.below hb2); have B2 := Lib.hid (B1.out.trans (hb2.mono B1.out.size)); clear hb2)
      | (go_at_call 21; refine (HT.out _ R2.out.p10).mono ?_; rintro e w3 ⟨rfl, hb3⟩; have B3 := Lib.hid (B2.out.trans (hb3.mono B2.out.size)); clear hb3))
    go_ret2
    exact ⟨0, 20, rfl, HN.out, B3.out⟩
  · have ht : ∀ W, P10 W → Calls Tryd.prog 21 #[.int .i64 v] W fun e w' => e = .returned (.tuple #[.string ⟨(Mo.tx v).toArray⟩, .int .i64 0]) ∧ Below W.heap.size W w' := by
      intro W hW
      refine (text_any v W hW).mono ?_
      rintro e w' ⟨rfl, hb⟩
      rw [Mo.txV, Mo.txE, hr]; exact ⟨rfl, hb⟩
    have HT := Lib.hid ht; clear ht
    by_cases hx : Mo.tx v = s.data.toList
    · have HN := Lib.hid (hy ⟨hr, hx⟩); clear hy hn hr
      have e1 := str_eq _ _ hx
      clear hx
      generalize (Mo.tx v) = T at *
      go_enter Tryd.func22, Tryd.ntmps22
      go_wp2_with (first
        | (go_at_call 37; refine (HP.out _).mono ?_; rintro e w1 ⟨rfl, hb1⟩; have R1 := Lib.hid (R0.out.below hb1); have B1 := Lib.hid hb1; clear hb1)
        | (go_at_call 36; refine (HQ.out _).mono ?_; rintro e w2 ⟨rfl, hb2⟩; have R2 := Lib.hid (R1.out.below hb2); have B2 := Lib.hid (B1.out.trans (hb2.mono B1.out.size)); clear hb2)
        | (go_at_call 21; refine (HT.out _ R2.out.p10).mono ?_; rintro e w3 ⟨rfl, hb3⟩; have B3 := Lib.hid (B2.out.trans (hb3.mono B2.out.size)); clear hb3))
      go_ret2
      exact ⟨v, 0, rfl, HN.out, B3.out⟩
    · have HN := Lib.hid (hn (fun y => hx y.2)); clear hy hn hr
      have e1 := str_ne _ _ hx
      clear hx
      generalize (Mo.tx v) = T at *
      go_enter Tryd.func22, Tryd.ntmps22
      go_wp2_with (first
        | (go_at_call 37; refine (HP.out _).mono ?_; rintro e w1 ⟨rfl, hb1⟩; have R1 := Lib.hid (R0.out.below hb1); have B1 := Lib.hid hb1; clear hb1)
        | (go_at_call 36; refine (HQ.out _).mono ?_; rintro e w2 ⟨rfl, hb2⟩; have R2 := Lib.hid (R1.out.below hb2); have B2 := Lib.hid (B1.out.trans (hb2.mono B1.out.size)); clear hb2)
        | (go_at_call 21; refine (HT.out _ R2.out.p10).mono ?_; rintro e w3 ⟨rfl, hb3⟩; have B3 := Lib.hid (B2.out.trans (hb3.mono B2.out.size)); clear hb3))
      go_ret2
      exact ⟨0, 20, rfl, HN.out, B3.out⟩

theorem read_any (s : ByteArray) (w : World) (hw : Rdy w) (hs : s.size ≤ 140737488355328) :
    Calls Tryd.prog 22 #[.string s] w (PostRead s.data.toList w) := by
  match ha : Lib.atoiAll (Mo.rm1 s.data.toList) with
  | Lib.NumEnd.ok v => exact read_ok s w hw hs v ha
  | Lib.NumEnd.syntax => exact read_bad s w hw hs (by rw [ha]; simp)
  | Lib.NumEnd.range => exact read_bad s w hw hs (by rw [ha]; simp)

end Go.Proofs.YtbbmpjndalkgbaaDoor
