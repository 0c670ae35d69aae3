/-
  The walk of Tokens.
-/
import Derived.Test.YtcponhdeffnndaaGreatDoorTokWds
namespace Go.Proofs.YtcponhdeffnndaaGreatDoor
open Go.RowKit Go.Shelf
set_option linter.unusedVariables false
set_option linter.unusedSimpArgs false
attribute [local go_sem] Oper.semAt_some

def tk4 (x : Tk.T) : List Value := [.string ⟨x.text.toArray⟩, .int .i64 x.line, .int .i64 x.at', .int .u16 (Tk.cls x.text)]
def tkC (l : List Tk.T) : List Value := l.flatMap tk4
theorem tkC_snoc (l : List Tk.T) (x : Tk.T) : tkC (l ++ [x]) = tkC l ++ tk4 x := by unfold tkC; rw [List.flatMap_append]; simp
/-- tokens of one's own -/
def Toks (base : Nat) (w : World) (A : Option Addr) (n c : Nat) (l : List Tk.T) : Prop := l.length = n ∧ w.ownsRow base 44 4 (.slice A n c) n (tkC l)
theorem Toks.nil (base : Nat) (w : World) : Toks base w none 0 0 [] := ⟨rfl, World.ownsRow_nil _ _ _ _⟩
theorem infoTok : (Tryz.prog.info? 44).map (fun i => (i.zero, i.size, i.bytes)) = some (some (.agg #[.string ⟨#[]⟩, .int .i64 0, .int .i64 0, .int .u16 0]), 4, 40) := by kernel_rfl
def PostToks (ls : List (List UInt8)) (w : World) (e : Ending) (w' : World) : Prop := ∃ A n c, e = .returned (.tuple #[.slice A n c, .int .i64 (Tk.tokE ls)]) ∧ Toks w.heap.size w' A n c (Tk.tokV ls) ∧ Below w.heap.size w w'
theorem res_tokens (tmps : Array Value) (W : World) (q : Nat) (v : Value) (e : Int) (p2 : tmps.getD 2 undef = .pointer (some ⟨q, 0, none⟩)) (p3 : tmps.getD 3 undef = .pointer (some ⟨q + 1, 0, none⟩)) (h : RB2 38 q v e W) :
    (results Tryz.f26 tmps).run Tryz.prog W = .ok (.tuple #[v, .int .i64 e]) W := by
  have q2 : tmps[2]?.getD undef = .pointer (some ⟨q, 0, none⟩) := by simpa using p2
  have q3 : tmps[3]?.getD undef = .pointer (some ⟨q + 1, 0, none⟩) := by simpa using p3
  simp [results, Tryz.f26, go_sem, q2, q3, (box1 h.h1).1, (box1 h.h2).1]
/-- what the loop keeps -/
def TI (q X N : Nat) (w : World) (pre : List Tk.T) (W : World) : Prop :=
  (∃ v, Boxed W X 38 v ∧ W.ownsRow N 44 4 v pre.length (tkC pre) ∧ pre.length ≤ 40) ∧ RB2 38 q (.slice none 0 0) 0 W ∧ N ≤ W.heap.size ∧ Below q w W
def TX (q : Nat) (w : World) (cc : Code) (pre : List Tk.T) (W : World) : Prop :=
  cc = .ret ∧ RB2 38 q (.slice none 0 0) 5 W ∧ 41 ≤ pre.length ∧ Below q w W
theorem TI.own {q X N : Nat} {w : World} (hq : q + 1 < N) (hw : q ≤ w.heap.size) : OwnFrom N (TI q X N w) := by
  unfold TI
  refine OwnFrom.and (Own.from (holdsRow_own N X 38 44 4 (fun pre : List Tk.T => pre.length) tkC (fun pre v => pre.length ≤ 40)) _) (OwnFrom.and ?_ (OwnFrom.and ?_ (own_below0 (by omega) hw)))
  · intro s W W' row h hg hr
    exact h.keep fun k o _ hk ho => grown_keep hg hr k o (by omega) ho
  · intro s W W' row h hg hr
    exact Nat.le_trans h hg.size
theorem TX.own {q N : Nat} {w : World} (hq : q + 1 < N) (hw : q ≤ w.heap.size) (cc : Code) : OwnFrom N (TX q w cc) := by
  rintro s W W' row ⟨h0, h1, h2, h5⟩ hg hr
  exact ⟨h0, h1.keep fun k o _ hk ho => grown_keep hg hr k o (by omega) ho, h2, own_below0 (β := Unit) (by omega) hw () W W' row h5 hg hr⟩
theorem TI.chg {q B N : Nat} {w : World} (hw : q ≤ w.heap.size) : ∀ s X Y, TI q B N w s X → Below X.heap.size X Y → TI q B N w s Y := by
  rintro s X Y ⟨⟨v, h1, h2, h3⟩, h4, hN, h5⟩ hc
  exact ⟨⟨v, heap_keep h1 hc, row_keep h2 (fun k o hk ho => heap_keep ho hc), h3⟩, h4.keep fun k o _ hk ho => heap_keep ho hc, Nat.le_trans hN hc.size, h5.trans (hc.mono (by have := h5.size; omega))⟩
theorem TX.chg {q : Nat} {w : World} (hw : q ≤ w.heap.size) : ∀ cc s X Y, TX q w cc s X → Below X.heap.size X Y → TX q w cc s Y := by
  rintro cc s X Y ⟨h0, h1, h2, h5⟩ hc
  exact ⟨h0, h1.keep fun k o _ hk ho => heap_keep ho hc, h2, h5.trans (hc.mono (by have := h5.size; omega))⟩
theorem tokE_cases (ls : List (List UInt8)) : (6 < ls.length ∧ Tk.tokE ls = 5) ∨ (ls.length ≤ 6 ∧ ls.any Tk.long = true ∧ Tk.tokE ls = 3) ∨ (ls.length ≤ 6 ∧ ls.any Tk.long = false ∧ ls.any Tk.wrong = true ∧ Tk.tokE ls = 2) ∨
    (ls.length ≤ 6 ∧ ls.any Tk.long = false ∧ ls.any Tk.wrong = false ∧ Tk.tokE ls = if 40 < (Tk.tokensOf ls).length then 5 else 0) := by
  unfold Tk.tokE
  by_cases h : 6 < ls.length
  · exact .inl ⟨h, if_pos h⟩
  · rw [if_neg h]
    cases h1 : ls.any Tk.long
    · cases h2 : ls.any Tk.wrong
      · exact .inr (.inr (.inr ⟨by omega, rfl, rfl, by simp⟩))
      · exact .inr (.inr (.inl ⟨by omega, rfl, rfl, by simp⟩))
    · exact .inr (.inl ⟨by omega, rfl, by simp⟩)
theorem tokV_err {ls : List (List UInt8)} (h : Tk.tokE ls ≠ 0) : Tk.tokV ls = [] := if_neg h
theorem ok_of {ls : List (List UInt8)} (h0 : ls.length ≤ 6) (h1 : ls.any Tk.long = false) (h2 : ls.any Tk.wrong = false) : Ok ls := by
  rw [List.any_eq_false] at h1 h2
  refine ⟨h0, fun l hl => ?_, fun l hl => ?_⟩
  · have := h1 l hl
    unfold Tk.long at this
    simpa using this
  · have := h2 l hl
    unfold Tk.wrong at this
    simp at this
    exact this.2
/-- the world with the boxes of the results -/
theorem tk_start (w : World) : ∃ w1, w1 = (w.alloc (.cells #[.slice none 0 0] 38)).alloc (.cells #[.int .i64 0] 24) ∧ Below w.heap.size w w1 ∧ w1.heap.size = w.heap.size + 2 ∧ RB2 38 w.heap.size (.slice none 0 0) 0 w1 :=
  ⟨_, rfl, ((Below.refl _ w).alloc (Nat.le_refl _) _).alloc (by simp) _, by simp, ⟨heap_keep (heap_alloc_new w _) (below_new _ _), new_at _ _ _ (by simp)⟩⟩
set_option maxRecDepth 100000 in
set_option maxHeartbeats 2000000 in
theorem tokens_err (A : Option Addr) (n c : Nat) (ls : List (List UInt8)) (w : World) (hw : Rdy w) (hn : ls.length = n) (hn2 : n ≤ 1000000000) (hrd : RdS w A ls) (hm : ∀ x ∈ ls, x.length ≤ 100000000) (hbad : 6 < n ∨ ls.any Tk.long = true ∨ ls.any Tk.wrong = true) :
    Calls Tryz.prog 26 #[.slice A n c] w (PostToks ls w) := by
  obtain ⟨w1, hw1, hb1, hs1, hr1⟩ := tk_start w
  have q1 := fun V (hV : Rdy V) (h : RdS V A ls) => containsS_any A n c 41 100000000 Tk.long ls V hV isLong_tells hn hn2 h hm
  have q2 := fun V (hV : Rdy V) (h : RdS V A ls) => containsS_any A n c 66 100000000 Tk.wrong ls V hV isWrong_tells hn hn2 h hm
  have Q1 := Lib.hid q1; have Q2 := Lib.hid q2
  have R1 := Lib.hid (hw.below hb1); have HRD := Lib.hid (hrd.below hb1); have HB1 := Lib.hid hb1; have HR1 := Lib.hid hr1
  have hcs := tokE_cases ls
  obtain ⟨z3, z4⟩ := box1 hr1.h1
  obtain ⟨z5, z6⟩ := box1 hr1.h2
  clear q1 q2 hw hrd hm hb1 hs1 hr1
  rcases hcs with ⟨h, hE⟩ | ⟨h, hL, hE⟩ | ⟨h, hL, hWr, hE⟩ | ⟨h, hL, hWr, hE⟩
  · have hV := Lib.hid (tokV_err (ls := ls) (by rw [hE]; decide))
    have HE := Lib.hid hE
    have hd : (6 : Int) < n := by omega
    clear hE h hn hbad
    go_enter Tryz.func26, Tryz.ntmps26
    go_wp2_with fail
    refine bodyPost_ret (res_tokens _ _ w.heap.size (.slice none 0 0) 5 rfl rfl ⟨heap_keep (heap_alloc_new w _) (below_new _ _), new_at _ _ _ (by simp)⟩) rfl ⟨none, 0, 0, by rw [HE.out]; rfl, ?_, ((Below.refl _ w).alloc (Nat.le_refl _) _).alloc (by simp) _⟩
    rw [hV.out]; exact Toks.nil _ _
  · have hV := Lib.hid (tokV_err (ls := ls) (by rw [hE]; decide))
    have HE := Lib.hid hE
    have hd : ¬ (6 : Int) < n := by omega
    rw [hL] at Q1
    clear hE h hn hbad hL
    go_enter Tryz.func26, Tryz.ntmps26
    go_wp2_with fail
    rw [← hw1]
    go_wp2_with (go_at_call 40; (with_reducible refine (Q1.out _ R1.out HRD.out).mono ?_); rintro e w2 ⟨rfl, hb⟩; have H2 := Lib.hid hb; obtain ⟨y3, y4⟩ := box1 (heap_keep HR1.out.h1 hb); obtain ⟨y5, y6⟩ := box1 (heap_keep HR1.out.h2 hb); clear hb)
    refine bodyPost_ret (res_tokens _ _ w.heap.size (.slice none 0 0) 3 rfl rfl (HR1.out.keep fun k o _ _ ho => heap_keep ho H2.out).set) rfl ⟨none, 0, 0, by rw [HE.out]; rfl, ?_, set2_below (below_next HB1.out H2.out) _ _⟩
    rw [hV.out]; exact Toks.nil _ _
  · have hV := Lib.hid (tokV_err (ls := ls) (by rw [hE]; decide))
    have HE := Lib.hid hE
    have hd : ¬ (6 : Int) < n := by omega
    rw [hL] at Q1
    rw [hWr] at Q2
    clear hE h hn hbad hL hWr
    go_enter Tryz.func26, Tryz.ntmps26
    go_wp2_with fail
    rw [← hw1]
    go_wp2_with (first
      | (go_at_call 40; (with_reducible refine (Q1.out _ R1.out HRD.out).mono ?_); rintro e w2 ⟨rfl, hb⟩; have H2 := Lib.hid hb; have R2 := Lib.hid (R1.out.below hb); have HRD2 := Lib.hid (HRD.out.below hb); clear hb)
      | (go_at_call 40; (with_reducible refine (Q2.out _ R2.out HRD2.out).mono ?_); rintro e w3 ⟨rfl, hb⟩; have H3 := Lib.hid (below_next H2.out hb); obtain ⟨y3, y4⟩ := box1 (heap_keep HR1.out.h1 H3.out); obtain ⟨y5, y6⟩ := box1 (heap_keep HR1.out.h2 H3.out); clear hb))
    refine bodyPost_ret (res_tokens _ _ w.heap.size (.slice none 0 0) 2 rfl rfl (HR1.out.keep fun k o _ _ ho => heap_keep ho H3.out).set) rfl ⟨none, 0, 0, by rw [HE.out]; rfl, ?_, set2_below (below_next HB1.out H3.out) _ _⟩
    rw [hV.out]; exact Toks.nil _ _
  · rcases hbad with h' | h' | h'
    · omega
    · rw [hL] at h'; cases h'
    · rw [hWr] at h'; cases h'
end Go.Proofs.YtcponhdeffnndaaGreatDoor
