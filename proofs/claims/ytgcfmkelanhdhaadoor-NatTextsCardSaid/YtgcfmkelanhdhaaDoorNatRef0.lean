/-
  The reference's bits: ints in memory, slices of one's own, trim, at.
-/
import Derived.Test.YtgcfmkelanhdhaaDoorNatLaw2
import Derived.Test.YtgcfmkelanhdhaaDoorNatBin
import Derived.Maps.AppendAt
namespace Go.Proofs.YtgcfmkelanhdhaaDoor
open Go.RowKit
set_option linter.unusedVariables false

/-- block g: what lies ahead, the ints m, what lies behind -/
def IBlk (w : World) (g : Nat) (p : List Value) (m : List Int) (s : List Value) : Prop :=
  w.heap[g]? = some (.cells (p ++ (m.map (Value.int .i64) ++ s)).toArray 3 (0, 0))
section
variable {w w' : World} {g : Nat} {p s : List Value} {m : List Int}
theorem IBlk.lt (h : IBlk w g p m s) : g < w.heap.size := lt_of_block h
theorem IBlk.cell (h : IBlk w g p m s) (k : Nat) (hk : k < m.length) {i : Nat} (hi : i = p.length + k) : w.cell? ⟨g, i, none⟩ = some (.int .i64 (m.getD k 0)) := by
  subst hi
  rw [cell_of_row w g _ _ _ (0, 0) h]
  simp [List.getElem?_append_right, List.getElem?_append_left, hk, List.getD_eq_getElem?_getD]
theorem IBlk.free (h : IBlk w g p m s) (i : Nat) : w.frozen? ⟨g, i, none⟩ = false := frozen_of_row w g i _ _ h
theorem IBlk.set (h : IBlk w g p m s) (k : Nat) (hk : k < m.length) (v : Int) {i : Nat} (hi : i = p.length + k) : IBlk (w.setCell ⟨g, i, none⟩ (.int .i64 v)) g p (m.set k v) s := by
  subst hi
  unfold IBlk
  rw [heap_setCell_same w g _ _ _ _ h]
  congr 2
  rw [List.setIfInBounds_toArray, List.set_append_right _ _ (by omega), List.set_append_left _ _ (by simp; omega)]
  simp [List.map_set]
theorem IBlk.kept {r : Option Nat} (h : IBlk w g p m s) (hg : w.grownBy w' r) (hne : some g ≠ r) : IBlk w' g p m s := (hg.block g h.lt hne).trans h
theorem IBlk.alloc (h : IBlk w g p m s) (o : Obj) : IBlk (w.alloc o) g p m s := h.kept (World.grownBy_alloc w o none) (by simp)
theorem IBlk.split {a b c : List Int} : IBlk w g p (a ++ (b ++ c)) s ↔ IBlk w g (p ++ a.map (Value.int .i64)) b (c.map (Value.int .i64) ++ s) := by
  unfold IBlk
  simp [List.map_append, List.append_assoc]
theorem IBlk.fore {a b : List Int} : IBlk w g p (a ++ b) s ↔ IBlk w g p a (b.map (Value.int .i64) ++ s) := by
  unfold IBlk
  simp [List.map_append, List.append_assoc]
theorem IBlk.rd (h : IBlk w g p m s) {i : Nat} (hi : i = p.length) : RdK .i64 w (some ⟨g, i, none⟩) m := by
  intro h0
  exact ⟨g, i, rfl, h.lt, fun k hk => h.cell k hk (by omega)⟩
theorem IBlk.own (h : IBlk w g [] m s) {base : Nat} (hb : base ≤ g) (hl : m.length + s.length ≤ maxLen) : w.ownsRow base 3 1 (.slice (some ⟨g, 0, none⟩) m.length (m.length + s.length)) m.length (m.map (Value.int .i64)) := by
  refine ⟨by simp, .inr ⟨g, m.length + s.length, _, rfl, hb, h, by omega, hl, by simp, ?_⟩⟩
  simp
end
theorem own_iblk {w : World} {base g n cap : Nat} {xs : List Int} (h : w.ownsRow base 3 1 (.slice (some ⟨g, 0, none⟩) n cap) n (xs.map (Value.int .i64))) :
    ∃ s, IBlk w g [] xs s ∧ xs.length = n ∧ base ≤ g ∧ n + s.length = cap ∧ cap ≤ maxLen := by
  have hl := h.1
  rcases h.2 with ⟨h', _⟩ | ⟨g', cap', cur, h', hb, hg, hnc, hcm, hcs, htake⟩
  · simp at h'
  · simp only [Value.slice.injEq, Option.some.injEq, Addr.mk.injEq, and_true, true_and] at h'
    obtain ⟨rfl, rfl⟩ := h'
    simp only [Nat.mul_one] at hl hcs htake
    refine ⟨cur.toList.drop n, ?_, by simpa using hl, hb, by simp [hcs]; omega, hcm⟩
    unfold IBlk
    rw [hg, ← htake, List.nil_append, List.take_append_drop]
theorem own_ival {w : World} {base n : Nat} {v : Value} {xs : List Int} (h : w.ownsRow base 3 1 v n (xs.map (Value.int .i64))) :
    (v = .slice none 0 0 ∧ xs = [] ∧ n = 0) ∨ ∃ g s, v = .slice (some ⟨g, 0, none⟩) n (n + s.length) ∧ IBlk w g [] xs s ∧ xs.length = n ∧ base ≤ g ∧ n + s.length ≤ maxLen := by
  have hl := h.1
  simp at hl
  rcases h.2 with ⟨rfl, rfl⟩ | ⟨g, cap, cur, rfl, r⟩
  · exact .inl ⟨rfl, List.eq_nil_of_length_eq_zero hl, rfl⟩
  · obtain ⟨s, h1, h2, h3, h4, h5⟩ := own_iblk h
    exact .inr ⟨g, s, by rw [h4], h1, h2, h3, by omega⟩


/-- a row of ints of one's own, read -/
theorem own_rd2 {w : World} {base : Nat} {v : Value} {xs : List Int} {n : Nat} (h : w.ownsRow base 3 1 v n (xs.map (Value.int .i64))) :
    (v = .slice none 0 0 ∧ xs = []) ∨ ∃ g cap, v = .slice (some ⟨g, 0, none⟩) xs.length cap ∧ xs.length ≤ cap ∧ cap ≤ 9223372036854775807 ∧ Rd w (some ⟨g, 0, none⟩) xs := by
  obtain ⟨A, cap, hv, hc, hr⟩ := own_rd h
  have hl := h.1
  simp at hl
  rcases h.2 with ⟨rfl, h2⟩ | ⟨g, cap', cur, rfl, hb, hh, hnc, hcm, hsz, ht⟩
  · exact .inl ⟨rfl, List.eq_nil_of_length_eq_zero (by omega)⟩
  · refine .inr ⟨g, cap', by rw [hl], by omega, by unfold maxLen at hcm; omega, ?_⟩
    have : A = some ⟨g, 0, none⟩ := by simp at hv; exact hv.1.symm
    rw [this] at hr; exact hr

def OwnI (w : World) (base : Nat) (v : Value) (l : List Int) : Prop := w.ownsRow base 3 1 v l.length (l.map (Value.int .i64))
theorem OwnI.nil (w : World) (base : Nat) : OwnI w base (.slice none 0 0) [] := World.ownsRow_nil _ _ _ _
theorem OwnI.sl {w : World} {base : Nat} {v : Value} {l : List Int} (h : OwnI w base v l) : ∃ A cap, v = .slice A l.length cap ∧ l.length ≤ cap ∧ cap ≤ 9223372036854775807 ∧ RdK .i64 w A l := by
  rcases own_rd2 h with ⟨rfl, rfl⟩ | ⟨g, cap, rfl, h1, h2, h3⟩
  · exact ⟨none, 0, rfl, by simp, by omega, RdK.nil _ _ _⟩
  · exact ⟨_, cap, rfl, h1, h2, h3⟩
theorem OwnI.own {w : World} {base : Nat} {v : Value} {l : List Int} {n : Nat} (h : w.ownsRow base 3 1 v n (l.map (Value.int .i64))) : OwnI w base v l := by
  have hl := h.1
  simp at hl
  unfold OwnI
  rw [hl]
  exact h
theorem OwnI.below {w w1 : World} {base : Nat} {v : Value} {l : List Int} (h : OwnI w base v l) (hb : Below w.heap.size w w1) : OwnI w1 base v l := by
  refine ⟨h.1, ?_⟩
  rcases h.2 with h2 | ⟨g, cap, cur, h3, h4, h5, h6⟩
  · exact .inl h2
  · exact .inr ⟨g, cap, cur, h3, h4, (hb.block g (lt_of_block h5)).trans h5, h6⟩
theorem OwnI.at {w : World} {base : Nat} {v : Value} {l : List Int} (h : OwnI w base v l) (k : Nat) (hk : v.ownBlock = some k) : base ≤ k := by
  rcases h.2 with ⟨rfl, -⟩ | ⟨g, cap, cur, rfl, h4, h5, h6⟩
  · cases hk
  · cases hk; exact h4
/-- a number as bits -/
structure NumB (w : World) (A : Option Addr) (l : List Int) (x : Int) : Prop where
  rd : RdK .i64 w A l
  can : Nb.Can l
  len : l.length ≤ 100000
  val : Nb.V l = x
theorem NumB.below {w w' : World} {A : Option Addr} {l : List Int} {x : Int} (h : NumB w A l x) (hb : Below w.heap.size w w') : NumB w' A l x := ⟨h.rd.below hb, h.can, h.len, h.val⟩
theorem NumB.nn {w : World} {A : Option Addr} {l : List Int} {x : Int} (h : NumB w A l x) : 0 ≤ x := h.val ▸ Nb.V_nonneg h.can.dg
theorem NumB.nil (w : World) : NumB w none [] 0 := ⟨RdK.nil _ _ _, Nb.Can.nil, by simp, rfl⟩
/-- a slice of a call's own: nil has no room, and what it lies in is new -/
def Cap (W : World) (A : Option Addr) (cap : Nat) : Prop := (A = none → cap = 0) ∧ ∀ b off, A = some ⟨b, off, none⟩ → W.heap.size ≤ b
theorem Cap.mono {W W' : World} {A : Option Addr} {cap : Nat} (h : Cap W' A cap) (hs : W.heap.size ≤ W'.heap.size) : Cap W A cap := ⟨h.1, fun b off e => Nat.le_trans hs (h.2 b off e)⟩
theorem Cap.nil (W : World) : Cap W none 0 := ⟨fun _ => rfl, fun b off e => by cases e⟩
def PostBn (x : Int) (W : World) (e : Ending) (w' : World) : Prop :=
  ∃ A cap l, e = .returned (.slice A l.length cap) ∧ NumB w' A l x ∧ l.length ≤ cap ∧ cap ≤ 9223372036854775807 ∧ Cap W A cap ∧ Below W.heap.size W w'

set_option maxHeartbeats 1000000 in
theorem rtrim_any (A : Option Addr) (cap : Nat) (l : List Int) (w : World) (hr : RdK .i64 w A l) (hl : l.length ≤ cap) (hm : cap ≤ 9223372036854775807) :
    Calls Tryd.prog 69 #[.slice A l.length cap] w fun e w' => e = .returned (.slice A (Nb.trm l).length cap) ∧ w = w' := by
  have Hr := Lib.hid hr; clear hr
  go_enter Tryd.func69, Tryd.ntmps69
  go_wp2
  go_loop [0] (fun s => ∃ k : Nat, k ≤ l.length ∧ s = .slice A k cap ∧ Hid (Nb.trm (l.take k) = Nb.trm l)) (fun s => lenOf s)
  case atStart => exact ⟨l.length, Nat.le_refl _, rfl, Lib.hid (by rw [List.take_length])⟩
  case round =>
    obtain ⟨k, hk, rfl, hT⟩ := hrel
    by_cases h0 : k = 0
    · subst h0
      have hT := hT.out
      rw [List.take_zero] at hT
      have hz := Lib.hid (show (Nb.trm l).length = 0 by rw [← hT]; rfl)
      clear hT
      go_wp2_with fail
      go_ret
      exact ⟨ret_sl rfl hz.out.symm rfl, rfl⟩
    · obtain ⟨b, off, rfl, hbl, hc⟩ := Hr.out (by omega)
      obtain ⟨j, rfl⟩ : ∃ j, k = j + 1 := ⟨k - 1, by omega⟩
      have hc1 := hc j (by omega); clear hc
      have hs := Nb.take_snoc l j (by omega)
      have hT := hT.out
      rw [hs] at hT
      generalize l.getD j 0 = z at *
      have i0 : (0 : Int) ≤ (j : Int) := by omega
      have i1 : (j : Int) < ((j + 1 : Nat) : Int) := by omega
      have i2 : (j : Int) ≤ (cap : Int) := by omega
      by_cases hz : z = 0
      · subst hz
        rw [Nb.trm_zero] at hT
        have HT := Lib.hid hT; clear hT hs h0
        go_wp2_with fail
        exact ⟨⟨j, by omega, rfl, HT⟩, by simp [lenOf]⟩
      · rw [Nb.trm_last _ _ hz] at hT
        have hlen := Lib.hid (show (Nb.trm l).length = j + 1 by rw [← hT]; simp; omega)
        clear hT hs h0
        have hz2 : (z == 0) = false := by rw [beq_eq_false_iff_ne]; exact hz
        go_wp2_with fail
        go_ret
        exact ⟨ret_sl rfl hlen.out.symm rfl, rfl⟩


theorem at_any (A : Option Addr) (cap : Nat) (l : List Int) (i : Nat) (w : World) (hr : RdK .i64 w A l) (hl : l.length ≤ 9223372036854775807) :
    Calls Tryd.prog 54 #[.slice A l.length cap, .int .i64 i] w fun e w' => e = .returned (.int .i64 (l.getD i 0)) ∧ w = w' := by
  by_cases h : i < l.length
  · obtain ⟨b, off, rfl, hbl, hc⟩ := hr (by omega)
    have hc1 := hc i h; clear hc hr
    generalize l.getD i 0 = z at *
    have i0 : (0 : Int) ≤ (i : Int) := by omega
    have i1 : (i : Int) < (l.length : Int) := by omega
    go_enter Tryd.func54, Tryd.ntmps54
    go_wp2
    go_ret
    exact ⟨rfl, rfl⟩
  · have hz := Lib.hid (show l.getD i 0 = 0 by rw [List.getD_eq_getElem?_getD, List.getElem?_eq_none (by omega)]; rfl)
    clear hr
    go_enter Tryd.func54, Tryd.ntmps54
    go_wp2
    go_ret
    exact ⟨ret_int hz.out.symm, rfl⟩


/-- what comes behind a trimmed row of one's own -/
theorem trim_bn {w w1 : World} {v : Value} {l : List Int} {x : Int} (h : OwnI w1 w.heap.size v l) (hd : Nb.Dg l) (hl : l.length ≤ 100000) (hx : Nb.V l = x) (hb : Below w.heap.size w w1) :
    Calls Tryd.prog 69 #[v] w1 (PostBn x w) := by
  rcases own_rd2 h with ⟨rfl, rfl⟩ | ⟨g, cap, rfl, h1, h2, h3⟩
  · refine (rtrim_any none 0 [] w1 (RdK.nil _ _ _) (by simp) (by omega)).mono ?_
    rintro e w' ⟨rfl, rfl⟩
    exact ⟨none, 0, [], rfl, ⟨RdK.nil _ _ _, Nb.Can.nil, by simp, hx⟩, by simp, by omega, Cap.nil _, hb⟩
  · refine (rtrim_any (some ⟨g, 0, none⟩) cap l w1 h3 h1 h2).mono ?_
    rintro e w' ⟨rfl, rfl⟩
    have := Nb.trm_len l
    exact ⟨_, cap, Nb.trm l, rfl, ⟨by rw [Nb.trm_take]; exact rdk_take h3 _, Nb.Can.mk' hd, by omega, by rw [Nb.V_trm, hx]⟩, by omega, h2, ⟨fun e => (by cases e), fun b off e => (by cases e; exact h.at g rfl)⟩, hb⟩

/-- one int more behind a slice of one's own -/
theorem wpList_app {ops : Array Oper} {rest : List Oper} {o : Oper} {a : Act} {Q : Exit → Act → World → Prop} (w : World) (hg : o.guard = none) (s x : Operand)
    (hop : o.op = .call { callee := .builtin .append, args := #[s, x], argTypes := #[77, 77] }) (base : Nat) (v : Value) (q : List Int) (hv : a.eval s = v) (ho : OwnI w base v q) (y : Int)
    (hx : a.eval x = .slice (some ⟨w.heap.size, 0, none⟩) 1 1) (hl : q.length ≤ 1000000) (hb : base ≤ w.heap.size)
    (hK : ∀ v' w', OwnI w' base v' (q ++ [y]) → Below base w w' → wpList Tryd.prog ops Q rest (a.put o.dst v') w') :
    wpList Tryd.prog ops Q (o :: rest) a (w.alloc (.cells #[.int .i64 y] 3)) := by
  obtain ⟨i0, hi, hz0, hz1, hz2⟩ := info_parts infoInt
  refine wpList_append_own _ hg _ _ 77 hop base 3 i0 (.int .i64 0) 1 8 Tryd.underlying77 hi hz0 hz1 hz2 rfl (by decide) _ _ _ hv (World.ownsRow.alloc ho _) ⟨w.heap.size, 0, none⟩ 1 1 [.int .i64 y] hx rfl (cell_one_new _ _ _) ?_ ?_ ?_ ?_ ?_
  · intro u hu; simp at hu; subst hu; rfl
  · unfold maxLen; omega
  · omega
  · simp; omega
  · intro v' w' h1 h2 _
    refine hK v' w' (OwnI.own (n := q.length + 1) (by simpa using h1)) ?_
    exact ((Below.refl base w).alloc hb _).grown h2 (by simp; omega) (fun k hk => ho.at k hk)

end Go.Proofs.YtgcfmkelanhdhaaDoor
