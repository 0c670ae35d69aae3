/-
  The reference's digits: ints in memory, trim, a digit more.
-/
import Derived.Test.YtgbifcfdbelfpaaStaBounds
import Derived.Test.YtgbifcfdbelfpaaStaLaw2
import Derived.Test.YtgbifcfdbelfpaaStaDig
import Derived.Maps.AppendAt
namespace Go.Proofs.Ytgbifcfdbelfpaa
open Go.RowKit
set_option linter.unusedVariables false

/-- block g: what lies ahead, the ints m, what lies behind -/
def IBlk (w : World) (g : Nat) (p : List Value) (m : List Int) (s : List Value) : Prop :=
  w.heap[g]? = some (.cells (p ++ (m.map (Value.int .i64) ++ s)).toArray 3 (0, 0))
section
variable {w w' : World} {g : Nat} {p s : List Value} {m : List Int}
theorem IBlk.lt (h : IBlk w g p m s) : g < w.heap.size := lt_of_block h
theorem IBlk.cell (h : IBlk w g p m s) (k : Nat) (hk : k < m.length) {i : Nat} (hi : i = p.length + k) : w.cell? ⟨g, i, none⟩ = some (.int .i64 (m.getD k 0)) := by
  subst hi
  rw [cell_of_row w g _ _ _ (0, 0) h]
  simp [List.getElem?_append_right, List.getElem?_append_left, hk, List.getD_eq_getElem?_getD]
theorem IBlk.free (h : IBlk w g p m s) (i : Nat) : w.frozen? ⟨g, i, none⟩ = false := frozen_of_row w g i _ _ h
theorem IBlk.set (h : IBlk w g p m s) (k : Nat) (hk : k < m.length) (v : Int) {i : Nat} (hi : i = p.length + k) : IBlk (w.setCell ⟨g, i, none⟩ (.int .i64 v)) g p (m.set k v) s := by
  subst hi
  unfold IBlk
  rw [heap_setCell_same w g _ _ _ _ h]
  congr 2
  rw [List.setIfInBounds_toArray, List.set_append_right _ _ (by omega), List.set_append_left _ _ (by simp; omega)]
  simp [List.map_set]
theorem IBlk.kept {r : Option Nat} (h : IBlk w g p m s) (hg : w.grownBy w' r) (hne : some g ≠ r) : IBlk w' g p m s := (hg.block g h.lt hne).trans h
theorem IBlk.alloc (h : IBlk w g p m s) (o : Obj) : IBlk (w.alloc o) g p m s := h.kept (World.grownBy_alloc w o none) (by simp)
theorem IBlk.split {a b c : List Int} : IBlk w g p (a ++ (b ++ c)) s ↔ IBlk w g (p ++ a.map (Value.int .i64)) b (c.map (Value.int .i64) ++ s) := by
  unfold IBlk
  simp [List.map_append, List.append_assoc]
theorem IBlk.fore {a b : List Int} : IBlk w g p (a ++ b) s ↔ IBlk w g p a (b.map (Value.int .i64) ++ s) := by
  unfold IBlk
  simp [List.map_append, List.append_assoc]
theorem IBlk.rd (h : IBlk w g p m s) {i : Nat} (hi : i = p.length) : RdK .i64 w (some ⟨g, i, none⟩) m := by
  intro h0
  exact ⟨g, i, rfl, h.lt, fun k hk => h.cell k hk (by omega)⟩
theorem IBlk.own (h : IBlk w g [] m s) {base : Nat} (hb : base ≤ g) (hl : m.length + s.length ≤ maxLen) : w.ownsRow base 3 1 (.slice (some ⟨g, 0, none⟩) m.length (m.length + s.length)) m.length (m.map (Value.int .i64)) := by
  refine ⟨by simp, .inr ⟨g, m.length + s.length, _, rfl, hb, h, by omega, hl, by simp, ?_⟩⟩
  simp
end
theorem own_iblk {w : World} {base g n cap : Nat} {xs : List Int} (h : w.ownsRow base 3 1 (.slice (some ⟨g, 0, none⟩) n cap) n (xs.map (Value.int .i64))) :
    ∃ s, IBlk w g [] xs s ∧ xs.length = n ∧ base ≤ g ∧ n + s.length = cap ∧ cap ≤ maxLen := by
  have hl := h.1
  rcases h.2 with ⟨h', _⟩ | ⟨g', cap', cur, h', hb, hg, hnc, hcm, hcs, htake⟩
  · simp at h'
  · simp only [Value.slice.injEq, Option.some.injEq, Addr.mk.injEq, and_true, true_and] at h'
    obtain ⟨rfl, rfl⟩ := h'
    simp only [Nat.mul_one] at hl hcs htake
    refine ⟨cur.toList.drop n, ?_, by simpa using hl, hb, by simp [hcs]; omega, hcm⟩
    unfold IBlk
    rw [hg, ← htake, List.nil_append, List.take_append_drop]
theorem own_ival {w : World} {base n : Nat} {v : Value} {xs : List Int} (h : w.ownsRow base 3 1 v n (xs.map (Value.int .i64))) :
    (v = .slice none 0 0 ∧ xs = [] ∧ n = 0) ∨ ∃ g s, v = .slice (some ⟨g, 0, none⟩) n (n + s.length) ∧ IBlk w g [] xs s ∧ xs.length = n ∧ base ≤ g ∧ n + s.length ≤ maxLen := by
  have hl := h.1
  simp at hl
  rcases h.2 with ⟨rfl, rfl⟩ | ⟨g, cap, cur, rfl, r⟩
  · exact .inl ⟨rfl, List.eq_nil_of_length_eq_zero hl, rfl⟩
  · obtain ⟨s, h1, h2, h3, h4, h5⟩ := own_iblk h
    exact .inr ⟨g, s, by rw [h4], h1, h2, h3, by omega⟩



/-- digits of one's own: nil, or a block -/
def OwnI (w : World) (base : Nat) (v : Value) (l : List Int) : Prop := w.ownsRow base 3 1 v l.length (l.map (Value.int .i64))
theorem OwnI.nil (w : World) (base : Nat) : OwnI w base (.slice none 0 0) [] := World.ownsRow_nil _ _ _ _
theorem OwnI.own {w : World} {base : Nat} {v : Value} {l : List Int} {n : Nat} (h : w.ownsRow base 3 1 v n (l.map (Value.int .i64))) : OwnI w base v l := by
  have hl := h.1
  simp at hl
  unfold OwnI
  rw [hl]
  exact h
theorem OwnI.below {w w1 : World} {base : Nat} {v : Value} {l : List Int} (h : OwnI w base v l) (hb : Below w.heap.size w w1) : OwnI w1 base v l := by
  refine ⟨h.1, ?_⟩
  rcases h.2 with h2 | ⟨g, cap, cur, h3, h4, h5, h6⟩
  · exact .inl h2
  · exact .inr ⟨g, cap, cur, h3, h4, (hb.block g (lt_of_block h5)).trans h5, h6⟩
theorem OwnI.at {w : World} {base : Nat} {v : Value} {l : List Int} (h : OwnI w base v l) (k : Nat) (hk : v.ownBlock = some k) : base ≤ k := by
  rcases h.2 with ⟨rfl, -⟩ | ⟨g, cap, cur, rfl, h4, h5, h6⟩
  · cases hk
  · cases hk; exact h4
/-- digits in memory, at their block's beginning -/
def DB (w : World) (A : Option Addr) (cap : Nat) (l : List Int) : Prop := (A = none ∧ cap = 0 ∧ l = []) ∨ ∃ g s, A = some ⟨g, 0, none⟩ ∧ IBlk w g [] l s
theorem DB.rd {w : World} {A : Option Addr} {cap : Nat} {l : List Int} (h : DB w A cap l) : RdK .i64 w A l := by
  rcases h with ⟨rfl, rfl, rfl⟩ | ⟨g, s, rfl, h⟩
  · exact RdK.nil _ _ _
  · exact h.rd rfl
theorem DB.below {w w' : World} {A : Option Addr} {cap : Nat} {l : List Int} (h : DB w A cap l) (hb : Below w.heap.size w w') : DB w' A cap l := by
  rcases h with h | ⟨g, s, h1, h2⟩
  · exact .inl h
  · exact .inr ⟨g, s, h1, (hb.block g h2.lt).trans h2⟩
/-- what grows, or is written, is no block of ints -/
theorem DB.kept {w w' : World} {A : Option Addr} {cap : Nat} {l : List Int} {r : Nat} {cur : Array Value} {t : Nat} {fr : Nat × Nat} (h : DB w A cap l) (hg : w.grownBy w' (some r)) (hr : w.heap[r]? = some (.cells cur t fr)) (ht : t ≠ 3) : DB w' A cap l := by
  rcases h with h | ⟨g, s, h1, h2⟩
  · exact .inl h
  · refine .inr ⟨g, s, h1, h2.kept hg ?_⟩
    intro e
    cases e
    unfold IBlk at h2
    rw [hr] at h2
    simp at h2
    exact ht h2.2.1
theorem DB.take {w : World} {A : Option Addr} {cap : Nat} {l : List Int} (h : DB w A cap l) (k : Nat) : DB w A cap (l.take k) := by
  rcases h with ⟨h1, hc, h2⟩ | ⟨g, s, h1, h2⟩
  · exact .inl ⟨h1, hc, by rw [h2]; simp⟩
  · rw [← List.take_append_drop k l] at h2
    exact .inr ⟨g, _, h1, IBlk.fore.1 h2⟩
theorem OwnI.db {w : World} {base : Nat} {v : Value} {l : List Int} (h : OwnI w base v l) : ∃ A cap, v = .slice A l.length cap ∧ DB w A cap l ∧ l.length ≤ cap ∧ cap ≤ 9223372036854775807 := by
  rcases own_ival h with ⟨rfl, rfl, -⟩ | ⟨g, s, rfl, h1, h2, h3, h4⟩
  · exact ⟨none, 0, rfl, .inl ⟨rfl, rfl, rfl⟩, by simp, by omega⟩
  · unfold maxLen at h4
    exact ⟨_, _, rfl, .inr ⟨g, s, rfl, h1⟩, by omega, by omega⟩
/-- a number as digits, at most L of them -/
def NumD (w : World) (v : Value) (L : Nat) (x : Int) : Prop := ∃ A cap l, v = .slice A l.length cap ∧ DB w A cap l ∧ Nd.Dg l ∧ l.length ≤ L ∧ Nd.V l = x ∧ l.length ≤ cap ∧ cap ≤ 9223372036854775807
theorem NumD.below {w w' : World} {v : Value} {L : Nat} {x : Int} (h : NumD w v L x) (hb : Below w.heap.size w w') : NumD w' v L x := by
  obtain ⟨A, cap, l, h1, h2, h3⟩ := h
  exact ⟨A, cap, l, h1, h2.below hb, h3⟩
theorem NumD.kept {w w' : World} {v : Value} {L : Nat} {x : Int} {r : Nat} {cur : Array Value} {t : Nat} {fr : Nat × Nat} (h : NumD w v L x) (hg : w.grownBy w' (some r)) (hr : w.heap[r]? = some (.cells cur t fr)) (ht : t ≠ 3) : NumD w' v L x := by
  obtain ⟨A, cap, l, h1, h2, h3⟩ := h
  exact ⟨A, cap, l, h1, h2.kept hg hr ht, h3⟩
theorem NumD.mono {w : World} {v : Value} {L M : Nat} {x : Int} (h : NumD w v L x) (hm : L ≤ M) : NumD w v M x := by
  obtain ⟨A, cap, l, h1, h2, h3, h4, h5⟩ := h
  exact ⟨A, cap, l, h1, h2, h3, by omega, h5⟩
theorem NumD.nil (w : World) (L : Nat) : NumD w (.slice none 0 0) L 0 := ⟨none, 0, [], rfl, .inl ⟨rfl, rfl, rfl⟩, Nd.Dg.nil, by simp, rfl, by simp, by omega⟩
/-- a number as digits, no zero at the end -/
def NumC (w : World) (v : Value) (L : Nat) (x : Int) : Prop := ∃ A cap l, v = .slice A l.length cap ∧ DB w A cap l ∧ Nd.Can l ∧ l.length ≤ L ∧ Nd.V l = x ∧ l.length ≤ cap ∧ cap ≤ 9223372036854775807
theorem NumC.num {w : World} {v : Value} {L : Nat} {x : Int} (h : NumC w v L x) : NumD w v L x := by
  obtain ⟨A, cap, l, h1, h2, h3, h4⟩ := h
  exact ⟨A, cap, l, h1, h2, h3.dg, h4⟩
def PostD (L : Nat) (x : Int) (W : World) (e : Ending) (w' : World) : Prop := ∃ v, e = .returned v ∧ NumD w' v L x ∧ Below W.heap.size W w'
def PostC (L : Nat) (x : Int) (W : World) (e : Ending) (w' : World) : Prop := ∃ v, e = .returned v ∧ NumC w' v L x ∧ Below W.heap.size W w'

set_option maxHeartbeats 1000000 in
theorem rtrim_any (A : Option Addr) (cap : Nat) (l : List Int) (w : World) (hr : RdK .i64 w A l) (hl : l.length ≤ cap) (hm : cap ≤ 9223372036854775807) :
    Calls Try.prog 90 #[.slice A l.length cap] w fun e w' => e = .returned (.slice A (Nd.trm l).length cap) ∧ w = w' := by
  have Hr := Lib.hid hr; clear hr
  go_enter Try.func90, Try.ntmps90
  go_wp2
  go_loop [0] (fun s => ∃ k : Nat, k ≤ l.length ∧ s = .slice A k cap ∧ Hid (Nd.trm (l.take k) = Nd.trm l)) (fun s => lenOf s)
  case atStart => exact ⟨l.length, Nat.le_refl _, rfl, Lib.hid (by rw [List.take_length])⟩
  case round =>
    obtain ⟨k, hk, rfl, hT⟩ := hrel
    by_cases h0 : k = 0
    · subst h0
      have hT := hT.out
      rw [List.take_zero] at hT
      have hz := Lib.hid (show (Nd.trm l).length = 0 by rw [← hT]; rfl)
      clear hT
      go_wp2_with fail
      go_ret
      exact ⟨ret_sl rfl hz.out.symm rfl, rfl⟩
    · obtain ⟨b, off, rfl, hbl, hc⟩ := Hr.out (by omega)
      obtain ⟨j, rfl⟩ : ∃ j, k = j + 1 := ⟨k - 1, by omega⟩
      have hc1 := hc j (by omega); clear hc
      have hs := Nd.take_snoc l j (by omega)
      have hT := hT.out
      rw [hs] at hT
      generalize l.getD j 0 = z at *
      have i0 : (0 : Int) ≤ (j : Int) := by omega
      have i1 : (j : Int) < ((j + 1 : Nat) : Int) := by omega
      have i2 : (j : Int) ≤ (cap : Int) := by omega
      by_cases hz : z = 0
      · subst hz
        rw [Nd.trm_zero] at hT
        have HT := Lib.hid hT; clear hT hs h0
        go_wp2_with fail
        exact ⟨⟨j, by omega, rfl, HT⟩, by simp [lenOf]⟩
      · rw [Nd.trm_last _ _ hz] at hT
        have hlen := Lib.hid (show (Nd.trm l).length = j + 1 by rw [← hT]; simp; omega)
        clear hT hs h0
        have hz2 : (z == 0) = false := by rw [beq_eq_false_iff_ne]; exact hz
        go_wp2_with fail
        go_ret
        exact ⟨ret_sl rfl hlen.out.symm rfl, rfl⟩



theorem trim_num (v : Value) (L : Nat) (x : Int) (w : World) (h : NumD w v L x) : Calls Try.prog 90 #[v] w fun e w' => ∃ v', e = .returned v' ∧ NumC w' v' L x ∧ w = w' := by
  obtain ⟨A, cap, l, rfl, h1, h2, h3, h4, h5, h6⟩ := h
  refine (rtrim_any A cap l w h1.rd h5 h6).mono ?_
  rintro e w' ⟨rfl, rfl⟩
  have := Nd.trm_len l
  refine ⟨_, rfl, ⟨A, cap, Nd.trm l, rfl, ?_, Nd.Can.mk' h2, by omega, by rw [Nd.V_trm, h4], by omega, h6⟩, rfl⟩
  rw [Nd.trm_take]
  exact h1.take _

/-- one digit more behind a slice of one's own -/
theorem wpList_app {ops : Array Oper} {rest : List Oper} {o : Oper} {a : Act} {Q : Exit → Act → World → Prop} (w : World) (hg : o.guard = none) (s x : Operand)
    (hop : o.op = .call { callee := .builtin .append, args := #[s, x], argTypes := #[24, 24] }) (base : Nat) (v : Value) (q : List Int) (hv : a.eval s = v) (ho : OwnI w base v q) (y : Int)
    (hx : a.eval x = .slice (some ⟨w.heap.size, 0, none⟩) 1 1) (hl : q.length ≤ 1000000) (hb : base ≤ w.heap.size)
    (hK : ∀ v' w', OwnI w' base v' (q ++ [y]) → Below base w w' → wpList Try.prog ops Q rest (a.put o.dst v') w') :
    wpList Try.prog ops Q (o :: rest) a (w.alloc (.cells #[.int .i64 y] 3)) := by
  obtain ⟨i0, hi, hz0, hz1, hz2⟩ := info_parts infoInt
  refine wpList_append_own _ hg _ _ 24 hop base 3 i0 (.int .i64 0) 1 8 Try.underlying24 hi hz0 hz1 hz2 rfl (by decide) _ _ _ hv (World.ownsRow.alloc ho _) ⟨w.heap.size, 0, none⟩ 1 1 [.int .i64 y] hx rfl (cell_one_new _ _ _) ?_ ?_ ?_ ?_ ?_
  · intro u hu; simp at hu; subst hu; rfl
  · unfold maxLen; omega
  · omega
  · simp; omega
  · intro v' w' h1 h2 _
    refine hK v' w' (OwnI.own (n := q.length + 1) (by simpa using h1)) ?_
    exact ((Below.refl base w).alloc hb _).grown h2 (by simp; omega) (fun k hk => ho.at k hk)


end Go.Proofs.Ytgbifcfdbelfpaa
