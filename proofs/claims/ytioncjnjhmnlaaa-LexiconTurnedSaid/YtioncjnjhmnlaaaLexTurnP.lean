/-
  Words the other way round, and a word more; lists of texts of one's own, a hit more, a row of zeros.
-/
import Derived.Test.YtioncjnjhmnlaaaLexFoundP
import Derived.Test.YtioncjnjhmnlaaaLexAllP
namespace Go.Proofs.Ytioncjnjhmnlaaa
open Go.RowKit Lx
set_option linter.unusedVariables false
set_option linter.unusedSimpArgs false

section
variable (c : Ed.Cst) (ws : List ByteArray) (s : ByteArray) (most : Int)
theorem rev_at (j : Nat) (h : j < ws.length) : ws.reverse.getD j ByteArray.empty = ws.getD (ws.length - 1 - j) ByteArray.empty := by
  rw [List.getD_eq_getElem?_getD, List.getD_eq_getElem?_getD, List.getElem?_reverse h]
theorem txs_rev : txs ws.reverse = (txs ws).reverse := by simp [txs, List.map_reverse]
theorem err_rev (hm : ws.length ≤ 1000) (h : errNew ws = 0) : errNew ws.reverse = 0 := by
  refine (good_err (by simpa using hm)).1 ?_
  have h1 := (good_err hm).2 h
  unfold Good at *
  rw [show (txs ws).take ws.length = txs ws by rw [← txs_len]; exact List.take_length] at h1
  rw [show (txs ws.reverse).take ws.reverse.length = txs ws.reverse by rw [← txs_len ws.reverse]; exact List.take_length, txs_rev]
  exact ⟨(List.reverse_perm _).symm.nodup h1.1, fun x hx => h1.2 x (List.mem_reverse.1 hx)⟩
theorem near_has (i : Nat) (hi : i < ws.length) (hd : Ed.D c (tx s) (tx (ws.getD i ByteArray.empty)) ≤ most) : ((i : Int), Ed.D c (tx s) (tx (ws.getD i ByteArray.empty))) ∈ nearOf c ws s most :=
  (near_in c ws s most).2.mem_iff.2 (HL_mem.2 ⟨i, hi, hd, rfl⟩)
/-- a hit of the words the other way round -/
theorem mem_rev {y : Int × Int} (h : y ∈ nearOf c ws.reverse s most) : ∃ j : Nat, j < ws.length ∧ y.1 = (j : Int) ∧ (((ws.length - 1 - j : Nat) : Int), y.2) ∈ nearOf c ws s most := by
  obtain ⟨j, hj, hd, rfl⟩ := mem_near c ws.reverse s most h
  rw [List.length_reverse] at hj
  rw [rev_at ws j hj] at hd ⊢
  exact ⟨j, hj, rfl, near_has c ws s most _ (by omega) hd⟩
theorem HL_count (k : Nat) (hk : k ≤ ws.length) : (HL c ws s most k).length = (ws.take k).countP fun u => decide (Ed.D c (tx s) (tx u) ≤ most) := by
  induction k with
  | zero => rfl
  | succ k ih =>
    have e : ws.take (k + 1) = ws.take k ++ [ws.getD k ByteArray.empty] := by
      rw [List.take_succ_eq_append_getElem (by omega), List.getD_eq_getElem?_getD, List.getElem?_eq_getElem (by omega)]; rfl
    rw [len_HL, ih (by omega), e, List.countP_append]
    congr 1
    simp [List.countP_cons]
theorem len_rev : (nearOf c ws.reverse s most).length = (nearOf c ws s most).length := by
  rw [len_near, len_near, HL_count c ws.reverse s most _ (Nat.le_refl _), HL_count c ws s most _ (Nat.le_refl _), List.take_length, List.take_length, List.countP_reverse]
theorem HL_snoc (u : ByteArray) (k : Nat) (hk : k ≤ ws.length) : HL c (ws ++ [u]) s most k = HL c ws s most k := by
  induction k with
  | zero => rfl
  | succ k ih =>
    have e : (ws ++ [u]).getD k ByteArray.empty = ws.getD k ByteArray.empty := by
      rw [List.getD_eq_getElem?_getD, List.getD_eq_getElem?_getD, List.getElem?_append_left (by omega)]
    by_cases h : Ed.D c (tx s) (tx (ws.getD k ByteArray.empty)) ≤ most
    · rw [HL_yes h, HL_yes (by rw [e]; exact h), ih (by omega), e]
    · rw [HL_no h, HL_no (by rw [e]; exact h), ih (by omega)]
/-- with a word more, the others stay -/
theorem near_snoc (u : ByteArray) : (nearOf c (ws ++ [u]) s most).filter (fun y => decide (y.1 < (ws.length : Int))) = nearOf c ws s most := by
  obtain ⟨h1, h2⟩ := near_in c (ws ++ [u]) s most
  refine nearOf_eq ?_ (h1.filter _)
  have e : (HL c (ws ++ [u]) s most (ws ++ [u]).length).filter (fun y => decide (y.1 < (ws.length : Int))) = HL c ws s most ws.length := by
    have e1 : (HL c (ws ++ [u]) s most ws.length).filter (fun y => decide (y.1 < (ws.length : Int))) = HL c ws s most ws.length := by
      rw [HL_snoc c ws s most u _ (Nat.le_refl _), List.filter_eq_self]
      intro y hy
      obtain ⟨i, hi, -, rfl⟩ := HL_mem.1 hy
      simp
      omega
    rw [List.length_append, List.length_singleton]
    by_cases h : Ed.D c (tx s) (tx ((ws ++ [u]).getD ws.length ByteArray.empty)) ≤ most
    · rw [HL_yes h, List.filter_append, e1]
      simp
    · rw [HL_no h, e1]
  rw [← e]
  exact h2.filter _
end
/-- texts of one's own: nil, or a block -/
def OwnS (w : World) (base : Nat) (v : Value) (l : List ByteArray) : Prop := w.ownsRow base 9 1 v l.length (l.map Value.string)
theorem OwnS.nil (w : World) (base : Nat) : OwnS w base (.slice none 0 0) [] := World.ownsRow_nil _ _ _ _
theorem OwnS.of {w : World} {base : Nat} {v : Value} {l : List ByteArray} {n : Nat} (h : w.ownsRow base 9 1 v n (l.map Value.string)) : OwnS w base v l := by
  have hl := h.1
  simp at hl
  unfold OwnS
  rw [hl]
  exact h
theorem OwnS.below {w w1 : World} {base : Nat} {v : Value} {l : List ByteArray} (h : OwnS w base v l) (hb : Below w.heap.size w w1) : OwnS w1 base v l :=
  row_keep h fun k o _ ho => heap_keep ho hb
theorem OwnS.shape {w : World} {base : Nat} {v : Value} {l : List ByteArray} (h : OwnS w base v l) : ∃ A c, v = .slice A l.length c ∧ RdW w 0 A l := by
  rcases h.2 with ⟨rfl, h2⟩ | ⟨g, cap, cur, rfl, h4, h5, h6, h7, h8⟩
  · rw [h2]; exact ⟨none, 0, rfl, fun h0 => by omega⟩
  · refine ⟨_, cap, rfl, fun h0 => ⟨g, 0, rfl, Nat.zero_le _, (Array.getElem?_eq_some_iff.1 h5).1, fun i hi => ?_⟩⟩
    have := World.ownsRow.cells h (g := g) rfl i (.string (l.getD i ByteArray.empty)) (by rw [List.getElem?_map, List.getElem?_eq_getElem hi, List.getD_eq_getElem?_getD, List.getElem?_eq_getElem hi]; rfl)
    rw [add_at] at this
    rw [Nat.zero_add]; exact this
theorem infoStr7 : (Try.prog.info? 9).map (fun i => (i.zero, i.size, i.bytes)) = some (some (.string ⟨#[]⟩), 1, 16) := by kernel_rfl
theorem ownS_shape2 {w : World} {base : Nat} {v : Value} {l : List ByteArray} (h : OwnS w base v l) : ∃ A n c, v = .slice A n c := by
  obtain ⟨A, c, e, -⟩ := h.shape
  exact ⟨A, _, c, e⟩
/-- a text more -/
theorem wpList_app1S {ops : Array Oper} {rest : List Oper} {o : Oper} {a : Act} {Q : Exit → Act → World → Prop} (w : World) (hg : o.guard = none) (s x : Operand)
    (hop : o.op = .call { callee := .builtin .append, args := #[s, x], argTypes := #[22, 22] }) (base : Nat) (v : Value) (q : List ByteArray) (hv : a.eval s = v) (ho : OwnS w base v q) (y : ByteArray) (g : Nat)
    (hx : a.eval x = .slice (some ⟨g, 0, none⟩) 1 1) (hc : w.cell? ⟨g, 0, none⟩ = some (.string y)) (hl : q.length ≤ 1000000) (hb : base ≤ w.heap.size)
    (hK : ∀ A n c w', OwnS w' base (.slice A n c) (q ++ [y]) → w.grownBy w' v.ownBlock → wpList Try.prog ops Q rest (a.put o.dst (.slice A n c)) w') :
    wpList Try.prog ops Q (o :: rest) a w := by
  obtain ⟨i0, hi, hz0, hz1, hz2⟩ := info_parts infoStr7
  refine wpList_append_own _ hg _ _ 22 hop base 9 i0 (.string ⟨#[]⟩) 1 16 Try.underlying22 hi hz0 hz1 hz2 rfl (by decide) _ _ _ hv ho ⟨g, 0, none⟩ 1 1 [.string y] hx rfl ?_ ?_ ?_ ?_ hb ?_
  · intro j u hj
    match j, hj with
    | 0, hj => simp at hj; subst hj; simpa [Addr.add] using hc
  · intro u hu; simp at hu; subst hu; rfl
  · unfold maxLen; omega
  · omega
  · intro v' w' h1 h3 _
    have h3' := OwnS.of (l := q ++ [y]) (n := q.length + 1) (by rw [List.map_append]; exact h1)
    obtain ⟨A, n, c, rfl⟩ := ownS_shape2 h3'
    exact hK _ _ _ _ h3' h3
/-- all texts of a slice that came in, behind none -/
theorem wpList_appWs {ops : Array Oper} {rest : List Oper} {o : Oper} {a : Act} {Q : Exit → Act → World → Prop} (w : World) (hg : o.guard = none) (s x : Operand)
    (hop : o.op = .call { callee := .builtin .append, args := #[s, x], argTypes := #[22, 22] }) (base : Nat) (v : Value) (hv : a.eval s = v) (ho : OwnS w base v []) (A : Option Addr) (cp : Nat) (ws : List ByteArray)
    (hx : a.eval x = .slice A ws.length cp) (hA : A = none → ws = [] ∧ cp = 0) (hr : RdW w 0 A ws) (hl : ws.length ≤ 1000000) (hb : base ≤ w.heap.size)
    (hK : ∀ A n c w', OwnS w' base (.slice A n c) ws → w.grownBy w' v.ownBlock → wpList Try.prog ops Q rest (a.put o.dst (.slice A n c)) w') :
    wpList Try.prog ops Q (o :: rest) a w := by
  obtain ⟨i0, hi, hz0, hz1, hz2⟩ := info_parts infoStr7
  cases A with
  | none =>
    obtain ⟨rfl, rfl⟩ := hA rfl
    refine wpList_plain hg fun K hK' => ?_
    have hr := run_append_owned_none (P := Try.prog) (w := w) base 22 o.type 9 i0 1 Try.underlying22 hi v _ _ ho
    obtain ⟨A, n, c, e⟩ := ownS_shape2 ho
    unfold Oper.wp execOp
    simp only [hop, resolve, invoke, builtin, Sem.run_bind, Sem.run_pure, Result.andThen_ok, List.map_toArray, List.map_cons, List.map_nil, hv, hx, List.length_nil, hr]
    subst e
    exact hK' _ _ (hK A n c w ho (World.grownBy.refl _ _))
  | some ad =>
    refine wpList_append_own _ hg _ _ 22 hop base 9 i0 (.string ⟨#[]⟩) 1 16 Try.underlying22 hi hz0 hz1 hz2 rfl (by decide) _ _ _ hv ho ad ws.length cp (ws.map Value.string) hx (by simp) ?_ ?_ ?_ ?_ hb ?_
    · intro j u hj
      rw [List.getElem?_map] at hj
      have hjl : j < ws.length := by
        rcases Nat.lt_or_ge j ws.length with h | h
        · exact h
        · rw [List.getElem?_eq_none h] at hj; cases hj
      obtain ⟨b, off, e, -, -, hc⟩ := hr (by omega)
      cases e
      have := hc j hjl
      have ea : (⟨b, off, none⟩ : Addr).add j = ⟨b, off + j, none⟩ := by unfold Addr.add; split <;> simp [*]
      rw [ea, this]
      rw [List.getElem?_eq_getElem hjl] at hj
      rw [List.getD_eq_getElem?_getD, List.getElem?_eq_getElem hjl]
      simpa using hj
    · intro u hu; simp at hu; obtain ⟨z, -, rfl⟩ := hu; rfl
    · unfold maxLen; simp; omega
    · simp; omega
    · intro v' w' h1 h3 _
      have h3' := OwnS.of (l := ws) (n := 0 + ws.length) (by simpa using h1)
      obtain ⟨A, n, c, rfl⟩ := ownS_shape2 h3'
      exact hK _ _ _ _ h3' h3
/-- a hit more -/
theorem wpList_app1H {ops : Array Oper} {rest : List Oper} {o : Oper} {a : Act} {Q : Exit → Act → World → Prop} (w : World) (hg : o.guard = none) (s x : Operand)
    (hop : o.op = .call { callee := .builtin .append, args := #[s, x], argTypes := #[32, 32] }) (base : Nat) (v : Value) (q : List (Int × Int)) (hv : a.eval s = v) (ho : OwnH w base v q) (y : Int × Int) (g : Nat)
    (hx : a.eval x = .slice (some ⟨g, 0, none⟩) 1 1) (hc : w.cell? ⟨g, 0, none⟩ = some (.int .i64 y.1)) (hd : w.cell? ⟨g, 1, none⟩ = some (.int .i64 y.2)) (hl : q.length ≤ 1000000) (hb : base ≤ w.heap.size)
    (hK : ∀ A n c w', OwnH w' base (.slice A n c) (q ++ [y]) → w.grownBy w' v.ownBlock → wpList Try.prog ops Q rest (a.put o.dst (.slice A n c)) w') :
    wpList Try.prog ops Q (o :: rest) a w := by
  obtain ⟨i0, hi, hz0, hz1, hz2⟩ := info_parts infoHit
  refine wpList_append_own _ hg _ _ 32 hop base 38 i0 (.agg #[.int .i64 0, .int .i64 0]) 2 16 Try.underlying32 hi hz0 hz1 hz2 rfl (by decide) _ _ _ hv ho ⟨g, 0, none⟩ 1 1 [.int .i64 y.1, .int .i64 y.2] hx rfl ?_ ?_ ?_ ?_ hb ?_
  · intro j u hj
    match j, hj with
    | 0, hj => simp at hj; subst hj; simpa [Addr.add] using hc
    | 1, hj => simp at hj; subst hj; simpa [Addr.add] using hd
  · intro u hu; simp at hu; rcases hu with rfl | rfl <;> rfl
  · unfold maxLen; omega
  · omega
  · intro v' w' h1 h3 _
    have h3' := OwnH.of (l := q ++ [y]) (n := q.length + 1) (by rw [hitC_append]; exact h1)
    obtain ⟨A, c, rfl, -⟩ := h3'.shape
    exact hK _ _ _ _ h3' h3
/-- a row of zeros -/
theorem wpList_make_row {ops : Array Oper} {rest : List Oper} {o : Oper} {a : Act} {Q : Exit → Act → World → Prop} (w : World)
    (hg : o.guard = none) (l c : Operand) (hop : o.op = Op.makeSlice 44 l c) (n : Nat) (hl : a.eval l = .int .i64 (n : Int)) (hc : a.eval c = .int .i64 (n : Int)) (hn : n ≤ 100000)
    (hK : ∀ w', RowI w' w.heap.size n (fun _ => 0) → Below w.heap.size w w' → w'.heap.size = w.heap.size + 1 → wpList Try.prog ops Q rest (a.put o.dst (.slice (some ⟨w.heap.size, 0, none⟩) n n)) w') :
    wpList Try.prog ops Q (o :: rest) a w := by
  refine wpList_plain hg fun K hK' => ?_
  obtain ⟨i, hi, hz0, hz1, hz2⟩ := info_parts infoInt
  have hr := run_make (P := Try.prog) w 44 3 i (.int .i64 0) Try.underlying44 hi hz0 .i64 .i64 (n : Int) (n : Int) (by omega) (Int.le_refl _) (by rw [hz2]; omega) (by omega)
  simp only [Int.toNat_natCast] at hr
  rw [hz1, Nat.mul_one] at hr
  have hrow : RowI (w.alloc (.cells (madeCells (Value.int .i64 0).cells n) 3)) w.heap.size n (fun _ => 0) := by
    refine ⟨_, heap_alloc_new w _, by rw [size_madeCells], fun j hj => ?_⟩
    have e : (madeCells (Value.int .i64 0).cells n).toList = List.replicate n (.int .i64 0) := toList_madeCells_one _ _
    rw [← Array.getElem?_toList, e]
    simp [hj]
  unfold Oper.wp
  simp [execOp, hop, hl, hc, hr, Result.andThen]
  exact hK' _ _ (hK _ hrow (below_new w _) (by simp))
end Go.Proofs.Ytioncjnjhmnlaaa
