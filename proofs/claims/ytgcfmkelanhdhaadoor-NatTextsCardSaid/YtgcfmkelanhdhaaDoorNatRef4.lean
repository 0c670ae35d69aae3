/-
  The reference's divmod.
-/
import Derived.Test.YtgcfmkelanhdhaaDoorNatRef3
namespace Go.Proofs.YtgcfmkelanhdhaaDoor
open Go.RowKit
set_option linter.unusedVariables false

theorem IBlk.below {w w' : World} {g : Nat} {p s : List Value} {m : List Int} (h : IBlk w g p m s) (hb : Below w.heap.size w w') : IBlk w' g p m s := (hb.block g h.lt).trans h
theorem wpList_mkI {ops : Array Oper} {rest : List Oper} {o : Oper} {a : Act} {Q : Exit → Act → World → Prop} (w : World) (hg : o.guard = none) (l c : Operand) (hop : o.op = Op.makeSlice 77 l c)
    (n : Nat) (L C : Int) (hl : a.eval l = .int .i64 L) (hc : a.eval c = .int .i64 C) (hL : L = n) (hC : C = n) (hn : n ≤ 1000000)
    (hK : ∀ w', IBlk w' w.heap.size [] (List.replicate n 0) [] → w.grownBy w' none → wpList Tryd.prog ops Q rest (a.put o.dst (.slice (some ⟨w.heap.size, 0, none⟩) n n)) w') : wpList Tryd.prog ops Q (o :: rest) a w := by
  obtain ⟨i0, hi, hz0, hz1, hz2⟩ := info_parts infoInt
  refine wpList_make_full w hg l c 77 hop w.heap.size 3 i0 (.int .i64 0) 1 Tryd.underlying77 hi hz0 hz1 _ _ L C n hl hc hL hC ?_ ?_ (Nat.le_refl _) ?_
  · rw [hz2]; omega
  · unfold maxLen; omega
  · intro w' ho hgr
    have e : (madeCells (Value.int .i64 0).cells (n * 1)).toList = (List.replicate n (0 : Int)).map (Value.int .i64) := by
      rw [Nat.mul_one, show (Value.int .i64 0).cells = #[Value.int .i64 0] from rfl, toList_madeCells_one, List.map_replicate]
    rw [e] at ho
    obtain ⟨s, h1, h2, h3, h4, h5⟩ := own_iblk ho
    have : s = [] := List.eq_nil_of_length_eq_zero (by omega)
    subst this
    exact hK w' h1 hgr
/-- a slice of ints behind a new one of one int -/
theorem wpList_cons {ops : Array Oper} {rest : List Oper} {o : Oper} {a : Act} {Q : Exit → Act → World → Prop} (w : World) (hg : o.guard = none) (s x : Operand)
    (hop : o.op = .call { callee := .builtin .append, args := #[s, x], argTypes := #[77, 77] }) (base : Nat) (z : Int) (hs : a.eval s = .slice (some ⟨w.heap.size, 0, none⟩) 1 1)
    (A : Option Addr) (c : Nat) (r : List Int) (hx : a.eval x = .slice A r.length c) (hr : RdK .i64 w A r) (hA : A = none → c = 0) (hl : r.length ≤ 1000000) (hb : base ≤ w.heap.size)
    (hK : ∀ v' w', OwnI w' base v' (z :: r) → Below base w w' → wpList Tryd.prog ops Q rest (a.put o.dst v') w') :
    wpList Tryd.prog ops Q (o :: rest) a (w.alloc (.cells #[.int .i64 z] 3)) := by
  obtain ⟨i0, hi, hz0, hz1, hz2⟩ := info_parts infoInt
  have hblk : IBlk (w.alloc (.cells #[.int .i64 z] 3)) w.heap.size [] [z] [] := by unfold IBlk; exact heap_alloc_new w _
  have hown := hblk.own (base := base) hb (by simp [maxLen])
  have hbel : Below base w (w.alloc (.cells #[.int .i64 z] 3)) := (Below.refl base w).alloc hb _
  cases A with
  | none =>
    have hn : r = [] := by
      cases r with
      | nil => rfl
      | cons y t => obtain ⟨b, off, e, -⟩ := hr (by simp); cases e
    subst hn
    have hc := hA rfl
    subst hc
    refine wpList_append_own_none hg _ _ 77 hop base 3 i0 1 Tryd.underlying77 hi _ 1 _ hs hown hx ?_
    exact hK _ _ (OwnI.own (n := 1) hown) hbel
  | some ad =>
    have hcells : ∀ j u, (r.map (Value.int .i64))[j]? = some u → (w.alloc (.cells #[.int .i64 z] 3)).cell? (ad.add j) = some u := by
      intro j u hu
      have hj : j < r.length := by
        have := (List.getElem?_eq_some_iff.1 hu).1
        simpa using this
      obtain ⟨b, off, e, -, hc⟩ := (hr.below ((Below.refl _ _).alloc (Nat.le_refl _) (.cells #[.int .i64 z] 3))) (by omega)
      obtain rfl := Option.some.inj e
      have ea : (⟨b, off, none⟩ : Addr).add j = ⟨b, off + j, none⟩ := by unfold Addr.add; split <;> simp [*]
      rw [ea, hc j hj]
      simpa [List.getD_eq_getElem?_getD, List.getElem?_eq_getElem hj] using hu
    refine wpList_append_own _ hg _ _ 77 hop base 3 i0 (.int .i64 0) 1 8 Tryd.underlying77 hi hz0 hz1 hz2 rfl (by decide) _ 1 _ hs hown ad r.length c (r.map (Value.int .i64)) hx (by simp) hcells ?_ ?_ ?_ ?_ ?_
    · intro u hu; obtain ⟨z', -, rfl⟩ := List.mem_map.1 hu; rfl
    · unfold maxLen; omega
    · omega
    · simp; omega
    · intro v' w' h1 h2 _
      exact hK v' w' (OwnI.own (n := 1 + r.length) (by simpa using h1)) (hbel.grown h2 (by simp; omega) (fun k hk => by cases hk; exact hb))
def PostDivB (x y : Int) (W : World) (e : Ending) (w' : World) : Prop :=
  ∃ A c l B d m, e = .returned (.tuple #[.slice A l.length c, .slice B m.length d]) ∧ NumB w' A l (x / y) ∧ NumB w' B m (x % y) ∧ Below W.heap.size W w'
structure DivB (W w : World) (g : Nat) (A : Option Addr) (c : Nat) (l r : List Int) (y : Int) (k : Nat) (D : List Int) (R : Int) : Prop where
  blk : IBlk w g [] (List.replicate k 0 ++ D) []
  len : D.length + k = l.length
  dg : Nb.Dg D
  num : NumB w A r R
  cap : (A = none → c = 0) ∧ ∀ b off, A = some ⟨b, off, none⟩ → g < b
  lt : R < y
  val : Nb.V (l.drop k) = Nb.V D * y + R
  bel : Below W.heap.size W w
theorem NumB.set {w : World} {A : Option Addr} {l : List Int} {x : Int} {g i : Nat} {v : Value} (h : NumB w A l x) (hne : ∀ b off, A = some ⟨b, off, none⟩ → g ≠ b) : NumB (w.setCell ⟨g, i, none⟩ v) A l x := by
  refine ⟨fun h0 => ?_, h.can, h.len, h.val⟩
  obtain ⟨b, off, e, hb, hc⟩ := h.rd h0
  have hg := grown_set w ⟨g, i, none⟩ v
  refine ⟨b, off, e, by have := hg.size; omega, fun j hj => hg.cell (hc j hj) ?_⟩
  have := hne b off e
  simp
  omega
theorem neg_of {c x y : Int} (h : 0 ≤ c ↔ y ≤ x) (hn : x < y) : c < 0 := by
  rcases Int.lt_or_le c 0 with h1 | h1
  · exact h1
  · exact absurd (h.1 h1) (Int.not_le.2 hn)
theorem div_uniq {x y q r : Int} (h : x = q * y + r) (r0 : 0 ≤ r) (r1 : r < y) : x / y = q ∧ x % y = r := by
  have := (Int.ediv_emod_unique (a := x) (b := y) (q := q) (r := r) (by omega)).2 ⟨by rw [h, Int.mul_comm y q, Int.add_comm], r0, r1⟩
  exact this
set_option maxRecDepth 100000 in
set_option maxHeartbeats 8000000 in
theorem rdivmod_any (A B : Option Addr) (ca cb : Nat) (l m : List Int) (x y : Int) (w : World) (hr : NumB w A l x) (hs : NumB w B m y) (hy : 0 < y) (hl : l.length ≤ 40000) (hm : m.length ≤ 30000) :
    Calls Tryd.prog 53 #[.slice A l.length ca, .slice B m.length cb] w (PostDivB x y w) := by
  have Hr := Lib.hid hr; have Hs := Lib.hid hs; clear hr hs
  go_enter Tryd.func53, Tryd.ntmps53
  go_wp2_with (at_make; refine wpList_mkI _ rfl _ _ rfl l.length _ _ rfl rfl ?c1 ?c2 ?c3 ?_)
  case c1 => rfl
  case c2 => rfl
  case c3 => omega
  intro w1 hB hG
  obtain ⟨g, hg⟩ : ∃ g, w.heap.size = g := ⟨_, rfl⟩
  have hst : DivB w w1 g none 0 l [] y l.length [] 0 := ⟨by rw [← hg, List.append_nil]; exact hB, by simp, Nb.Dg.nil, NumB.nil _, ⟨fun _ => rfl, fun b off e => by cases e⟩, hy, by rw [List.drop_length]; simp [Nb.V], (Below.refl _ _).grown hG (Nat.le_refl _) (fun k hk => by cases hk)⟩
  have HST := Lib.hid hst
  have HG := Lib.hid (show w.heap.size ≤ g by omega)
  rw [hg]
  clear hst hB hG hg
  go_wp2_with fail
  go_loopw [7, 8] (fun o i wr => ∃ (k : Nat) (A' : Option Addr) (c' : Nat) (r D : List Int) (R : Int), k ≤ l.length ∧ i = .int .i64 ((k : Int) - 1) ∧ o = .slice A' r.length c' ∧ Hid (DivB w wr g A' c' l r y k D R)) (fun _ i _ => (intOf i + 1).toNat)
  case atStart => exact ⟨l.length, none, 0, [], [], 0, Nat.le_refl _, rfl, rfl, HST⟩
  case round =>
    obtain ⟨k, A', c', r, D, R, hk, rfl, rfl, HS⟩ := hrel
    by_cases h0 : k = 0
    · subst h0
      have hD : D.length = l.length := by have := HS.out.len; omega
      have hv := HS.out.val
      rw [List.drop_zero, Hr.out.val] at hv
      obtain ⟨u1, u2⟩ := div_uniq hv HS.out.num.nn HS.out.lt
      have hblk := HS.out.blk
      rw [List.replicate_zero, List.nil_append] at hblk
      have hT := rtrim_any (some ⟨g, 0, none⟩) l.length D wr (hblk.rd rfl) (by omega) (by omega)
      rw [hD] at hT
      have HT := Lib.hid hT
      have hnum : NumB wr (some ⟨g, 0, none⟩) (Nb.trm D) (x / y) := ⟨by rw [Nb.trm_take]; exact rdk_take (hblk.rd rfl) _, Nb.Can.mk' HS.out.dg, by have := Nb.trm_len D; omega, by rw [Nb.V_trm, u1]⟩
      have HN := Lib.hid hnum
      have HR := Lib.hid HS.out.num
      rw [← u2] at HR
      have HB := Lib.hid HS.out.bel
      clear hD hv u1 u2 hblk hT HS hnum
      go_wp2_with (go_at_call 69; (with_reducible refine HT.out.mono ?_); rintro e x2 ⟨rfl, rfl⟩)
      go_ret2
      exact ⟨_, _, _, A', c', r, rfl, HN.out, HR.out, HB.out⟩
    · obtain ⟨i, rfl⟩ : ∃ i, k = i + 1 := ⟨k - 1, by omega⟩
      have ei : (((i + 1 : Nat) : Int) - 1) = (i : Int) := by omega
      rw [ei]
      have hrw := Hr.out.below HS.out.bel
      have hsw := Hs.out.below HS.out.bel
      obtain ⟨b1, off1, rfl, hbl, hc⟩ := hrw.rd (by omega)
      have hc1 := hc i (by omega); clear hc
      have d1 := hrw.can.dg.at i
      have hvd := Nb.V_drop l i (by omega)
      obtain ⟨z, hz⟩ : ∃ z, l.getD i 0 = z := ⟨_, rfl⟩
      rw [hz] at hc1 d1 hvd
      have hrl : r.length ≤ m.length := by
        rw [HS.out.num.can.len_iff, HS.out.num.val]
        have h1 := HS.out.lt
        have h2 := Nb.V_lt hsw.can.dg
        rw [hsw.val] at h2
        omega
      have hdg : Nb.Dg (z :: r) := Nb.Dg.cons.2 ⟨d1, HS.out.num.can.dg⟩
      have hval : Nb.V (z :: r) = z + 2 * R := by rw [Nb.V, HS.out.num.val]
      have i0 : (0 : Int) ≤ (i : Int) := by omega
      have i1 : (i : Int) < (l.length : Int) := by omega
      have hlen : r.length ≤ 1000000 := by omega
      have hlen2 : (z :: r).length ≤ 100000 := by rw [List.length_cons]; omega
      have T := Lib.hid (fun v x1 (ho : OwnI x1 wr.heap.size v (z :: r)) (hb : Below wr.heap.size wr x1) => trim_bn (w := wr) ho hdg hlen2 hval hb)
      have C := Lib.hid (fun A2 c2 r2 x2 (hn : NumB x2 A2 r2 (z + 2 * R)) (hb : Below wr.heap.size wr x2) => rcmp_any A2 B c2 cb r2 m _ y x2 hn (hsw.below hb))
      have NQ := Lib.hid HS.out.num.rd
      have NC := Lib.hid HS.out.cap.1
      have GL := Lib.hid HS.out.blk.lt
      have HR0 := Lib.hid HS.out.num.nn
      have HVD := Lib.hid hvd
      clear hrw hz hvd hdg hval h0
      have hdl : D.length + (i + 1) = l.length := HS.out.len
      by_cases hge : y ≤ z + 2 * R
      · have GE := Lib.hid hge
        have S := Lib.hid (fun A2 c2 r2 x3 (hn : NumB x3 A2 r2 (z + 2 * R)) (hb : Below wr.heap.size wr x3) => rsub_any A2 B c2 cb r2 m _ y x3 hn (hsw.below hb) GE.out)
        have hq : ∀ x4, Below wr.heap.size wr x4 → x4.cell? ⟨g, i, none⟩ = some (.int .i64 0) ∧ x4.frozen? ⟨g, i, none⟩ = false ∧ IBlk (x4.setCell ⟨g, i, none⟩ (.int .i64 1)) g [] (List.replicate i 0 ++ (1 :: D)) [] := by
          intro x4 hb
          have hk := HS.out.blk.below hb
          have e1 : List.replicate (i + 1) (0 : Int) ++ D = List.replicate i 0 ++ (0 :: D) := by rw [List.replicate_succ']; simp
          rw [e1] at hk
          refine ⟨?_, hk.free i, ?_⟩
          · have := hk.cell i (by simp) (i := i) (by simp)
            rw [this, List.getD_eq_getElem?_getD, List.getElem?_append_right (by simp)]
            simp
          · have := hk.set i (by simp) 1 (i := i) (by simp)
            rwa [List.set_append_right _ _ (by simp), List.length_replicate, Nat.sub_self, List.set_cons_zero] at this
        have HQ := Lib.hid hq
        clear hsw hge hq
        go_wp2_with (first
          | (at_builtin; refine wpList_cons _ rfl _ _ rfl wr.heap.size z rfl A' c' r rfl NQ.out NC.out hlen (Nat.le_refl _) ?_; intro v1 x1 ho hb; have HO := Lib.hid ho; have HX1 := Lib.hid hb; clear ho hb)
          | (go_at_call 69; (with_reducible refine (T.out v1 x1 HO.out HX1.out).mono ?_); rintro e x2 ⟨A2, c2, r2, rfl, hn, -, -, hcap, hb⟩; have HN := Lib.hid hn; have HX2 := Lib.hid hb; clear hn hcap hb HO HX1)
          | (go_at_call 70; (with_reducible refine (C.out A2 c2 r2 x2 HN.out HX2.out).mono ?_); rintro e x3 ⟨cc, rfl, hcc, hb⟩; have hc0 : 0 ≤ cc := hcc.2 GE.out; have HN3 := Lib.hid (HN.out.below hb); have HX3 := Lib.hid (HX2.out.trans (hb.mono HX2.out.size)); clear hcc hb HN HX2)
          | (go_at_call 71; (with_reducible refine (S.out A2 c2 r2 x3 HN3.out HX3.out).mono ?_); rintro e x4 ⟨A4, c4, r4, rfl, hn, -, -, hcap, hb⟩; have HN4 := Lib.hid hn; have HCAP := Lib.hid hcap; have HX4 := Lib.hid (HX3.out.trans (hb.mono HX3.out.size)); have HS3 := Lib.hid HX3.out.size; obtain ⟨q1, q2, q3⟩ := HQ.out x4 HX4.out; have HQ3 := Lib.hid q3; clear q3 hn hcap hb HN3 HX3))
        have hst : DivB w (x4.setCell ⟨g, i, none⟩ (.int .i64 1)) g A4 c4 l r4 y i (1 :: D) (z + 2 * R - y) := by
          have h4 := HX4.out.size
          have h5 := GL.out
          have h6 := HS.out.lt
          have h7 := HS3.out
          refine ⟨HQ3.out, by simp; omega, Nb.Dg.cons.2 ⟨by omega, HS.out.dg⟩, HN4.out.set (fun b off e => ?_), ⟨HCAP.out.1, fun b off e => ?_⟩, by omega, ?_, ?_⟩
          · have := HCAP.out.2 b off e; omega
          · have := HCAP.out.2 b off e; omega
          · rw [HVD.out, HS.out.val, Nb.V]; grind
          · exact (HS.out.bel.trans (HX4.out.mono HS.out.bel.size)).grown (grown_set x4 ⟨g, i, none⟩ (.int .i64 1)) (by have := HS.out.bel.size; omega) (fun k hk => by cases hk; exact HG.out)
        exact ⟨⟨i, A4, c4, r4, _, _, by omega, rfl, rfl, Lib.hid hst⟩, by simp [intOf]⟩
      · have GE := Lib.hid (Int.not_le.1 hge)
        clear hsw hge
        go_wp2_with (first
          | (at_builtin; refine wpList_cons _ rfl _ _ rfl wr.heap.size z rfl A' c' r rfl NQ.out NC.out hlen (Nat.le_refl _) ?_; intro v1 x1 ho hb; have HO := Lib.hid ho; have HX1 := Lib.hid hb; clear ho hb)
          | (go_at_call 69; (with_reducible refine (T.out v1 x1 HO.out HX1.out).mono ?_); rintro e x2 ⟨A2, c2, r2, rfl, hn, -, -, hcap, hb⟩; have HN := Lib.hid hn; have HCAP := Lib.hid hcap; have HX2 := Lib.hid hb; clear hn hcap hb HO HX1)
          | (go_at_call 70; ((with_reducible refine (C.out A2 c2 r2 x2 HN.out HX2.out).mono ?_); rintro e x3 ⟨cc, rfl, hcc, hb⟩; have hc0 := neg_of hcc GE.out; have HN3 := Lib.hid (HN.out.below hb); have HX3 := Lib.hid (HX2.out.trans (hb.mono HX2.out.size)); clear hcc hb HN HX2)))
        have hst : DivB w x3 g A2 c2 l r2 y i (0 :: D) (z + 2 * R) := by
          have h4 := HX3.out.size
          have h5 := GL.out
          have h6 := GE.out
          have hk := HS.out.blk.below HX3.out
          have e1 : List.replicate (i + 1) (0 : Int) ++ D = List.replicate i 0 ++ (0 :: D) := by rw [List.replicate_succ']; simp
          rw [e1] at hk
          refine ⟨hk, by simp; omega, Nb.Dg.cons.2 ⟨by omega, HS.out.dg⟩, HN3.out, ⟨HCAP.out.1, fun b off e => ?_⟩, by omega, ?_, ?_⟩
          · have := HCAP.out.2 b off e; omega
          · rw [HVD.out, HS.out.val, Nb.V]; grind
          · exact HS.out.bel.trans (HX3.out.mono HS.out.bel.size)
        exact ⟨⟨i, A2, c2, r2, _, _, by omega, rfl, rfl, Lib.hid hst⟩, by simp [intOf]⟩

end Go.Proofs.YtgcfmkelanhdhaaDoor
