/-
  open: the node behind a node for a byte, made if there is none.
-/
import Derived.Test.YtioncjnjhmnlaaaLexTri2
import Derived.Deep.DeepHandedRow
namespace Go.Proofs.Ytioncjnjhmnlaaa
open Go.RowKit Lx
open Go.Maps (Keyed int_keyed)
set_option linter.unusedVariables false
set_option linter.unusedSimpArgs false

theorem zeroNode (w : World) : (zeroValue 54).run Try.prog w = .ok (nptr none) w := by kernel_rfl
set_option maxRecDepth 100000 in
theorem wpList_lookup_ptr {ops : Array Oper} {rest : List Oper} {o : Oper} {a : Act} {Q : Exit → Act → World → Prop} (w : World) (hg : o.guard = none) (m x : Operand)
    (hop : o.op = Op.lookup 55 m x false) (mb n : Nat) (D : DataW Unit) (hm : a.eval m = .map (some mb)) (hown : w.ownsMap Try.prog 5 ptrE mb n D)
    (b : UInt8) (hx : a.eval x = .int .u8 (b.toNat : Int)) (o' : Option Nat) (hD : D.atKey (kb b) (ptD none) = ptD o') (v : Value) (hv : nptr o' = v) (hK : wpList Try.prog ops Q rest (a.put o.dst v) w) :
    wpList Try.prog ops Q (o :: rest) a w := by
  refine wpList_plain hg fun K' hK' => ?_
  obtain ⟨v', ps, hrun, hr⟩ := hown.lookup lawB Try.underlying55 (zeroNode w) (ptrE_ptr none) (keyB b)
  obtain ⟨o2, rfl, h2⟩ := ptrE_inv hr
  have e : o2 = o' := ptD_inj (by rw [← hD]; injection h2 with h3; exact h3.symm)
  subst e; subst hv
  unfold Oper.wp
  simp [execOp, hop, hm, hx, hrun, Result.andThen]
  exact hK' _ _ hK
theorem wpList_update_ptr {ops : Array Oper} {rest : List Oper} {o : Oper} {a : Act} {Q : Exit → Act → World → Prop} (w : World) (hg : o.guard = none) (m x v : Operand)
    (hop : o.op = Op.mapUpdate 55 m x v) (mb n : Nat) (D : DataW Unit) (hm : a.eval m = .map (some mb)) (hown : w.ownsMap Try.prog 5 ptrE mb n D) (hn : n < 1000000)
    (b : UInt8) (hx : a.eval x = .int .u8 (b.toNat : Int)) (g : Nat) (hv : a.eval v = .pointer (some ⟨g, 0, none⟩))
    (hK : ∀ w', w'.ownsMap Try.prog 5 ptrE mb (n + 1) (D.put (kb b) (ptD (some g))) → w.grownBy w' (some mb) → wpList Try.prog ops Q rest (a.put o.dst undef) w') :
    wpList Try.prog ops Q (o :: rest) a w :=
  wpList_mapUpdate_own w hg m x v _ hop _ _ lawB Try.underlying55 ptrE mb n D hm hown (by unfold maxLen; omega) _ _ _ hx hv (keyB b) (ptD (some g)) [] (ptrE_ptr (some g)) hK

theorem map_nil_no (m : Nat) (W : World) : (binOp BinOp.eql 55 (.map (some m)) (.map none)).run Try.prog W = .ok (.bool false) W :=
  run_eql_map_nil W _ _ _ _ Try.underlying55
theorem map_nil_yes (W : World) : (binOp BinOp.eql 55 (.map none) (.map none)).run Try.prog W = .ok (.bool true) W :=
  run_eql_map_nil W _ _ _ _ Try.underlying55
/-- what open gives -/
def PostOpen (base root cap : Nat) (N M F : Tx → Option Nat) (q : Tx) (w : World) (e : Ending) (w' : World) : Prop :=
  ∃ a' N' M', e = .returned (.pointer (some ⟨a', 0, none⟩)) ∧ Tri w' base root (cap + 1) N' M' F ∧ N' q = some a' ∧ (∀ r, N r ≠ none → N' r = N r) ∧ Below base w w'

section
variable {w : World} {base root cap : Nat} {N M F : Tx → Option Nat}
set_option maxRecDepth 100000 in
set_option maxHeartbeats 2000000 in
theorem open_have (h : Tri w base root cap N M F) (p : Tx) (b : UInt8) (a m : Nat) (hp : N p = some a) (hm : M p = some m) (g : Nat) (hq : N (p ++ [b]) = some g) :
    Calls Try.prog 35 #[.pointer (some ⟨a, 0, none⟩), .int .u8 (b.toNat : Int)] w (PostOpen base root cap N M F (p ++ [b]) w) := by
  obtain ⟨c0, c1, c2⟩ := h.cells hp
  rw [hm] at c2
  obtain ⟨hmb, D, hown, hD⟩ := h.kids p m (by rw [hp]; simp) hm
  have hDb := hD b
  rw [hq] at hDb
  have H := Lib.hid h; have HD := Lib.hid hDb; have HO := Lib.hid hown
  clear h hD hDb hown c0 c1 hmb
  have e1 := map_nil_no m w
  go_enter Try.func35, Try.ntmps35
  go_wp2_with (at_lookup; refine wpList_lookup_ptr _ rfl _ _ rfl m cap D rfl HO.out b rfl _ HD.out (.pointer (some ⟨g, 0, none⟩)) rfl ?_)
  go_ret
  exact ⟨g, N, M, rfl, H.out.mono (by omega), hq, fun _ _ => rfl, Below.refl _ _⟩
set_option maxRecDepth 100000 in
set_option maxHeartbeats 2000000 in
theorem open_lack (h : Tri w base root cap N M F) (p : Tx) (b : UInt8) (a m : Nat) (hp : N p = some a) (hm : M p = some m) (hq : N (p ++ [b]) = none) (hl : p.length < 40) (hc : cap < 1000000) (hb : base ≤ w.heap.size) :
    Calls Try.prog 35 #[.pointer (some ⟨a, 0, none⟩), .int .u8 (b.toNat : Int)] w (PostOpen base root cap N M F (p ++ [b]) w) := by
  obtain ⟨c0, c1, c2⟩ := h.cells hp
  rw [hm] at c2
  obtain ⟨hmb, D, hown, hD⟩ := h.kids p m (by rw [hp]; simp) hm
  have hDb := hD b
  rw [hq] at hDb
  have hlt := h.lt hp
  have ham : a ≠ m := fun e => by
    subst e
    have h1 := (h.node p a hp).2
    obtain ⟨es, cl, h2, _⟩ := hown
    rw [h2] at h1; cases h1
  have H := Lib.hid h; have HD := Lib.hid hDb; have HO := Lib.hid hown; have HDD := Lib.hid hD
  have C2 := Lib.hid c2
  clear h hD hDb hown c0 c1
  have e1 := map_nil_no m w
  go_enter Try.func35, Try.ntmps35
  go_wp2_with (first
    | (at_mapUpdate; refine wpList_update_ptr _ rfl _ _ _ rfl m cap D rfl (HO.out.alloc _) hc b rfl w.heap.size rfl ?_; (intro w1 hown1 hgrow1; have HO1 := Lib.hid hown1; have HG1 := Lib.hid hgrow1; have c3 : w1.cell? ⟨a, 2, none⟩ = some (.map (some m)) := hgrow1.cell (a := ⟨a, 2, none⟩) ((bcell ((Below.refl _ w).alloc (Nat.le_refl _) _) a 2 hlt).trans C2.out) (fun e => ham (by cases e; rfl)); clear hown1 hgrow1))
    | (at_lookup; refine wpList_lookup_ptr _ rfl _ _ rfl m cap D rfl HO.out b rfl _ HD.out (.pointer none) rfl ?_)
    | (at_lookup; refine wpList_lookup_ptr _ rfl _ _ rfl m (cap + 1) _ rfl HO1.out b rfl (some w.heap.size) (Maps.atKey_put_same (let ⟨es, e, _⟩ := HO.out.canon lawB; ⟨es, e⟩) (litB b) _ _) (.pointer (some ⟨w.heap.size, 0, none⟩)) rfl ?_))
  go_ret
  refine ⟨w.heap.size, _, _, rfl, H.out.grow (by rw [hp]; simp) hm hb hq hl HDD.out HO.out HO1.out HG1.out, if_pos rfl, fun r hr => if_neg (fun e => hr (by rw [e]; exact hq)), ?_⟩
  exact ((Below.refl base w).alloc hb _).grown HG1.out (by simp; omega) (fun k e => by cases e; exact hmb)
set_option maxRecDepth 100000 in
set_option maxHeartbeats 2000000 in
theorem open_bare (h : Tri w base root cap N M F) (p : Tx) (b : UInt8) (a : Nat) (hp : N p = some a) (hm : M p = none) (hl : p.length < 40) (hc : cap < 1000000) (hb : base ≤ w.heap.size) :
    Calls Try.prog 35 #[.pointer (some ⟨a, 0, none⟩), .int .u8 (b.toNat : Int)] w (PostOpen base root cap N M F (p ++ [b]) w) := by
  obtain ⟨c0, c1, c2⟩ := h.cells hp
  rw [hm] at c2
  have f2 := h.free hp 2
  have hlt := h.lt hp
  have hab := (h.node p a hp).1
  obtain ⟨W, hW⟩ : ∃ W, W = (w.alloc (.map #[] 0)).setCell ⟨a, 2, none⟩ (.map (some w.heap.size)) := ⟨_, rfl⟩
  have hT := h.mapped hp hm hb
  rw [← hW] at hT
  have hq : N (p ++ [b]) = none := h.bare p (by rw [hp]; simp) hm b
  have hWs : W.heap.size = w.heap.size + 1 := by rw [hW]; simp
  have hWb : Below base w W := by rw [hW]; exact ((Below.refl base w).alloc hb _).setCell (p := ⟨a, 2, none⟩) hab _
  have hW2 : (w.setCell ⟨a, 2, none⟩ (.map (some w.heap.size))).alloc (.map #[] 0) = W := by rw [hW]; exact (World.setCell_alloc_past _ _ _ _ hlt).symm
  obtain ⟨-, -, c5⟩ := hT.cells hp
  rw [if_pos rfl] at c5
  obtain ⟨hmb, D, hown, hD⟩ := hT.kids p w.heap.size (by rw [hp]; simp) (if_pos rfl)
  have hDb := hD b
  rw [hq] at hDb
  have HT := Lib.hid hT; have HD := Lib.hid hDb; have HO := Lib.hid hown; have HDD := Lib.hid hD; have HWb := Lib.hid hWb
  have C5 := Lib.hid c5
  clear h hD hDb hown c0 c1 hT hWb
  have e1 := map_nil_yes w
  have hmm := @run_makeMap Try.prog
  go_enter Try.func35, Try.ntmps35
  have HW2 := Lib.hid hW2; have HWS := Lib.hid hWs
  clear hW hW2 hWs
  go_wp2_with (first
    | (at_mapUpdate; refine wpList_update_ptr _ rfl _ _ _ rfl w.heap.size cap D rfl (HO.out.alloc _) hc b rfl W.heap.size rfl ?_; (intro w1 hown1 hgrow1; have HO1 := Lib.hid hown1; have HG1 := Lib.hid hgrow1; have c6 : w1.cell? ⟨a, 2, none⟩ = some (.map (some w.heap.size)) := hgrow1.cell (a := ⟨a, 2, none⟩) ((bcell ((Below.refl _ W).alloc (Nat.le_refl _) _) a 2 (by have := HWS.out; omega)).trans C5.out) (fun e => absurd (Option.some.inj e) (by show ¬ a = w.heap.size; omega)); clear hown1 hgrow1))
    | (at_lookup; refine wpList_lookup_ptr _ rfl _ _ rfl w.heap.size (cap + 1) _ rfl HO1.out b rfl (some W.heap.size) (Maps.atKey_put_same (let ⟨es, e, _⟩ := HO.out.canon lawB; ⟨es, e⟩) (litB b) _ _) (.pointer (some ⟨W.heap.size, 0, none⟩)) rfl ?_)
    | (at_lookup; rw [HW2.out]; refine wpList_lookup_ptr _ rfl _ _ rfl w.heap.size cap D rfl HO.out b rfl _ HD.out (.pointer none) rfl ?_; have c5 := C5.out))
  go_ret
  refine ⟨W.heap.size, _, _, rfl, HT.out.grow (by rw [hp]; simp) (if_pos rfl) (by have := HWS.out; omega) hq hl HDD.out HO.out HO1.out HG1.out, if_pos rfl, fun r hr => if_neg (fun e => hr (by rw [e]; exact hq)), ?_⟩
  exact (HWb.out.alloc (by have := HWS.out; omega) _).grown HG1.out (by have := HWS.out; simp; omega) (fun k e => by cases e; exact hmb)
theorem open_any (h : Tri w base root cap N M F) (p : Tx) (b : UInt8) (a : Nat) (hp : N p = some a) (hl : p.length < 40) (hc : cap < 1000000) (hb : base ≤ w.heap.size) :
    Calls Try.prog 35 #[.pointer (some ⟨a, 0, none⟩), .int .u8 (b.toNat : Int)] w (PostOpen base root cap N M F (p ++ [b]) w) := by
  cases hm : M p with
  | none => exact open_bare h p b a hp hm hl hc hb
  | some m =>
    cases hq : N (p ++ [b]) with
    | none => exact open_lack h p b a m hp hm hq hl hc hb
    | some g => exact open_have h p b a m hp hm g hq
end
end Go.Proofs.Ytioncjnjhmnlaaa
