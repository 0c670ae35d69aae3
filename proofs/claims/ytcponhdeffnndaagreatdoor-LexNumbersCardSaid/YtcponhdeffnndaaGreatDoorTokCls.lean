/-
  The classes as an array of functions; the walk of Classes.
-/
import Derived.Test.YtcponhdeffnndaaGreatDoorTokMat
import Derived.Laws.Tables
namespace Go.Proofs.YtcponhdeffnndaaGreatDoor
open Go.RowKit
set_option linter.unusedVariables false
set_option linter.unusedSimpArgs false

/-- the array that classes returns, its kinds captured in four blocks -/
def clsC (B1 B2 B3 B4 : Nat) : Array Value := #[.int .u16 1, .func (.func 73) #[] #[], .int .u16 2, .func (.func 136) #[] #[], .int .u16 4, .func (.func 137) #[] #[], .int .u16 8, .func (.func 229) #[] #[.pointer (some ⟨B1, 0, none⟩)], .int .u16 16, .func (.func 229) #[] #[.pointer (some ⟨B2, 0, none⟩)], .int .u16 32, .func (.func 229) #[] #[.pointer (some ⟨B3, 0, none⟩)], .int .u16 64, .func (.func 229) #[] #[.pointer (some ⟨B4, 0, none⟩)], .int .u16 128, .func (.func 139) #[] #[], .int .u16 256, .func (.func 140) #[] #[], .int .u16 512, .func (.func 143) #[] #[], .int .u16 1024, .func (.func 145) #[] #[], .int .u16 2048, .func (.func 146) #[] #[], .int .u16 4096, .func (.func 147) #[] #[], .int .u16 8192, .func (.func 148) #[] #[]]
/-- the captured kinds -/
structure KBx (B1 B2 B3 B4 : Nat) (w : World) : Prop where
  k1 : w.cell? ⟨B1, 0, none⟩ = some (.int .u8 1)
  k2 : w.cell? ⟨B2, 0, none⟩ = some (.int .u8 2)
  k3 : w.cell? ⟨B3, 0, none⟩ = some (.int .u8 3)
  k4 : w.cell? ⟨B4, 0, none⟩ = some (.int .u8 4)
theorem KBx.below {B1 B2 B3 B4 : Nat} {w w' : World} (h : KBx B1 B2 B3 B4 w) (hb : Below w.heap.size w w') : KBx B1 B2 B3 B4 w' := ⟨cell_keep h.k1 hb, cell_keep h.k2 hb, cell_keep h.k3 hb, cell_keep h.k4 hb⟩
def zeroC : Array Value := #[.int .u16 0, .nilFunc, .int .u16 0, .nilFunc, .int .u16 0, .nilFunc, .int .u16 0, .nilFunc, .int .u16 0, .nilFunc, .int .u16 0, .nilFunc, .int .u16 0, .nilFunc, .int .u16 0, .nilFunc, .int .u16 0, .nilFunc, .int .u16 0, .nilFunc, .int .u16 0, .nilFunc, .int .u16 0, .nilFunc, .int .u16 0, .nilFunc, .int .u16 0, .nilFunc]
def PostKd (k : Int) (w : World) (e : Ending) (w' : World) : Prop := ∃ B, e = .returned (.func (.func 229) #[] #[.pointer (some ⟨B, 0, none⟩)]) ∧ w'.cell? ⟨B, 0, none⟩ = some (.int .u8 k) ∧ w.heap.size ≤ B ∧ Below w.heap.size w w'
theorem kind_box (k : Nat) (w : World) : Calls Tryz.prog 138 #[.int .u8 k] w (PostKd k w) := by
  refine (hasKind_any k w).mono ?_
  rintro e w' ⟨rfl, rfl⟩
  exact ⟨_, rfl, cell_of_row _ _ 0 _ _ _ (heap_alloc_new w _), Nat.le_refl _, below_new w _⟩
theorem setRow_below {n g : Nat} {w W : World} {cs : Array Value} {t : TypeId} {fr : Nat × Nat} {old : Array Value} (h : Below n w W) (hg : n ≤ g) : Below n w (W.setRow g cs) :=
  ⟨h.os, h.tape, h.output, by have := h.size; simpa [World.setRow] using this, fun k hk => by
    have : (W.setRow g cs).heap[k]? = W.heap[k]? := by simp [World.setRow, Array.getElem?_modify]; omega
    exact this.trans (h.block k hk)⟩
theorem cls_one (B1 B2 B3 B4 : Nat) : ((clsC B1 B2 B3 B4).all fun x => x.oneCell') = true := by kernel_rfl
theorem res_cls (tmps : Array Value) (W : World) (g B1 B2 B3 B4 : Nat) (hp : tmps.getD 0 undef = .pointer (some ⟨g, 0, none⟩)) (h : W.heap[g]? = some (.cells (clsC B1 B2 B3 B4) 134 (0, 0))) :
    (results Tryz.f70 tmps).run Tryz.prog W = .ok (.agg (clsC B1 B2 B3 B4)) W :=
  results_cell_row (fn := Tryz.f70) (p := 0) (ty := 134) rfl tmps W g 134 (clsC B1 B2 B3 B4) (0, 0) _ hp h Tryz.underlying134 rfl (by kernel_rfl)
theorem heap_keep0 {w w' : World} {k : Nat} {o : Obj} (h : w.heap[k]? = some o) (hb : Below w.heap.size w w') : w'.heap[k]? = some o := (hb.block k (Array.getElem?_eq_some_iff.1 h).1).trans h
theorem setRow_other {W : World} {g : Nat} {cs : Array Value} {b o : Nat} {u : Value} (hc : W.cell? ⟨b, o, none⟩ = some u) (h : b ≠ g) : (W.setRow g cs).cell? ⟨b, o, none⟩ = some u := by
  rw [← hc]
  refine World.cell?_of_block ?_
  simp [World.setRow, Array.getElem?_modify]; omega
theorem setRow_at {W : World} {g : Nat} {cs old : Array Value} {t : TypeId} (h : W.heap[g]? = some (.cells old t (0, 0))) : (W.setRow g cs).heap[g]? = some (.cells cs t (0, 0)) := by
  simp [World.setRow, Array.getElem?_modify, h]
set_option maxRecDepth 100000 in
set_option maxHeartbeats 1000000 in
theorem classes_any (w : World) : Calls Tryz.prog 70 #[] w fun e w' => ∃ B1 B2 B3 B4, e = .returned (.agg (clsC B1 B2 B3 B4)) ∧ KBx B1 B2 B3 B4 w' ∧ Below w.heap.size w w' := by
  have h1 : ∀ V, Calls Tryz.prog 138 #[.int .u8 1] V (PostKd 1 V) := fun V => kind_box 1 V
  have h2 : ∀ V, Calls Tryz.prog 138 #[.int .u8 2] V (PostKd 2 V) := fun V => kind_box 2 V
  have h3 : ∀ V, Calls Tryz.prog 138 #[.int .u8 3] V (PostKd 3 V) := fun V => kind_box 3 V
  have h4 : ∀ V, Calls Tryz.prog 138 #[.int .u8 4] V (PostKd 4 V) := fun V => kind_box 4 V
  have H1 := Lib.hid h1; have H2 := Lib.hid h2; have H3 := Lib.hid h3; have H4 := Lib.hid h4
  obtain ⟨w0, hw0⟩ : ∃ w0, w0 = w.alloc (.cells zeroC 134) := ⟨_, rfl⟩
  have HB0 := Lib.hid (show Below w.heap.size w w0 by rw [hw0]; exact below_new w _)
  have HQ0 := Lib.hid (show w0.heap[w.heap.size]? = some (.cells zeroC 134 (0, 0)) by rw [hw0]; exact heap_alloc_new w _)
  have HS0 := Lib.hid (show w.heap.size < w0.heap.size by rw [hw0]; simp)
  have hw0' : w0 = w.alloc (.cells #[.int .u16 0, .nilFunc, .int .u16 0, .nilFunc, .int .u16 0, .nilFunc, .int .u16 0, .nilFunc, .int .u16 0, .nilFunc, .int .u16 0, .nilFunc, .int .u16 0, .nilFunc, .int .u16 0, .nilFunc, .int .u16 0, .nilFunc, .int .u16 0, .nilFunc, .int .u16 0, .nilFunc, .int .u16 0, .nilFunc, .int .u16 0, .nilFunc, .int .u16 0, .nilFunc] 134) := hw0
  clear hw0
  clear h1 h2 h3 h4
  go_enter Tryz.func70, Tryz.ntmps70
  go_wp2_with (fail)
  rw [← hw0']
  go_wp2_with (first
    | (go_at_call 138; (with_reducible refine (H1.out _).mono ?_); rintro e w1 ⟨B1, rfl, hc, hl, hb⟩; have C1 := Lib.hid hc; have L1 := Lib.hid hl; have K1 := Lib.hid hb; clear hc hl hb)
    | (go_at_call 138; (with_reducible refine (H2.out _).mono ?_); rintro e w2 ⟨B2, rfl, hc, hl, hb⟩; have C2 := Lib.hid hc; have L2 := Lib.hid hl; have K2 := Lib.hid hb; clear hc hl hb)
    | (go_at_call 138; (with_reducible refine (H3.out _).mono ?_); rintro e w3 ⟨B3, rfl, hc, hl, hb⟩; have C3 := Lib.hid hc; have L3 := Lib.hid hl; have K3 := Lib.hid hb; clear hc hl hb)
    | (go_at_call 138; (with_reducible refine (H4.out _).mono ?_); rintro e w4 ⟨B4, rfl, hc, hl, hb⟩; have C4 := Lib.hid hc; have L4 := Lib.hid hl; have K4 := Lib.hid hb; have HQ4 := Lib.hid (heap_keep0 (heap_keep0 (heap_keep0 (heap_keep0 HQ0.out K1.out) K2.out) K3.out) hb); clear hc hl hb)
    | (refine wpList_store_row rfl 134 _ _ rfl w.heap.size (clsC B1 B2 B3 B4) rfl rfl 134 zeroC HQ4.out (by kernel_rfl) rfl (cls_one B1 B2 B3 B4) ?_))
  go_wp2
  have b1 := K1.out; have b2 := K2.out; have b3 := K3.out; have b4 := K4.out; have b0 := HS0.out
  have l1 := L1.out; have l2 := L2.out; have l3 := L3.out; have l4 := L4.out
  have z1 := b1.size; have z2 := b2.size; have z3 := b3.size
  refine bodyPost_ret (res_cls _ _ w.heap.size B1 B2 B3 B4 rfl (setRow_at HQ4.out)) rfl ⟨B1, B2, B3, B4, rfl, ⟨?_, ?_, ?_, ?_⟩, ?_⟩
  · exact setRow_other (cell_keep (cell_keep (cell_keep C1.out b2) b3) b4) (by omega)
  · exact setRow_other (cell_keep (cell_keep C2.out b3) b4) (by omega)
  · exact setRow_other (cell_keep C3.out b4) (by omega)
  · exact setRow_other C4.out (by omega)
  · exact setRow_below (fr := (0, 0)) (t := 0) (old := #[]) (below_next (below_next (below_next (below_next HB0.out b1) b2) b3) b4) (Nat.le_refl _)
end Go.Proofs.YtcponhdeffnndaaGreatDoor
