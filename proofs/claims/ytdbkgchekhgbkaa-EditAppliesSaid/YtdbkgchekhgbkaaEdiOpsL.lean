/-
  The law's ops: a script as the reference's.
-/
import Derived.Test.YtdbkgchekhgbkaaEdiRefCost2
import Derived.Deep.AppendLies
import Derived.Deep.RegionHeld3
namespace Go.Proofs.Ytdbkgchekhgbkaa
open Go.RowKit Go.Shelf
set_option linter.unusedVariables false
set_option linter.unusedSimpArgs false

theorem infoOpR : (Try.prog.info? 55).map (fun i => (i.zero, i.size, i.bytes)) = some (some (.agg #[.int .u8 0, .int .u8 0]), 2, 2) := by kernel_rfl
theorem step_appR {ops : Array Oper} {o : Oper} {a : Act} {K : Act → World → Prop} {Q : Exit → Act → World → Prop} {E : Prop} (w : World) (hgd : o.guard = none) (s x : Operand)
    (hop : o.op = .call { callee := .builtin .append, args := #[s, x], argTypes := #[32, 32] }) (base n c : Nat) (A : Option Addr) (l : List (Nat × Nat)) (hv : a.eval s = .slice A n c) (ho : OwnO base 55 w A n c l) (p : Nat × Nat)
    (hx : a.eval x = .slice (some ⟨w.heap.size, 0, none⟩) 1 1) (hl : n ≤ 100000) (hb : base ≤ w.heap.size)
    (hK : ∀ g cap w', OwnO base 55 w' (some ⟨g, 0, none⟩) (n + 1) cap (l ++ [p]) → Below base w w' → K (a.put o.dst (.slice (some ⟨g, 0, none⟩) (n + 1) cap)) w') :
    if Region.wanted o (yielded ops a.tmps) = true then Oper.wp Try.prog o a (w.alloc (.cells #[.int .u8 p.1, .int .u8 p.2] 55)) K Q else E := by
  obtain ⟨i0, hi, hz0, hz1, hz2⟩ := info_parts infoOpR
  refine step_append_lies _ hgd _ _ 32 hop base 55 i0 (.agg #[.int .u8 0, .int .u8 0]) 2 2 Try.underlying32 hi hz0 hz1 hz2 rfl (by decide) _ _ _ hv (World.ownsRow.alloc ho.2 _) ⟨w.heap.size, 0, none⟩ 1 1 [.int .u8 p.1, .int .u8 p.2] hx rfl ?_ ?_ (by omega) ?_ ?_ ?_ (w.heap.size + 1) (by simp) ?_
  · intro j u hj
    have hn := heap_alloc_new w (.cells #[.int .u8 p.1, .int .u8 p.2] 55)
    match j, hj with
    | 0, hj => simp at hj; subst hj; exact cell_of_row _ _ 0 _ _ _ hn
    | 1, hj => simp at hj; subst hj; exact cell_of_row _ _ 1 _ _ _ hn
  · intro u hu; simp at hu; rcases hu with rfl | rfl <;> rfl
  · unfold maxLen; omega
  · omega
  · simp; omega
  · intro gg cap w' g1 g2 _ _
    refine hK gg cap w' ⟨by simp [ho.1], by rw [opsC_append]; exact g1⟩ ?_
    exact ((Below.refl base w).alloc hb _).grown g2 (by simp; omega) (fun k hk => (ho.2.lt k hk).1)
structure OS (l : List (Nat × Nat)) (w W : World) (A : Option Addr) (n c i : Nat) : Prop where
  bel : Below w.heap.size w W
  own : OwnO w.heap.size 55 W A n c (l.take i)
set_option maxRecDepth 100000 in
set_option maxHeartbeats 16000000 in
theorem ops_any (A : Option Addr) (len cap : Nat) (l : List (Nat × Nat)) (w : World) (hl : l.length = len) (hn : len ≤ 1000) (hrd : RdO w A l) :
    Calls Try.prog 8 #[.slice A len cap] w fun e w' => ∃ A' n c, e = .returned (.slice A' n c) ∧ OwnO w.heap.size 55 w' A' n c l ∧ Below w.heap.size w w' := by
  have hni : (len : Int) ≤ 1000 := by omega
  have HS0 : Hid (OS l w w none 0 0 0) := Lib.hid ⟨Below.refl _ _, OwnO.nil _ _ _⟩
  have HL := Lib.hid hl; have HRD := Lib.hid hrd
  clear hl hrd
  go_enter Try.func8, Try.ntmps8
  go_wp2
  go_loopw [3, 4] (fun s3 s4 wr => ∃ (i : Nat) (P : Option Addr) (n c : Nat), s4 = .int .i64 i ∧ s3 = .slice P n c ∧ i ≤ len ∧ Hid (OS l w wr P n c i)) (fun _ s4 _ => len - (intOf s4).toNat)
  case atStart => exact ⟨0, none, 0, 0, rfl, rfl, Nat.zero_le _, HS0⟩
  case round =>
    obtain ⟨i, P, n, c, rfl, rfl, hi, HS⟩ := hrel
    clear HS0
    by_cases hlt : i < len
    · have hlti : (i : Int) < (len : Int) := by omega
      have hil : i < l.length := by have := HL.out; omega
      obtain ⟨b, off, rfl, hbl, hcs⟩ := HRD.out (by omega)
      obtain ⟨c0, c1⟩ := hcs i hil
      have htk : l.take (i + 1) = l.take i ++ [l[i]] := by rw [← List.take_append_getElem hil]
      obtain ⟨o, ho⟩ : ∃ o, l[i] = o := ⟨_, rfl⟩
      rw [ho] at c0 c1 htk
      obtain ⟨k, y⟩ := o
      simp only at c0 c1
      have d0 := cell_keep c0 HS.out.bel
      have d1 := cell_keep c1 HS.out.bel
      rw [← Nat.add_assoc] at d1
      have hln := HS.out.own.1
      rw [List.length_take] at hln
      have hn1 : n ≤ 1000 := by omega
      have HTK := Lib.hid htk
      have e0 : wr.drew.cell? ⟨b, off + i * 2, none⟩ = some (.int .u8 k) := d0
      have e1 : wr.drew.cell? ⟨b, off + i * 2 + 1, none⟩ = some (.int .u8 y) := d1
      have HO := Lib.hid (HS.out.own.below (w' := wr.drew) (below_drewN (Below.refl _ _) 1))
      have HBd := Lib.hid (show Below w.heap.size w wr.drew from HS.out.bel.drew)
      rw [← Nat.add_assoc] at c1
      have KC := Lib.hid (fun V (h : Below w.heap.size wr.drew V) => (show V.cell? ⟨b, off + i * 2, none⟩ = some (.int .u8 k) ∧ V.cell? ⟨b, off + i * 2 + 1, none⟩ = some (.int .u8 y) from ⟨cell_keep c0 (HBd.out.trans h), cell_keep c1 (HBd.out.trans h)⟩))
      clear c0 c1 hcs ho htk hln
      go_wp2
      go_region_held3 (fun V => V.cell? ⟨b, off + i * 2, none⟩ = some (.int .u8 k) ∧ V.cell? ⟨b, off + i * 2 + 1, none⟩ = some (.int .u8 y))
        (first | exact ⟨e0, e1⟩ | exact KC.out _ BX2.out | exact KC.out _ ((below_new wr.drew _).mono HBd.out.size))
        (first | (refine step_appR _ rfl _ _ (by rfl) w.heap.size n c P _ (by rfl) HO.out (k, y) (by rfl) (by omega) HBd.out.size ?_; intro gg cp w4 ht hb4; have HT4 := Lib.hid ht; have BX2 := Lib.hid hb4; clear ht hb4))
      go_wp2
      go_roundw
      case rel => exact ⟨i + 1, _, _, _, by go_num, rfl, by omega, Lib.hid ⟨HBd.out.trans BX2.out, by rw [HTK.out]; exact HT4.out⟩⟩
      case measure => simp [intOf]; omega
    · obtain rfl : i = len := by omega
      have ho := HS.out.own
      rw [List.take_of_length_le (by have := HL.out; omega)] at ho
      have HO := Lib.hid ho
      clear ho
      go_wp2
      go_ret
      exact ⟨P, n, c, rfl, HO.out, HS.out.bel⟩
end Go.Proofs.Ytdbkgchekhgbkaa
