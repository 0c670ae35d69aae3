/-
  The walk of Classes.
-/
import Derived.Test.YtcponhdeffnndaaGreatDoorTokCls
namespace Go.Proofs.YtcponhdeffnndaaGreatDoor
open Go.RowKit
set_option linter.unusedVariables false
set_option linter.unusedSimpArgs false

/-- the function of a class -/
def clsF (B1 B2 B3 B4 : Nat) : Nat → Value
  | 0 => .func (.func 73) #[] #[]
  | 1 => .func (.func 136) #[] #[]
  | 2 => .func (.func 137) #[] #[]
  | 3 => .func (.func 229) #[] #[.pointer (some ⟨B1, 0, none⟩)]
  | 4 => .func (.func 229) #[] #[.pointer (some ⟨B2, 0, none⟩)]
  | 5 => .func (.func 229) #[] #[.pointer (some ⟨B3, 0, none⟩)]
  | 6 => .func (.func 229) #[] #[.pointer (some ⟨B4, 0, none⟩)]
  | 7 => .func (.func 139) #[] #[]
  | 8 => .func (.func 140) #[] #[]
  | 9 => .func (.func 143) #[] #[]
  | 10 => .func (.func 145) #[] #[]
  | 11 => .func (.func 146) #[] #[]
  | 12 => .func (.func 147) #[] #[]
  | 13 => .func (.func 148) #[] #[]
  | _ => .nilFunc
def IdxC (B1 B2 B3 B4 k : Nat) : Prop := ∀ W : World, (Instr.index 134 (.agg (clsC B1 B2 B3 B4)) (.int .i64 k)).run Tryz.prog W = .ok (.agg #[.int .u16 ((2 ^ k : Nat) : Int), clsF B1 B2 B3 B4 k]) W
theorem idxC0 (B1 B2 B3 B4 : Nat) : IdxC B1 B2 B3 B4 0 := fun _ => by kernel_rfl
theorem idxC1 (B1 B2 B3 B4 : Nat) : IdxC B1 B2 B3 B4 1 := fun _ => by kernel_rfl
theorem idxC2 (B1 B2 B3 B4 : Nat) : IdxC B1 B2 B3 B4 2 := fun _ => by kernel_rfl
theorem idxC3 (B1 B2 B3 B4 : Nat) : IdxC B1 B2 B3 B4 3 := fun _ => by kernel_rfl
theorem idxC4 (B1 B2 B3 B4 : Nat) : IdxC B1 B2 B3 B4 4 := fun _ => by kernel_rfl
theorem idxC5 (B1 B2 B3 B4 : Nat) : IdxC B1 B2 B3 B4 5 := fun _ => by kernel_rfl
theorem idxC6 (B1 B2 B3 B4 : Nat) : IdxC B1 B2 B3 B4 6 := fun _ => by kernel_rfl
theorem idxC7 (B1 B2 B3 B4 : Nat) : IdxC B1 B2 B3 B4 7 := fun _ => by kernel_rfl
theorem idxC8 (B1 B2 B3 B4 : Nat) : IdxC B1 B2 B3 B4 8 := fun _ => by kernel_rfl
theorem idxC9 (B1 B2 B3 B4 : Nat) : IdxC B1 B2 B3 B4 9 := fun _ => by kernel_rfl
theorem idxC10 (B1 B2 B3 B4 : Nat) : IdxC B1 B2 B3 B4 10 := fun _ => by kernel_rfl
theorem idxC11 (B1 B2 B3 B4 : Nat) : IdxC B1 B2 B3 B4 11 := fun _ => by kernel_rfl
theorem idxC12 (B1 B2 B3 B4 : Nat) : IdxC B1 B2 B3 B4 12 := fun _ => by kernel_rfl
theorem idxC13 (B1 B2 B3 B4 : Nat) : IdxC B1 B2 B3 B4 13 := fun _ => by kernel_rfl
theorem idxC_any (B1 B2 B3 B4 : Nat) : ∀ k, k < 14 → IdxC B1 B2 B3 B4 k
  | 0, _ => idxC0 B1 B2 B3 B4
  | 1, _ => idxC1 B1 B2 B3 B4
  | 2, _ => idxC2 B1 B2 B3 B4
  | 3, _ => idxC3 B1 B2 B3 B4
  | 4, _ => idxC4 B1 B2 B3 B4
  | 5, _ => idxC5 B1 B2 B3 B4
  | 6, _ => idxC6 B1 B2 B3 B4
  | 7, _ => idxC7 B1 B2 B3 B4
  | 8, _ => idxC8 B1 B2 B3 B4
  | 9, _ => idxC9 B1 B2 B3 B4
  | 10, _ => idxC10 B1 B2 B3 B4
  | 11, _ => idxC11 B1 B2 B3 B4
  | 12, _ => idxC12 B1 B2 B3 B4
  | 13, _ => idxC13 B1 B2 B3 B4
  | k + 14, h => absurd h (by omega)
theorem clsF_tells (B1 B2 B3 B4 : Nat) (s : ByteArray) (hs : s.size ≤ 100000000) : ∀ k, k < 14 → ∃ g lb, clsF B1 B2 B3 B4 k = .func (.func g) #[] lb ∧ (∀ args w, (callFunc g args).run Tryz.prog w = .ok (.enter g args) w) ∧
    ∀ W, Rdy W → KBx B1 B2 B3 B4 W → Calls Tryz.prog g (#[.string s] ++ lb) W (PostB (Tk.has k s.data.toList) W)
  | 0, _ => ⟨_, _, rfl, enters_of Tryz.func73 (by kernel_rfl) rfl, fun W hw h => isNumber_any s W hs⟩
  | 1, _ => ⟨_, _, rfl, enters_of Tryz.func136 (by kernel_rfl) rfl, fun W hw h => isLettered_any s W hs⟩
  | 2, _ => ⟨_, _, rfl, enters_of Tryz.func137 (by kernel_rfl) rfl, fun W hw h => isName_any s W hs⟩
  | 3, _ => ⟨_, _, rfl, enters_of Tryz.func229 (by kernel_rfl) rfl, fun W hw h => kind1_1 B1 s W hw h.k1⟩
  | 4, _ => ⟨_, _, rfl, enters_of Tryz.func229 (by kernel_rfl) rfl, fun W hw h => kind1_2 B2 s W hw h.k2⟩
  | 5, _ => ⟨_, _, rfl, enters_of Tryz.func229 (by kernel_rfl) rfl, fun W hw h => kind1_3 B3 s W hw h.k3⟩
  | 6, _ => ⟨_, _, rfl, enters_of Tryz.func229 (by kernel_rfl) rfl, fun W hw h => kind1_4 B4 s W hw h.k4⟩
  | 7, _ => ⟨_, _, rfl, enters_of Tryz.func139 (by kernel_rfl) rfl, fun W hw h => isFlat_any s W hs⟩
  | 8, _ => ⟨_, _, rfl, enters_of Tryz.func140 (by kernel_rfl) rfl, fun W hw h => pat8_any s W hs⟩
  | 9, _ => ⟨_, _, rfl, enters_of Tryz.func143 (by kernel_rfl) rfl, fun W hw h => pat9_any s W hs⟩
  | 10, _ => ⟨_, _, rfl, enters_of Tryz.func145 (by kernel_rfl) rfl, fun W hw h => pat10_any s W hs⟩
  | 11, _ => ⟨_, _, rfl, enters_of Tryz.func146 (by kernel_rfl) rfl, fun W hw h => pat11_any s W hs⟩
  | 12, _ => ⟨_, _, rfl, enters_of Tryz.func147 (by kernel_rfl) rfl, fun W hw h => pat12_any s W hs⟩
  | 13, _ => ⟨_, _, rfl, enters_of Tryz.func148 (by kernel_rfl) rfl, fun W hw h => pat13_any s W hs⟩
  | k + 14, h => absurd h (by omega)
theorem pow_le14 {k : Nat} (h : k < 14) : 2 ^ k ≤ 8192 := Nat.le_trans (Nat.pow_le_pow_right (by omega) (show k ≤ 13 by omega)) (by decide)
def PostU16 (v : Nat) (w : World) (e : Ending) (w' : World) : Prop := e = .returned (.int .u16 v) ∧ Below w.heap.size w w'
theorem cls_one2 (T : Int) (g : Nat) (lb : Array Value) : ((#[.int .u16 T, .func (.func g) #[] lb] : Array Value).all fun x => x.oneCell') = true := by kernel_rfl
def clsX (wr : World) (T : Int) (g : Nat) (lb : Array Value) : World := (wr.alloc (.cells #[.int .u16 0, .nilFunc] 133)).setRow wr.heap.size #[.int .u16 T, .func (.func g) #[] lb]
theorem clsX_mem (wr : World) (T : Int) (g : Nat) (lb : Array Value) : (clsX wr T g lb).cell? ⟨wr.heap.size, 0, none⟩ = some (.int .u16 T) ∧ (clsX wr T g lb).cell? ⟨wr.heap.size, 1, none⟩ = some (.func (.func g) #[] lb) ∧ Below wr.heap.size wr (clsX wr T g lb) := by
  have h := setRow_at (cs := #[.int .u16 T, .func (.func g) #[] lb]) (heap_alloc_new wr (.cells #[.int .u16 0, .nilFunc] 133))
  exact ⟨cell_of_row _ _ 0 _ _ _ h, cell_of_row _ _ 1 _ _ _ h, setRow_below (fr := (0, 0)) (t := 0) (old := #[]) (below_new wr _) (Nat.le_refl _)⟩
set_option maxRecDepth 100000 in
set_option maxHeartbeats 2000000 in
theorem cls_any (s : ByteArray) (w : World) (hw : Rdy w) (hs : s.size ≤ 100000000) : Calls Tryz.prog 28 #[.string s] w (PostU16 (Tk.cls s.data.toList) w) := by
  have q1 := classes_any w
  have Q1 := Lib.hid q1
  have HI := Lib.hid idxC_any
  have HT := Lib.hid (fun B1 B2 B3 B4 => clsF_tells B1 B2 B3 B4 s hs)
  have R0 := Lib.hid hw
  clear q1 hw
  go_enter Tryz.func28, Tryz.ntmps28
  go_wp2_with (go_at_call 70; (with_reducible refine Q1.out.mono ?_); rintro e w1 ⟨B1, B2, B3, B4, rfl, hk, hb⟩; have KB1 := Lib.hid hk; have BB := Lib.hid hb; have hAV := HI.out B1 B2 B3 B4; unfold IdxC at hAV; clear hk hb)
  generalize clsC B1 B2 B3 B4 = AV at *
  have HAV := Lib.hid hAV
  clear hAV
  go_loopw [3, 7] (fun s3 s7 wr => ∃ k : Nat, s7 = .int .i64 k ∧ s3 = .int .u16 (Tk.upTo s.data.toList k) ∧ k ≤ 14 ∧ Hid (Below w.heap.size w wr) ∧ Hid (KBx B1 B2 B3 B4 wr)) (fun _ s7 _ => 14 - (intOf s7).toNat)
  case atStart => exact ⟨0, rfl, rfl, by omega, BB, KB1⟩
  case round =>
    obtain ⟨k, rfl, rfl, hk, HB, HK⟩ := hrel
    by_cases hlt : k < 14
    · have hx := HAV.out k hlt
      obtain ⟨g, lb, e1, eg, hq⟩ := HT.out B1 B2 B3 B4 k hlt
      rw [e1] at hx
      have hT := pow_le14 hlt
      have hU := Tk.upTo_lt s.data.toList k
      have hstep : Tk.upTo s.data.toList (k + 1) = Tk.upTo s.data.toList k + (if Tk.has k s.data.toList then 2 ^ k else 0) := rfl
      obtain ⟨T, hTT⟩ : ∃ T, 2 ^ k = T := ⟨_, rfl⟩
      obtain ⟨U, hUU⟩ : ∃ U, Tk.upTo s.data.toList k = U := ⟨_, rfl⟩
      obtain ⟨D, hD⟩ : ∃ D, Tk.has k s.data.toList = D := ⟨_, rfl⟩
      rw [hTT] at hx hT hU
      rw [hTT, hUU, hD] at hstep
      rw [hD] at hq
      rw [hUU] at hU ⊢
      have hU2 : U + T ≤ 20000 := by omega
      have hlt2 : (k : Int) < 14 := by omega
      have HQ := Lib.hid hq; have HS := Lib.hid hstep
      obtain ⟨c0, c1, n1⟩ := clsX_mem wr T g lb
      have HN := Lib.hid (heap_alloc_new wr (.cells #[.int .u16 0, .nilFunc] 133))
      obtain ⟨X, hX⟩ : ∃ X, X = clsX wr T g lb := ⟨_, rfl⟩
      rw [← hX] at c0 c1 n1
      unfold clsX at hX
      have HX := Lib.hid hX
      have N1 := Lib.hid n1
      have B1' := Lib.hid (below_next HB.out N1.out)
      have C0 := Lib.hid c0
      clear hq hstep hTT hUU hD e1 c0 hT hU hX n1
      cases D with
      | true =>
        go_wp2_with (first
          | (refine wpList_store_row rfl 133 _ _ rfl wr.heap.size #[.int .u16 T, .func (.func g) #[] lb] rfl rfl 133 #[.int .u16 0, .nilFunc] HN.out (by kernel_rfl) rfl (cls_one2 T g lb) ?_; rw [← HX.out])
          | (go_at_fn g; (with_reducible refine (HQ.out _ (R0.out.below B1'.out) (HK.out.below N1.out)).mono ?_); rintro e V ⟨rfl, hb⟩; have HB2 := Lib.hid (below_next B1'.out hb); have HK2 := Lib.hid ((HK.out.below N1.out).below hb); have c0 := cell_keep C0.out hb; clear hb))
        go_roundw
        case rel => exact ⟨k + 1, by go_num, by rw [HS.out]; go_num, by omega, HB2, HK2⟩
        case measure => simp [intOf]; omega
      | false =>
        go_wp2_with (first
          | (refine wpList_store_row rfl 133 _ _ rfl wr.heap.size #[.int .u16 T, .func (.func g) #[] lb] rfl rfl 133 #[.int .u16 0, .nilFunc] HN.out (by kernel_rfl) rfl (cls_one2 T g lb) ?_; rw [← HX.out])
          | (go_at_fn g; (with_reducible refine (HQ.out _ (R0.out.below B1'.out) (HK.out.below N1.out)).mono ?_); rintro e V ⟨rfl, hb⟩; have HB2 := Lib.hid (below_next B1'.out hb); have HK2 := Lib.hid ((HK.out.below N1.out).below hb); clear hb))
        go_roundw
        case rel => exact ⟨k + 1, by go_num, by rw [HS.out]; go_num, by omega, HB2, HK2⟩
        case measure => simp [intOf]; omega
    · have hge : ¬ (k : Int) < 14 := by omega
      obtain rfl : k = 14 := by omega
      go_wp2
      go_ret
      exact ⟨rfl, HB.out⟩
end Go.Proofs.YtcponhdeffnndaaGreatDoor
