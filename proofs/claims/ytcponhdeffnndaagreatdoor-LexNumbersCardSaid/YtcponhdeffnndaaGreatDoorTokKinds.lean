/-
  The walk of Kinds.
-/
import Derived.Test.YtcponhdeffnndaaGreatDoorTokSelB
namespace Go.Proofs.YtcponhdeffnndaaGreatDoor
open Go.RowKit
set_option linter.unusedVariables false
set_option linter.unusedSimpArgs false

theorem takes_kinds (bw : Nat) (z : ByteArray) (w : World) (hz : w.cell? ⟨bw, 0, none⟩ = some (.string z)) :
    TakesB 76 #[.pointer (some ⟨bw, 0, none⟩)] (fun r => r.1) (Fo.ofWord z.data.toList) w := by
  intro V j hj hb
  exact kinds1_any (rowAt j).1 bw ⟨(rowAt j).2.1.toArray⟩ ⟨(rowAt j).2.2.toArray⟩ z V (cell_keep hz hb)
theorem Strs.len {base : Nat} {w : World} {A : Option Addr} {n c : Nat} {l : List (List UInt8)} (h : Strs base w A n c l) : l.length = n := h.1
theorem Strs.le {base : Nat} {w : World} {A : Option Addr} {n c : Nat} {l : List (List UInt8)} (h : Strs base w A n c l) (hl : l.length ≤ 40) : n ≤ 1000000000 := by have := h.1; omega
theorem cell_new1 (w : World) (v : Value) (t : TypeId) : (w.alloc (.cells #[v] t)).cell? ⟨w.heap.size, 0, none⟩ = some v := by go_simp
theorem one_box (w : World) (z : ByteArray) :
    (w.alloc (.cells #[.string z] 9)).cell? ⟨w.heap.size, 0, none⟩ = some (.string z) ∧ Below w.heap.size w (w.alloc (.cells #[.string z] 9)) :=
  ⟨by go_simp, below_new w _⟩
/-- the sum of the first powers -/
def pws (l : List Nat) (k : Nat) : Nat := ((l.take k).map fun a => 2 ^ a).sum
theorem pws_succ (l : List Nat) (k : Nat) (h : k < l.length) : pws l (k + 1) = pws l k + 2 ^ (l.getD k 0) := by
  unfold pws
  rw [List.take_add_one, List.getElem?_eq_getElem h, List.getD_eq_getElem?_getD, List.getElem?_eq_getElem h, List.map_append, List.sum_append]
  rfl
theorem more_len {α : Type} [BEq α] (acc : List α) (x : α) (b : Bool) : (Fo.more acc x b).length ≤ acc.length + 1 := by
  unfold Fo.more; split <;> simp
theorem sel_len {α : Type} [BEq α] (f : Fo.Row → α) (p : Fo.Row → Bool) : ∀ (l : List Fo.Row) (acc : List α), (Fo.sel f p l acc).length ≤ acc.length + l.length
  | [], acc => by simp [Fo.sel]
  | r :: l, acc => by
    have h1 := sel_len f p l (Fo.more acc (f r) (p r))
    have h2 := more_len acc (f r) (p r)
    rw [sel_cons]
    simp
    omega
theorem kindsL_len (z : List UInt8) : (Fo.kindsL z).length ≤ 40 := sel_len _ _ _ _
theorem pws_le (l : List Nat) (k : Nat) : pws l k ≤ pws l l.length := by
  unfold pws
  rw [List.take_length]
  conv => rhs; rw [← List.take_append_drop k l]
  rw [List.map_append, List.sum_append]
  omega
theorem pws_kinds (z : List UInt8) (k : Nat) : pws (Fo.kindsL z) k ≤ 62 := by
  have h1 := pws_le (Fo.kindsL z) k
  have h2 : pws (Fo.kindsL z) (Fo.kindsL z).length = Fo.kinds z := by unfold pws Fo.kinds; rw [List.take_length]
  have h3 := Fo.upTo_le z 5
  rw [h2, Fo.kinds_upTo] at h1
  omega
def PostU8 (v : Nat) (w : World) (e : Ending) (w' : World) : Prop := e = .returned (.int .u8 v) ∧ Below w.heap.size w w'
set_option maxRecDepth 100000 in
set_option maxHeartbeats 4000000 in
theorem kinds_any (z : ByteArray) (w : World) (hw : Rdy w) : Calls Tryz.prog 33 #[.string z] w (PostU8 (Fo.kinds z.data.toList) w) := by
  obtain ⟨h1, h3⟩ := one_box w z
  have hq := selB_any 76 #[.pointer (some ⟨w.heap.size, 0, none⟩)] _ _ _ (hw.below h3) (enters_of Tryz.func76 (by kernel_rfl) rfl) (takes_kinds _ z _ h1)
  have hq2 : Calls Tryz.prog 75 #[.func (.func 76) #[] #[.pointer (some ⟨w.heap.size, 0, none⟩)]] (w.alloc (.cells #[.string z] 9)) (PostByts (Fo.kindsL z.data.toList) (w.alloc (.cells #[.string z] 9))) := hq
  have HB0 := Lib.hid h3
  have H := Lib.hid hq2
  have hin := Fo.kindsL_in z.data.toList
  have hps := pws_kinds z.data.toList
  have hlen := kindsL_len z.data.toList
  have hk : Fo.kinds z.data.toList = pws (Fo.kindsL z.data.toList) (Fo.kindsL z.data.toList).length := by unfold pws Fo.kinds; rw [List.take_length]
  rw [hk]
  generalize Fo.kindsL z.data.toList = l at *
  have HIN := Lib.hid hin; have HPS := Lib.hid hps; have HLEN := Lib.hid hlen
  clear hq hq2 h1 h3 hin hps hk hlen
  go_enter Tryz.func33, Tryz.ntmps33
  go_wp2_with (go_at_call 75; (with_reducible refine H.out.mono ?_); rintro e w1 ⟨A, n, c, rfl, h, hb⟩; have HB := Lib.hid (below_next HB0.out hb); have HL := Lib.hid h.1; have HRd := Lib.hid h.rd; clear h hb)
  have hn40 : n ≤ 40 := by rw [← HL.out]; exact HLEN.out
  go_loopw [3, 9] (fun s3 s9 wr => wr = w1 ∧ ∃ k : Nat, s9 = .int .i64 k ∧ s3 = .int .u8 (pws l k) ∧ k ≤ n) (fun _ s9 _ => n - (intOf s9).toNat)
  case atStart => exact ⟨rfl, 0, rfl, rfl, by omega⟩
  case round =>
    obtain ⟨rfl, k, rfl, rfl, hk⟩ := hrel
    by_cases hlt : k < n
    · have hlt2 : (k : Int) < n := by omega
      obtain ⟨b, off, hA, hb, hc⟩ := HRd.out (by rw [HL.out]; omega)
      subst hA
      have hc1 := hc k (by rw [HL.out]; omega)
      have hle : ¬ n ≤ k := by omega
      have hp := pws_succ l k (by rw [HL.out]; omega)
      have hp2 := HPS.out (k + 1)
      have hy1 := HIN.out (l.getD k 0) (by rw [List.getD_eq_getElem?_getD, List.getElem?_eq_getElem (by rw [HL.out]; omega)]; exact List.getElem_mem _)
      obtain ⟨y, hy⟩ : ∃ y, l.getD k 0 = y := ⟨_, rfl⟩
      rw [hy] at hc1 hp hy1
      rw [hp] at hp2
      have HP := Lib.hid hp
      obtain ⟨q, hq⟩ : ∃ q, pws l k = q := ⟨_, rfl⟩
      have HQ := Lib.hid hq
      rw [hq] at hp2 ⊢
      clear hc hy hb hp hq
      rcases (show y = 1 ∨ y = 2 ∨ y = 3 ∨ y = 4 ∨ y = 5 by omega) with rfl | rfl | rfl | rfl | rfl
      all_goals
        go_wp2
        exact ⟨⟨trivial, k + 1, by go_num, by rw [HP.out, HQ.out]; go_num, by omega⟩, by simp [intOf]; omega⟩
    · have hge : ¬ (k : Int) < n := by omega
      obtain rfl : k = n := by omega
      have hkl := HL.out
      obtain ⟨q, hq⟩ : ∃ q, pws l k = q := ⟨_, rfl⟩
      have HQ := Lib.hid hq
      rw [hq]
      clear hq hkl
      go_wp2
      go_ret
      exact ⟨by rw [HL.out, HQ.out]; rfl, HB.out⟩
end Go.Proofs.YtcponhdeffnndaaGreatDoor
