/-
  The walks of Kinds, Same, Table.
-/
import Derived.Test.YtoenaehkhdcdmaaDoorFolLongs
namespace Go.Proofs.YtoenaehkhdcdmaaDoor
open Go.RowKit
set_option linter.unusedVariables false
set_option linter.unusedSimpArgs false

theorem Strs.len {base : Nat} {w : World} {A : Option Addr} {n c : Nat} {l : List (List UInt8)} (h : Strs base w A n c l) : l.length = n := h.1
theorem Strs.le {base : Nat} {w : World} {A : Option Addr} {n c : Nat} {l : List (List UInt8)} (h : Strs base w A n c l) (hl : l.length ≤ 40) : n ≤ 1000000000 := by have := h.1; omega
theorem cell_new1 (w : World) (v : Value) (t : TypeId) : (w.alloc (.cells #[v] t)).cell? ⟨w.heap.size, 0, none⟩ = some v := by go_simp
theorem one_box (w : World) (z : ByteArray) :
    (w.alloc (.cells #[.string z] 9)).cell? ⟨w.heap.size, 0, none⟩ = some (.string z) ∧ Below w.heap.size w (w.alloc (.cells #[.string z] 9)) :=
  ⟨by go_simp, below_new w _⟩
/-- the sum of the first powers -/
def pws (l : List Nat) (k : Nat) : Nat := ((l.take k).map fun a => 2 ^ a).sum
theorem pws_succ (l : List Nat) (k : Nat) (h : k < l.length) : pws l (k + 1) = pws l k + 2 ^ (l.getD k 0) := by
  unfold pws
  rw [List.take_add_one, List.getElem?_eq_getElem h, List.getD_eq_getElem?_getD, List.getElem?_eq_getElem h, List.map_append, List.sum_append]
  rfl
theorem more_len {α : Type} [BEq α] (acc : List α) (x : α) (b : Bool) : (Fo.more acc x b).length ≤ acc.length + 1 := by
  unfold Fo.more; split <;> simp
theorem sel_len {α : Type} [BEq α] (f : Fo.Row → α) (p : Fo.Row → Bool) : ∀ (l : List Fo.Row) (acc : List α), (Fo.sel f p l acc).length ≤ acc.length + l.length
  | [], acc => by simp [Fo.sel]
  | r :: l, acc => by
    have h1 := sel_len f p l (Fo.more acc (f r) (p r))
    have h2 := more_len acc (f r) (p r)
    rw [sel_cons]
    simp
    omega
theorem kindsL_len (z : List UInt8) : (Fo.kindsL z).length ≤ 40 := sel_len _ _ _ _
theorem longs_len (k : Nat) (z : List UInt8) : (Fo.longs k z).length ≤ 40 := sel_len _ _ _ _
theorem pws_le (l : List Nat) (k : Nat) : pws l k ≤ pws l l.length := by
  unfold pws
  rw [List.take_length]
  conv => rhs; rw [← List.take_append_drop k l]
  rw [List.map_append, List.sum_append]
  omega
theorem pws_kinds (z : List UInt8) (k : Nat) : pws (Fo.kindsL z) k ≤ 62 := by
  have h1 := pws_le (Fo.kindsL z) k
  have h2 : pws (Fo.kindsL z) (Fo.kindsL z).length = Fo.kinds z := by unfold pws Fo.kinds; rw [List.take_length]
  have h3 := Fo.upTo_le z 5
  rw [h2, Fo.kinds_upTo] at h1
  omega
def PostU8 (v : Nat) (w : World) (e : Ending) (w' : World) : Prop := e = .returned (.int .u8 v) ∧ Below w.heap.size w w'
set_option maxRecDepth 100000 in
set_option maxHeartbeats 4000000 in
theorem kinds_any (z : ByteArray) (w : World) (hw : Rdy w) : Calls Tryd.prog 23 #[.string z] w (PostU8 (Fo.kinds z.data.toList) w) := by
  obtain ⟨h1, h3⟩ := one_box w z
  have hq := selB_any 48 #[.pointer (some ⟨w.heap.size, 0, none⟩)] _ _ _ (hw.below h3) (enters_of Tryd.func48 (by kernel_rfl) rfl) (takes_kinds _ z _ h1)
  have hq2 : Calls Tryd.prog 47 #[.func (.func 48) #[] #[.pointer (some ⟨w.heap.size, 0, none⟩)]] (w.alloc (.cells #[.string z] 9)) (PostByts (Fo.kindsL z.data.toList) (w.alloc (.cells #[.string z] 9))) := hq
  have HB0 := Lib.hid h3
  have H := Lib.hid hq2
  have hin := Fo.kindsL_in z.data.toList
  have hps := pws_kinds z.data.toList
  have hlen := kindsL_len z.data.toList
  have hk : Fo.kinds z.data.toList = pws (Fo.kindsL z.data.toList) (Fo.kindsL z.data.toList).length := by unfold pws Fo.kinds; rw [List.take_length]
  rw [hk]
  generalize Fo.kindsL z.data.toList = l at *
  have HIN := Lib.hid hin; have HPS := Lib.hid hps; have HLEN := Lib.hid hlen
  clear hq hq2 h1 h3 hin hps hk hlen
  go_enter Tryd.func23, Tryd.ntmps23
  go_wp2_with (go_at_call 47; (with_reducible refine H.out.mono ?_); rintro e w1 ⟨A, n, c, rfl, h, hb⟩; have HB := Lib.hid (below_next HB0.out hb); have HL := Lib.hid h.1; have HRd := Lib.hid h.rd; clear h hb)
  have hn40 : n ≤ 40 := by rw [← HL.out]; exact HLEN.out
  go_loopw [3, 9] (fun s3 s9 wr => wr = w1 ∧ ∃ k : Nat, s9 = .int .i64 k ∧ s3 = .int .u8 (pws l k) ∧ k ≤ n) (fun _ s9 _ => n - (intOf s9).toNat)
  case atStart => exact ⟨rfl, 0, rfl, rfl, by omega⟩
  case round =>
    obtain ⟨rfl, k, rfl, rfl, hk⟩ := hrel
    by_cases hlt : k < n
    · have hlt2 : (k : Int) < n := by omega
      obtain ⟨b, off, hA, hb, hc⟩ := HRd.out (by rw [HL.out]; omega)
      subst hA
      have hc1 := hc k (by rw [HL.out]; omega)
      have hle : ¬ n ≤ k := by omega
      have hp := pws_succ l k (by rw [HL.out]; omega)
      have hp2 := HPS.out (k + 1)
      have hy1 := HIN.out (l.getD k 0) (by rw [List.getD_eq_getElem?_getD, List.getElem?_eq_getElem (by rw [HL.out]; omega)]; exact List.getElem_mem _)
      obtain ⟨y, hy⟩ : ∃ y, l.getD k 0 = y := ⟨_, rfl⟩
      rw [hy] at hc1 hp hy1
      rw [hp] at hp2
      have HP := Lib.hid hp
      obtain ⟨q, hq⟩ : ∃ q, pws l k = q := ⟨_, rfl⟩
      have HQ := Lib.hid hq
      rw [hq] at hp2 ⊢
      clear hc hy hb hp hq
      rcases (show y = 1 ∨ y = 2 ∨ y = 3 ∨ y = 4 ∨ y = 5 by omega) with rfl | rfl | rfl | rfl | rfl
      all_goals
        go_wp2
        exact ⟨⟨trivial, k + 1, by go_num, by rw [HP.out, HQ.out]; go_num, by omega⟩, by simp [intOf]; omega⟩
    · have hge : ¬ (k : Int) < n := by omega
      obtain rfl : k = n := by omega
      have hkl := HL.out
      obtain ⟨q, hq⟩ : ∃ q, pws l k = q := ⟨_, rfl⟩
      have HQ := Lib.hid hq
      rw [hq]
      clear hq hkl
      go_wp2
      go_ret
      exact ⟨by rw [HL.out, HQ.out]; rfl, HB.out⟩

/-- what the closure of Same asks -/
theorem tells_same (A : Option Addr) (n c b : Nat) (l : List (List UInt8)) (w : World) (hl : l.length = n) (hn : n ≤ 1000000000) (h : RdS w A l) (hc : w.cell? ⟨b, 0, none⟩ = some (.slice A n c)) :
    PredAt Tryd.prog 41 #[.pointer (some ⟨b, 0, none⟩)] (fun x : ByteArray => .string x) (fun x => l.contains x.data.toList) w := by
  intro W x hb
  have hc1 := cell_keep hc hb
  show FnGives Tryd.prog 41 #[.pointer (some ⟨b, 0, none⟩)] #[.string x] (.bool (l.contains x.data.toList)) W
  have hq := contains_any A n c l x W hl (by omega) (h.below hb)
  generalize l.contains x.data.toList = D at *
  have H := Lib.hid hq
  clear hc hb h hq
  unfold FnGives
  go_enter Tryd.func41, Tryd.ntmps41
  go_wp2_with (go_at_call 42; (with_reducible refine H.out.mono ?_); rintro e w' ⟨rfl, rfl⟩)
  go_ret
  exact ⟨rfl, 0, rfl⟩
/-- the library's search with the closure, at texts in memory -/
theorem anyOf_any (A1 A2 : Option Addr) (n1 c1 n2 c2 b : Nat) (l1 l2 : List (List UInt8)) (w : World) (hl1 : l1.length = n1) (hl2 : l2.length = n2) (hn1 : n1 ≤ 1000000000) (hn2 : n2 ≤ 1000000000) (h1 : RdS w A1 l1) (h2 : RdS w A2 l2)
    (hc : w.cell? ⟨b, 0, none⟩ = some (.slice A2 n2 c2)) :
    Calls Tryd.prog 40 #[.slice A1 n1 c1, .func (.func 41) #[] #[.pointer (some ⟨b, 0, none⟩)]] w (PostB (l1.any fun x => l2.contains x) w) := by
  rcases Nat.eq_zero_or_pos n1 with h0 | h0
  · have hnil : l1 = [] := List.eq_nil_of_length_eq_zero (by omega)
    subst hnil; subst h0
    refine (Tryd.slices_ContainsFunc_empty (α := ByteArray) A1 c1 _ w).mono ?_
    rintro e w' ⟨rfl, rfl⟩
    exact ⟨rfl, Below.refl _ _⟩
  · obtain ⟨bk, off, rfl, hlt, hcc⟩ := h1 (by omega)
    refine (Tryd.slices_ContainsFunc (fun x : ByteArray => .string x) (fun x => l2.contains x.data.toList) 41 #[.pointer (some ⟨b, 0, none⟩)] (enters_of Tryd.func41 (by kernel_rfl) rfl) bk off n1 c1 (l1.map fun z => ⟨z.toArray⟩) w
      (tells_same A2 n2 c2 b l2 w hl2 hn2 h2 hc) (by simp; omega) (by omega) (fun j hj => ?_)).mono ?_
    · have hj' : j < l1.length := by simpa using hj
      rw [hcc j hj']
      simp [hj', List.getD_eq_getElem?_getD]
    · rintro e w' ⟨rfl, q, rfl⟩
      refine ⟨ret_bool ?_, below_drewN (Below.refl _ _) q⟩
      rw [List.take_of_length_le (by simp; omega), List.any_map]
      rfl
set_option maxRecDepth 100000 in
set_option maxHeartbeats 4000000 in
theorem same_any (k : Nat) (a b : ByteArray) (w : World) (hw : Rdy w) : Calls Tryd.prog 20 #[.int .u8 k, .string a, .string b] w (PostB (Fo.same k a.data.toList b.data.toList) w) := by
  unfold Fo.same
  have E1 := Lib.hid (show (a.toList == b.toList) = (a.data.toList == b.data.toList) by rw [ByteArray.toList_eq, ByteArray.toList_eq])
  have HR := Lib.hid hw
  have hb := fun V (h : Rdy V) => longs_any k b V h
  have ha := fun V (h : Rdy V) => longs_any k a V h
  have l1 := longs_len k b.data.toList
  have l2 := longs_len k a.data.toList
  by_cases hab : (a.data.toList == b.data.toList) = true
  · have he : (a.toList == b.toList) = true := E1.out.trans hab
    rw [hab]
    clear hb ha hab hw l1 l2
    go_enter Tryd.func20, Tryd.ntmps20
    go_wp2
    go_ret
    exact ⟨rfl, Below.refl _ _⟩
  · have hab' : (a.data.toList == b.data.toList) = false := by simpa using hab
    have he : (a.toList == b.toList) = false := E1.out.trans hab'
    rw [hab', Bool.false_or]
    generalize Fo.longs k b.data.toList = LB at *
    generalize Fo.longs k a.data.toList = LA at *
    have hq := fun A1 A2 n1 c1 n2 c2 b w => anyOf_any A1 A2 n1 c1 n2 c2 b LA LB w
    generalize (LA.any fun x => LB.contains x) = D at *
    have HQ := Lib.hid hq
    have HA := Lib.hid ha; have HB := Lib.hid hb; have L1 := Lib.hid l1; have L2 := Lib.hid l2
    clear ha hb hab hab' hw l1 l2 hq
    go_enter Tryd.func20, Tryd.ntmps20
    go_wp2_with (first
      | (go_at_call 22; (with_reducible refine (HB.out w HR.out).mono ?_); rintro e w1 ⟨A1, n1, c1, rfl, h, hb⟩; have S1 := Lib.hid h; have B1 := Lib.hid hb; have B2 := Lib.hid (hb.alloc hb.size (.cells #[.slice A1 n1 c1] 34)); have R2 := Lib.hid (HR.out.below (hb.alloc hb.size (.cells #[.slice A1 n1 c1] 34))); have N2 := Lib.hid (below_new w1 (.cells #[.slice A1 n1 c1] 34)); have C2 := Lib.hid (cell_new1 w1 (.slice A1 n1 c1) 34); clear h hb)
      | (go_at_call 22; (with_reducible refine (HA.out (w1.alloc (.cells #[.slice A1 n1 c1] 34)) R2.out).mono ?_); rintro e w2 ⟨A2, n2, c2, rfl, h, hb⟩; have S2 := Lib.hid h; have B3 := Lib.hid hb; clear h hb)
      | (go_at_call 40; (with_reducible refine (HQ.out A2 A1 n2 c2 n1 c1 w1.heap.size w2 S2.out.len S1.out.len (S2.out.le L2.out) (S1.out.le L1.out) S2.out.rd ((S1.out.rd.below N2.out).below B3.out) (cell_keep C2.out B3.out)).mono ?_); rintro e w3 ⟨rfl, hb⟩; have B4 := Lib.hid (below_next (below_next B2.out B3.out) hb); clear hb))
    go_ret
    exact ⟨rfl, B4.out⟩
end Go.Proofs.YtoenaehkhdcdmaaDoor
