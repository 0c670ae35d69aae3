/-
  at: the node where a text ends; add: another word.
-/
import Derived.Test.YtioncjnjhmnlaaaLexOpen
import Derived.Shelf.RegionOpen
import Derived.Test.YtioncjnjhmnlaaaEdiStep
namespace Go.Proofs.Ytioncjnjhmnlaaa
open Go.RowKit Go.Shelf Lx
open Go.Maps (Keyed int_keyed)
set_option linter.unusedVariables false
set_option linter.unusedSimpArgs false

theorem tx_take (s : ByteArray) (k : Nat) (hk : k < s.size) : (tx s).take (k + 1) = (tx s).take k ++ [s[k]] := by
  have h : k < (tx s).length := by rw [tx_len]; exact hk
  rw [List.take_succ_eq_append_getElem h]; rfl
theorem tx_all (s : ByteArray) : (tx s).take s.size = tx s := by rw [← tx_len]; exact List.take_length
theorem heap_keep {w w' : World} {k : Nat} {o : Obj} (h : w.heap[k]? = some o) (hb : Below w.heap.size w w') : w'.heap[k]? = some o := (hb.block k (Array.getElem?_eq_some_iff.1 h).1).trans h
theorem below_drew (w : World) : Below w.heap.size w w.drew := (Below.refl _ w).drew
section
variable {w : World} {base root cap : Nat} {N M F : Tx → Option Nat}
theorem Tri.drew (h : Tri w base root cap N M F) : Tri w.drew base root cap N M F := h.below (below_drew w)
set_option maxRecDepth 100000 in
theorem look_nil (w : World) (b : UInt8) : (Instr.lookup 55 (.map none) (.int .u8 (b.toNat : Int)) false).run Try.prog w = .ok (.pointer none) w := by
  have hz := zeroNode w
  have hc := MapKept.run_checkKey (w := w) Try.underlying5 (k := .int .u8 (b.toNat : Int)) (by simp [MapKept.IsKey]) true 9999
  have hf := run_findKey_now (w := w) Try.underlying5 (b.toNat : Int) [] none rfl
  simp [Instr.lookup, run_underlying Try.underlying55, hz, hc, hf, Result.andThen, nptr]
set_option maxRecDepth 100000 in
theorem Tri.look (h : Tri w base root cap N M F) {p : Tx} (hp : N p ≠ none) (b : UInt8) : (Instr.lookup 55 (.map (M p)) (.int .u8 (b.toNat : Int)) false).run Try.prog w = .ok (nptr (N (p ++ [b]))) w := by
  cases hm : M p with
  | none =>
    rw [h.bare p hp hm b]
    exact look_nil w b
  | some m =>
    obtain ⟨hmb, D, hown, hD⟩ := h.kids p m hp hm
    obtain ⟨v', ps, hrun, hr⟩ := hown.lookup lawB Try.underlying55 (zeroNode w) (ptrE_ptr none) (keyB b)
    obtain ⟨o2, rfl, h2⟩ := ptrE_inv hr
    have e : o2 = N (p ++ [b]) := ptD_inj (by rw [← hD b]; injection h2 with h3; exact h3.symm)
    rw [hrun, e]
set_option maxRecDepth 100000 in
set_option maxHeartbeats 2000000 in
theorem at_any (h : Tri w base root cap N M F) (s : ByteArray) (hs : s.size ≤ 1000000) :
    Calls Try.prog 31 #[.pointer (some ⟨root, 0, none⟩), .string s] w fun e w' => e = .returned (nptr (N (tx s))) ∧ Below w.heap.size w w' := by
  have H := Lib.hid h
  clear h
  go_enter Try.func31, Try.ntmps31
  go_wp2
  go_loopw [5, 0] (fun i n wr => ∃ k : Nat, i = .int .i64 (k : Int) ∧ k ≤ s.size ∧ n = nptr (N ((tx s).take k)) ∧ Hid (Below w.heap.size w wr)) (fun i _ _ => s.size - (intOf i).toNat)
  case atStart => exact ⟨0, rfl, Nat.zero_le _, by rw [List.take_zero, H.out.top]; rfl, Lib.hid (Below.refl _ _)⟩
  case round =>
    obtain ⟨k, rfl, hk, rfl, hB⟩ := hrel
    by_cases hlt : k < s.size
    · have i1 : decide ((k : Int) < (s.size : Int)) = true := decide_eq_true (by omega)
      cases hn : N ((tx s).take k) with
      | none =>
        have hd := H.out.dead _ hn ((tx s).drop k)
        rw [List.take_append_drop] at hd
        have HD := Lib.hid hd
        clear hd hn
        simp only [nptr, Option.map_none]
        go_wp2
        go_ret
        exact ⟨by rw [HD.out]; rfl, hB.out⟩
      | some a =>
        have hT := H.out.below hB.out
        obtain ⟨c0, c1, c2⟩ := hT.cells hn
        have hl := hT.drew.look (p := (tx s).take k) (by rw [hn]; simp) (s[k]'hlt)
        rw [← tx_take s k hlt] at hl
        obtain ⟨x, hx⟩ : ∃ x, s[k] = x := ⟨_, rfl⟩
        rw [hx] at hl
        obtain ⟨mm, hmm⟩ : ∃ mm, M ((tx s).take k) = mm := ⟨_, rfl⟩
        rw [hmm] at hl c2
        clear hT c0 c1 hmm
        simp only [nptr, Option.map_some]
        obtain ⟨r, hr⟩ : ∃ r, nptr (N ((tx s).take (k + 1))) = r := ⟨_, rfl⟩
        rw [hr] at hl
        have HR := Lib.hid hr; have HN := Lib.hid hn
        clear hr hn
        go_wp2
        go_region
        go_wp2
        go_roundw
        case rel => exact ⟨k + 1, by go_num, by omega, HR.out.symm, Lib.hid hB.out.drew⟩
        case measure => simp [intOf]; omega
    · obtain rfl : k = s.size := by omega
      have i1 : decide ((s.size : Int) < (s.size : Int)) = false := decide_eq_false (by omega)
      go_wp2
      go_ret
      exact ⟨by rw [tx_all]; rfl, hB.out⟩

/-- what add gives -/
def PostAdd (base root cap : Nat) (N F : Tx → Option Nat) (x : Tx) (i : Nat) (w : World) (e : Ending) (w' : World) : Prop :=
  ∃ N' M', Below base w w' ∧ (∀ r, N r ≠ none → N' r = N r) ∧
    ((F x ≠ none ∧ e = .returned (.bool false)) ∨ (F x = none ∧ e = .returned (.bool true) ∧ Tri w' base root (cap + x.length) N' M' (fun q => if q = x then some i else F q)))
set_option maxRecDepth 100000 in
set_option maxHeartbeats 2000000 in
theorem add_any (h : Tri w base root cap N M F) (s : ByteArray) (hs : s.size ≤ 40) (i : Nat) (hi : i < 1000) (hnew : ∀ q, F q ≠ some i) (hc : cap + 40 < 1000000) (hb : base ≤ w.heap.size) :
    Calls Try.prog 21 #[.pointer (some ⟨root, 0, none⟩), .string s, .int .i64 (i : Int)] w (PostAdd base root cap N F (tx s) i w) := by
  have H := Lib.hid h; have HNEW := Lib.hid hnew
  clear h hnew
  go_enter Try.func21, Try.ntmps21
  go_wp2
  go_loopw [10, 0] (fun j n wr => ∃ (k a : Nat) (N' M' : Tx → Option Nat), j = .int .i64 (k : Int) ∧ k ≤ s.size ∧ n = .pointer (some ⟨a, 0, none⟩) ∧ Hid (N' ((tx s).take k) = some a) ∧ Hid (Tri wr base root (cap + k) N' M' F) ∧ Hid (∀ r, N r ≠ none → N' r = N r) ∧ Hid (Below base w wr)) (fun j _ _ => s.size - (intOf j).toNat)
  case atStart => exact ⟨0, root, N, M, rfl, Nat.zero_le _, rfl, Lib.hid (by rw [List.take_zero]; exact H.out.top), H, Lib.hid (fun _ _ => rfl), Lib.hid (Below.refl _ _)⟩
  case round =>
    obtain ⟨k, a, N', M', rfl, hk, rfl, hN, hT, hE, hB⟩ := hrel
    by_cases hlt : k < s.size
    · have i1 : decide ((k : Int) < (s.size : Int)) = true := decide_eq_true (by omega)
      have ho := open_any hT.out ((tx s).take k) (s[k]'hlt) a hN.out (by rw [List.length_take, tx_len]; omega) (by omega) (Nat.le_trans hb hB.out.size)
      rw [← tx_take s k hlt] at ho
      obtain ⟨x, hx⟩ : ∃ x, s[k] = x := ⟨_, rfl⟩
      rw [hx] at ho
      have HO := Lib.hid ho
      clear ho
      go_wp2_with (go_at_call 35; (with_reducible refine HO.out.mono ?_); rintro e w1 ⟨a1, N1, M1, rfl, hT1, hN1, hE1, hB1⟩; have HT1 := Lib.hid hT1; have HN1 := Lib.hid hN1; have HE1 := Lib.hid hE1; have HB1 := Lib.hid hB1; clear hT1 hN1 hE1 hB1)
      go_roundw
      case rel => exact ⟨k + 1, a1, N1, M1, by go_num, by omega, rfl, HN1, by have := HT1.out; rw [show cap + (k + 1) = cap + k + 1 by omega]; exact Lib.hid this, Lib.hid (fun r hr => by rw [HE1.out r (by rw [hE.out r hr]; exact hr), hE.out r hr]), Lib.hid (hB.out.trans HB1.out)⟩
      case measure => simp [intOf]; omega
    · obtain rfl : k = s.size := by omega
      have hN' := hN.out
      rw [tx_all] at hN'
      obtain ⟨c0, c1, c2⟩ := hT.out.cells hN'
      have f0 := hT.out.free hN' 0
      have f1 := hT.out.free hN' 1
      have hlt := hT.out.lt hN'
      have hba := (hT.out.node _ _ hN').1
      have HN' := Lib.hid hN'
      cases hF : F (tx s) with
      | some v =>
        rw [hF] at c0 c1
        have HF := Lib.hid hF
        clear hF hN'
        simp only [Option.isSome_some] at c0
        go_wp2
        go_ret
        exact ⟨N', M', hB.out, hE.out, .inl ⟨by rw [HF.out]; simp, rfl⟩⟩
      | none =>
        rw [hF] at c0 c1
        have HF := Lib.hid hF
        clear hF hN'
        simp only [Option.isSome_none] at c0
        go_wp2
        go_ret
        refine ⟨N', M', ?_, hE.out, .inr ⟨HF.out, rfl, ?_⟩⟩
        · exact (hB.out.setCell (p := ⟨a, 0, none⟩) hba _).setCell (p := ⟨a, 1, none⟩) hba _
        · rw [tx_len]; exact hT.out.put HN'.out i hi HF.out HNEW.out
end
end Go.Proofs.Ytioncjnjhmnlaaa
