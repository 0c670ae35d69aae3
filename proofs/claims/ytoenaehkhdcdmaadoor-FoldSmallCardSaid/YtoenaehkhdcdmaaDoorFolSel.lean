/-
  The walk of selected at texts.
-/
import Derived.Test.YtoenaehkhdcdmaaDoorFolStrs
namespace Go.Proofs.YtoenaehkhdcdmaaDoor
open Go.RowKit
set_option linter.unusedVariables false
set_option linter.unusedSimpArgs false

/-- a function value that takes a text from a row, and tells -/
def TakesS (g : Nat) (lb : Array Value) (f : Fo.Row → List UInt8) (p : Fo.Row → Bool) (w : World) : Prop :=
  ∀ V k, k < 40 → Below w.heap.size w V → Calls Tryd.prog g (#[rowVal (rowAt k)] ++ lb) V (PostSB ⟨(f (rowAt k)).toArray⟩ (p (rowAt k)) V)
structure SelS (f : Fo.Row → List UInt8) (p : Fo.Row → Bool) (w wr : World) (A : Option Addr) (n c k : Nat) (acc : List (List UInt8)) : Prop where
  own : Strs w.heap.size wr A n c acc
  bel : Below w.heap.size w wr
  val : Fo.sel f p Fo.T [] = Fo.sel f p (Fo.T.drop k) acc
  len : n ≤ k
theorem sel_cons {α : Type} [BEq α] (f : Fo.Row → α) (p : Fo.Row → Bool) (r : Fo.Row) (l : List Fo.Row) (acc : List α) : Fo.sel f p (r :: l) acc = Fo.sel f p l (Fo.more acc (f r) (p r)) := rfl
theorem strs_base {base : Nat} {w : World} {A : Option Addr} {n c : Nat} {l : List (List UInt8)} (h : Strs base w A n c l) : ∀ k, (Value.slice A n c).ownBlock = some k → base ≤ k := by
  intro k hk
  exact (h.2.lt k hk).1
set_option maxRecDepth 100000 in
set_option maxHeartbeats 4000000 in
theorem selS_any (g : Nat) (lb : Array Value) (f : Fo.Row → List UInt8) (p : Fo.Row → Bool) (w : World) (hw : Rdy w) (eg : ∀ args w, (callFunc g args).run Tryd.prog w = .ok (.enter g args) w) (hc : TakesS g lb f p w) :
    Calls Tryd.prog 43 #[.func (.func g) #[] lb] w (PostStrs (Fo.sel f p Fo.T []) w) := by
  have HR := Lib.hid hw
  have HC := Lib.hid hc
  have HX := Lib.hid idx_any
  obtain ⟨tt, fr, hg1⟩ := hw.row
  have hsz : rowsCells.toArray.size = 120 := by decide
  obtain ⟨AV, hAV⟩ : ∃ AV, AV = rowsCells.toArray := ⟨_, rfl⟩
  unfold Idx at HX
  rw [← hAV] at HX hg1 hsz
  have HZ := Lib.hid hsz
  have HF := Lib.hid (show SelS f p w w none 0 0 0 [] from ⟨Strs.nil _ _, Below.refl _ _, rfl, Nat.le_refl _⟩)
  clear hw hc hAV hsz
  go_enter Tryd.func43, Tryd.ntmps43
  go_wp2_with (refine wpList_load_row rfl 45 _ rfl 0 rfl tt _ fr _ hg1 Tryd.underlying45 rfl (by rw [HZ.out]; kernel_rfl) ?_)
  clear hg1
  go_loopw [3, 9] (fun s3 s9 wr => ∃ (k n c : Nat) (A : Option Addr) (acc : List (List UInt8)), s9 = .int .i64 k ∧ s3 = .slice A n c ∧ k ≤ 40 ∧ Hid (SelS f p w wr A n c k acc)) (fun _ s9 _ => 40 - (intOf s9).toNat)
  case atStart => exact ⟨0, 0, 0, none, [], rfl, rfl, by omega, HF⟩
  case round =>
    obtain ⟨k, n, c, A, acc, rfl, rfl, hk, HS⟩ := hrel
    by_cases hlt : k < 40
    · have hx := HX.out k hlt
      have hcall := fun V hb => HC.out V k hlt hb
      have hd := drop_T k hlt
      obtain ⟨⟨a, lx, ly⟩, hr⟩ : ∃ r, rowAt k = r := ⟨_, rfl⟩
      rw [hr] at hx hd hcall
      obtain ⟨X, hX⟩ : ∃ X : ByteArray, X = ⟨lx.toArray⟩ := ⟨_, rfl⟩
      obtain ⟨Y, hY⟩ : ∃ Y : ByteArray, Y = ⟨ly.toArray⟩ := ⟨_, rfl⟩
      have hrv : rowVal (a, lx, ly) = .agg #[.int .u8 a, .string X, .string Y] := by rw [hX, hY]; rfl
      rw [hrv] at hx hcall
      obtain ⟨t, ht⟩ : ∃ t, f (a, lx, ly) = t := ⟨_, rfl⟩
      obtain ⟨B, hB⟩ : ∃ B, p (a, lx, ly) = B := ⟨_, rfl⟩
      rw [hB, ht] at hcall
      obtain ⟨S, hSS⟩ : ∃ S : ByteArray, S = ⟨t.toArray⟩ := ⟨_, rfl⟩
      rw [← hSS] at hcall
      have hSd : S.data.toList = t := by rw [hSS]
      have hv := HS.out.val
      rw [hd, sel_cons, hB, ht] at hv
      have HV := Lib.hid hv; have HSd := Lib.hid hSd; have HSS := Lib.hid hSS
      have HQ := Lib.hid hcall
      have hlt2 : (k : Int) < 40 := by omega
      have hb1 : Below w.heap.size w (wr.alloc (.cells #[.int .u8 a, .string X, .string Y] 30)) := HS.out.bel.alloc HS.out.bel.size _
      have HB1 := Lib.hid hb1
      have HN1 := Lib.hid (below_new wr (.cells #[.int .u8 a, .string X, .string Y] 30))
      clear hd hB hrv hcall hr hX hY hb1 hv ht hSS hSd
      cases B with
      | false =>
        go_wp2_with (go_at_fn g; (with_reducible refine (HQ.out _ HB1.out).mono ?_); rintro e V ⟨rfl, hb⟩; have HB2 := Lib.hid hb; clear hb)
        go_roundw
        case rel => exact ⟨k + 1, n, c, A, acc, by go_num, rfl, by omega, Lib.hid ⟨(HS.out.own.below HN1.out).below HB2.out, below_next HB1.out HB2.out, HV.out, by have := HS.out.len; omega⟩⟩
        case measure => simp [intOf]; omega
      | true =>
        have hq := fun (V : World) (h : RdS V A acc) => contains_any A n c acc S V HS.out.own.1 (by have := HS.out.len; omega) h
        rw [HSd.out] at hq
        obtain ⟨M, hM⟩ : ∃ M, acc.contains t = M := ⟨_, rfl⟩
        rw [hM] at hq
        have HM := Lib.hid hM
        have HCo := Lib.hid hq
        clear hM hq
        cases M with
        | true =>
          go_wp2_with (first
            | (go_at_fn g; (with_reducible refine (HQ.out _ HB1.out).mono ?_); rintro e V ⟨rfl, hb⟩; have HB2 := Lib.hid hb; clear hb)
            | (go_at_call 42; (with_reducible refine (HCo.out V ((HS.out.own.rd.below HN1.out).below HB2.out)).mono ?_); rintro e V2 ⟨rfl, rfl⟩))
          go_roundw
          case rel => exact ⟨k + 1, n, c, A, acc, by go_num, rfl, by omega, Lib.hid ⟨(HS.out.own.below HN1.out).below HB2.out, below_next HB1.out HB2.out, by rw [HV.out]; unfold Fo.more; rw [HM.out]; rfl, by have := HS.out.len; omega⟩⟩
          case measure => simp [intOf]; omega
        | false =>
          have hn40 : n + 1 ≤ 1000000000 := by have := HS.out.len; omega
          go_wp2_with (first
            | (go_at_fn g; (with_reducible refine (HQ.out _ HB1.out).mono ?_); rintro e V ⟨rfl, hb⟩; have HB2 := Lib.hid hb; have HB3 := Lib.hid (below_next HB1.out hb); have HO3 := Lib.hid (((HS.out.own.below HN1.out).below hb).below (below_new V (.cells #[.string S] 9))); have HB4 := Lib.hid (HB3.out.alloc HB3.out.size (.cells #[.string S] 9)); clear hb)
            | (go_at_call 42; (with_reducible refine (HCo.out V ((HS.out.own.rd.below HN1.out).below HB2.out)).mono ?_); rintro e V2 ⟨rfl, rfl⟩)
            | (at_builtin; with_reducible refine wpList_app1s _ rfl _ _ rfl w.heap.size n c A acc rfl HO3.out V.heap.size t S HSS.out rfl ?_ hn40 HB4.out.size ?_))
          · go_simp
          · intro A' n' c' w' hn' ho hg
            have HX2 := Lib.hid (show SelS f p w w' A' n' c' (k + 1) (acc ++ [t]) from ⟨ho, HB4.out.grown hg HB4.out.size (strs_base HO3.out), by rw [HV.out]; unfold Fo.more; rw [HM.out]; rfl, by have := HS.out.len; omega⟩)
            clear ho hg hn'
            go_wp2
            go_roundw
            case rel => exact ⟨k + 1, n', c', A', acc ++ [t], by go_num, rfl, by omega, HX2⟩
            case measure => simp [intOf]; omega
    · have hge : ¬ (k : Int) < 40 := by omega
      have hv := HS.out.val
      rw [List.drop_of_length_le (by rw [T_len]; omega)] at hv
      have HV := Lib.hid hv
      clear hv
      go_wp2
      go_ret
      exact ⟨A, n, c, rfl, by rw [HV.out]; exact HS.out.own, HS.out.bel⟩
end Go.Proofs.YtoenaehkhdcdmaaDoor
