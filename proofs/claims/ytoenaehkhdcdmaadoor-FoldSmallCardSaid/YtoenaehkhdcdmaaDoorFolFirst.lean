/-
  The walk of first: the first row that is wanted.
-/
import Derived.Test.YtoenaehkhdcdmaaDoorFolIdx
import Derived.Laws.Rows
namespace Go.Proofs.YtoenaehkhdcdmaaDoor
open Go.RowKit
set_option linter.unusedVariables false
set_option linter.unusedSimpArgs false

def zeroV : Value := .agg #[.int .u8 0, .string ⟨#[]⟩, .string ⟨#[]⟩]
def foundV (o : Option Fo.Row) : Value := match o with | some r => rowVal r | none => zeroV
def PostRow (o : Option Fo.Row) (w : World) (e : Ending) (w' : World) : Prop := e = .returned (foundV o) ∧ Below w.heap.size w w'
/-- a function value that tells of a row -/
def Tells (g : Nat) (lb : Array Value) (p : Fo.Row → Bool) (w : World) : Prop :=
  ∀ V k, k < 40 → Below w.heap.size w V → Calls Tryd.prog g (#[rowVal (rowAt k)] ++ lb) V (PostB (p (rowAt k)) V)
structure FirstS (p : Fo.Row → Bool) (w wr : World) (b k : Nat) : Prop where
  bel : Below w.heap.size w wr
  res : wr.heap[b]? = some (.cells #[.int .u8 0, .string ⟨#[]⟩, .string ⟨#[]⟩] 30 (0, 0))
  val : Fo.T.find? p = (Fo.T.drop k).find? p
theorem below_new (w : World) (o : Obj) : Below w.heap.size w (w.alloc o) := (Below.refl _ w).alloc (Nat.le_refl _) o
theorem row_new (w : World) (a : Nat) (X Y : ByteArray) : (w.alloc (.cells #[.int .u8 a, .string X, .string Y] 30)).cell? ⟨w.heap.size, 0, none⟩ = some (.int .u8 a) ∧
    (w.alloc (.cells #[.int .u8 a, .string X, .string Y] 30)).cell? ⟨w.heap.size, 1, none⟩ = some (.string X) ∧ (w.alloc (.cells #[.int .u8 a, .string X, .string Y] 30)).cell? ⟨w.heap.size, 2, none⟩ = some (.string Y) := by
  refine ⟨?_, ?_, ?_⟩ <;> go_simp
theorem blk_frozen {w : World} {g : Nat} {cs : Array Value} {t : TypeId} (h : w.heap[g]? = some (.cells cs t (0, 0))) (i : Nat) : w.frozen? ⟨g, i, none⟩ = false := by
  simp [World.frozen?, h]
theorem res_facts {w : World} {g : Nat} {x y z : Value} {t : TypeId} (h : w.heap[g]? = some (.cells #[x, y, z] t (0, 0))) :
    (w.cell? ⟨g, 0, none⟩ = some x ∧ w.cell? ⟨g, 1, none⟩ = some y ∧ w.cell? ⟨g, 2, none⟩ = some z) ∧ w.frozen? ⟨g, 0, none⟩ = false ∧ w.frozen? ⟨g, 1, none⟩ = false ∧ w.frozen? ⟨g, 2, none⟩ = false :=
  ⟨⟨cell_of_row _ _ 0 _ _ _ h, cell_of_row _ _ 1 _ _ _ h, cell_of_row _ _ 2 _ _ _ h⟩, blk_frozen h 0, blk_frozen h 1, blk_frozen h 2⟩
theorem set3 {w : World} {g : Nat} {x y z : Value} {t : TypeId} (h : w.heap[g]? = some (.cells #[x, y, z] t (0, 0))) (a b c : Value) :
    (((w.setCell ⟨g, 0, none⟩ a).setCell ⟨g, 1, none⟩ b).setCell ⟨g, 2, none⟩ c).heap[g]? = some (.cells #[a, b, c] t (0, 0)) := by
  simp [World.setCell, Array.getElem?_modify, h]
theorem res_row (tmps : Array Value) (w : World) (g : Nat) (x y z : Value) (hp : tmps.getD 2 undef = .pointer (some ⟨g, 0, none⟩)) (h : w.heap[g]? = some (.cells #[x, y, z] 30 (0, 0))) :
    (results Tryd.f49 tmps).run Tryd.prog w = .ok (.agg #[x, y, z]) w :=
  results_cell_row (fn := Tryd.f49) (p := 2) (ty := 30) rfl tmps w g 30 #[x, y, z] (0, 0) _ hp h Tryd.underlying30 rfl (by kernel_rfl)
theorem T_len : Fo.T.length = 40 := by decide
theorem drop_T (k : Nat) (h : k < 40) : Fo.T.drop k = rowAt k :: Fo.T.drop (k + 1) := by
  have hl := T_len
  rw [List.drop_eq_getElem_cons (by omega)]
  congr 1
  have := rowAt_get k h
  rw [List.getElem?_eq_getElem (by omega)] at this
  exact Option.some.inj this
set_option maxRecDepth 100000 in
set_option maxHeartbeats 4000000 in
theorem first_any (g : Nat) (lb : Array Value) (p : Fo.Row → Bool) (w : World) (hw : Rdy w) (eg : ∀ args w, (callFunc g args).run Tryd.prog w = .ok (.enter g args) w) (hc : Tells g lb p w) :
    Calls Tryd.prog 49 #[.func (.func g) #[] lb] w (PostRow (Fo.T.find? p) w) := by
  have HR := Lib.hid hw
  have HC := Lib.hid hc
  have HX := Lib.hid idx_any
  obtain ⟨tt, fr, hg1⟩ := hw.row
  have h0lt : 0 < w.heap.size := lt_of_heap hg1
  have hb := (Below.refl w.heap.size w).alloc (Nat.le_refl _) (.cells #[.int .u8 0, .string ⟨#[]⟩, .string ⟨#[]⟩] 30)
  have hg2 := (hb.block _ h0lt).trans hg1
  have HG2 := Lib.hid hg2
  have hsz : rowsCells.toArray.size = 120 := by decide
  obtain ⟨AV, hAV⟩ : ∃ AV, AV = rowsCells.toArray := ⟨_, rfl⟩
  unfold Idx at HX
  rw [← hAV] at HX hg2 hsz
  have HZ := Lib.hid hsz
  have HF := Lib.hid (show FirstS p w (w.alloc (.cells #[.int .u8 0, .string ⟨#[]⟩, .string ⟨#[]⟩] 30)) w.heap.size 0 from ⟨hb, heap_alloc_new _ _, rfl⟩)
  clear hw hc hg1 hAV hb hsz
  go_enter Tryd.func49, Tryd.ntmps49
  go_wp2_with (refine wpList_load_row rfl 45 _ rfl 0 rfl tt _ fr _ hg2 Tryd.underlying45 rfl (by rw [HZ.out]; kernel_rfl) ?_)
  clear hg2
  go_loopw [6] (fun s6 wr => ∃ k : Nat, s6 = .int .i64 k ∧ k ≤ 40 ∧ Hid (FirstS p w wr w.heap.size k)) (fun s6 _ => 40 - (intOf s6).toNat)
  case atStart => exact ⟨0, rfl, by omega, HF⟩
  case round =>
    obtain ⟨k, rfl, hk, HS⟩ := hrel
    by_cases hlt : k < 40
    · have hx := HX.out k hlt
      have hq := HC.out
      have hd := drop_T k hlt
      have hcall := fun V hb => HC.out V k hlt hb
      obtain ⟨⟨a, lx, ly⟩, hr⟩ : ∃ r, rowAt k = r := ⟨_, rfl⟩
      rw [hr] at hx hd hcall
      obtain ⟨X, hX⟩ : ∃ X : ByteArray, X = ⟨lx.toArray⟩ := ⟨_, rfl⟩
      obtain ⟨Y, hY⟩ : ∃ Y : ByteArray, Y = ⟨ly.toArray⟩ := ⟨_, rfl⟩
      have hrv : rowVal (a, lx, ly) = .agg #[.int .u8 a, .string X, .string Y] := by rw [hX, hY]; rfl
      rw [hrv] at hx hcall
      obtain ⟨B, hB⟩ : ∃ B, p (a, lx, ly) = B := ⟨_, rfl⟩
      rw [hB] at hcall
      have HD := Lib.hid hd; have HB := Lib.hid hB; have HV := Lib.hid hrv
      have HQ := Lib.hid hcall
      have hlt2 : (k : Int) < 40 := by omega
      have hS := HS.out
      have hb1 : Below w.heap.size w (wr.alloc (.cells #[.int .u8 a, .string X, .string Y] 30)) := hS.bel.alloc hS.bel.size _
      have HB1 := Lib.hid hb1
      have hres := ((below_new wr (.cells #[.int .u8 a, .string X, .string Y] 30)).block _ (lt_of_heap hS.res)).trans hS.res
      have HRES := Lib.hid hres
      clear hd hB hrv hcall hr hX hY hS hb1 hres
      have hrn := row_new wr a X Y
      have HRN := Lib.hid hrn; clear hrn
      obtain ⟨b, hb0⟩ : ∃ b, b = w.heap.size := ⟨_, rfl⟩
      have HB0 := Lib.hid hb0
      cases B with
      | false =>
        clear hb0
        go_wp2_with (go_at_fn g; (with_reducible refine (HQ.out _ HB1.out).mono ?_); rintro e V ⟨rfl, hb⟩; have HB2 := Lib.hid hb; clear hb)
        go_roundw
        case rel =>
          refine ⟨k + 1, by go_num, by omega, Lib.hid ⟨below_next HB1.out HB2.out, (HB2.out.block _ (lt_of_heap HRES.out)).trans HRES.out, ?_⟩⟩
          rw [HS.out.val, HD.out, List.find?_cons, HB.out]
        case measure => simp [intOf]; omega
      | true =>
        clear hb0
        go_wp2_with (go_at_fn g; (with_reducible refine (HQ.out _ HB1.out).mono ?_); rintro e V ⟨rfl, hb⟩; have HB2 := Lib.hid hb; have c0 := cell_keep HRN.out.1 hb; have c1 := cell_keep HRN.out.2.1 hb; have c2 := cell_keep HRN.out.2.2 hb; have hres2 := (hb.block _ (lt_of_heap HRES.out)).trans HRES.out; obtain ⟨⟨d0, d1, d2⟩, f0, f1, f2⟩ := res_facts hres2; have HRES2 := Lib.hid hres2; clear hb hres2)
        refine bodyPost_ret (res_row _ _ w.heap.size _ _ _ rfl (set3 HRES2.out _ _ _)) rfl ⟨?_, ?_⟩
        · rw [HS.out.val, HD.out, List.find?_cons, HB.out]
          exact congrArg Ending.returned HV.out.symm
        · exact (((below_next HB1.out HB2.out).setCell (Nat.le_refl _) _).setCell (Nat.le_refl _) _).setCell (Nat.le_refl _) _
    · have hge : ¬ (k : Int) < 40 := by omega
      have hv := HS.out.val
      rw [List.drop_of_length_le (by rw [T_len]; omega)] at hv
      have HV := Lib.hid hv
      have hS := HS.out
      obtain ⟨⟨d0, d1, d2⟩, f0, f1, f2⟩ := res_facts hS.res
      clear hS hv
      go_wp2
      refine bodyPost_ret (res_row _ _ w.heap.size _ _ _ rfl (set3 HS.out.res _ _ _)) rfl ⟨?_, ?_⟩
      · rw [HV.out]; rfl
      · exact ((HS.out.bel.setCell (Nat.le_refl _) _).setCell (Nat.le_refl _) _).setCell (Nat.le_refl _) _
end Go.Proofs.YtoenaehkhdcdmaaDoor
