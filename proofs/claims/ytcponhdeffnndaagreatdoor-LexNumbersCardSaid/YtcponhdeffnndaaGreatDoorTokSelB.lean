/-
  Lists of kinds in memory; the walk of selected at kinds.
-/
import Derived.Test.YtcponhdeffnndaaGreatDoorTokStrs
namespace Go.Proofs.YtcponhdeffnndaaGreatDoor
open Go.RowKit
set_option linter.unusedVariables false
set_option linter.unusedSimpArgs false

def u8V (a : Nat) : Value := .int .u8 a
/-- kinds of one's own -/
def Byts (base : Nat) (w : World) (A : Option Addr) (n c : Nat) (l : List Nat) : Prop := l.length = n ∧ w.ownsRow base 5 1 (.slice A n c) n (l.map u8V)
def PostByts (l : List Nat) (w : World) (e : Ending) (w' : World) : Prop := ∃ A n c, e = .returned (.slice A n c) ∧ Byts w.heap.size w' A n c l ∧ Below w.heap.size w w'
def RdB (w : World) (A : Option Addr) (l : List Nat) : Prop :=
  0 < l.length → ∃ b off, A = some ⟨b, off, none⟩ ∧ b < w.heap.size ∧ ∀ i, i < l.length → w.cell? ⟨b, off + i, none⟩ = some (.int .u8 (l.getD i 0))
theorem RdB.below {w w' : World} {A : Option Addr} {l : List Nat} (h : RdB w A l) (hb : Below w.heap.size w w') : RdB w' A l := by
  intro h0
  obtain ⟨b, off, e, hlt, hc⟩ := h h0
  exact ⟨b, off, e, by have := hb.size; omega, fun i hi => cell_keep (hc i hi) hb⟩
theorem Byts.rd {base : Nat} {w : World} {A : Option Addr} {n c : Nat} {l : List Nat} (h : Byts base w A n c l) : RdB w A l := by
  obtain ⟨hl, ho⟩ := h
  intro h0
  rcases ho.2 with ⟨hv, h2⟩ | ⟨g, cap, cur, hv, hb, hh, h3⟩
  · have : n = 0 := by injection hv
    omega
  · have hA : A = some ⟨g, 0, none⟩ := by injection hv
    subst hA
    refine ⟨g, 0, rfl, lt_of_heap hh, fun i hi => ?_⟩
    have hc := ho.cells (g := g) rfl i (u8V (l.getD i 0)) (by rw [List.getElem?_map, List.getElem?_eq_getElem hi, List.getD_eq_getElem?_getD, List.getElem?_eq_getElem hi]; rfl)
    have e : (⟨g, 0, none⟩ : Addr).add i = ⟨g, 0 + i, none⟩ := by unfold Addr.add; split <;> simp [*]
    rw [e] at hc; exact hc
theorem Byts.nil (base : Nat) (w : World) : Byts base w none 0 0 [] := ⟨rfl, World.ownsRow_nil _ _ _ _⟩
theorem Byts.below {base : Nat} {w w' : World} {A : Option Addr} {n c : Nat} {l : List Nat} (h : Byts base w A n c l) (hb : Below w.heap.size w w') : Byts base w' A n c l :=
  ⟨h.1, own_keep h.2 hb⟩

set_option maxHeartbeats 2000000 in
theorem indexB_any (A : Option Addr) (n c : Nat) (l : List Nat) (x : Nat) (w : World) (hl : l.length = n) (hn : n ≤ 1000000000) (h : RdB w A l) :
    Calls Tryz.prog 238 #[.slice A n c, .int .u8 x] w fun e w' => (∃ v : Int, e = .returned (.int .i64 v) ∧ decide (0 ≤ v) = l.contains x) ∧ w = w' := by
  have HL := Lib.hid hl; clear hl
  have HH := Lib.hid h; clear h
  have hN : (n : Int) ≤ 1000000000 := by omega
  go_enter Tryz.func238, Tryz.ntmps238
  go_wp2
  go_loopw [8] (fun s8 wr => wr = w ∧ ∃ k : Nat, s8 = .int .i64 k ∧ k ≤ n ∧ Hid (∀ j, j < k → l.getD j 0 ≠ x)) (fun s8 _ => n - (intOf s8).toNat)
  case atStart => exact ⟨rfl, 0, rfl, by omega, Lib.hid (fun j h => by omega)⟩
  case round =>
    obtain ⟨rfl, k, rfl, hk, HS⟩ := hrel
    by_cases hlt : k < n
    · have hlt2 : (k : Int) < n := by omega
      obtain ⟨b, off, hA, hb, hc⟩ := HH.out (by rw [HL.out]; omega)
      subst hA
      have hc1 := hc k (by rw [HL.out]; omega)
      obtain ⟨y, hy⟩ : ∃ y, l.getD k 0 = y := ⟨_, rfl⟩
      rw [hy] at hc1
      have HY := Lib.hid hy
      have hle : ¬ n ≤ k := by omega
      clear hc hy hb
      by_cases hxy : x = y
      · have he : ((x : Int) == (y : Int)) = true := by rw [beq_iff_eq]; omega
        have HE := Lib.hid hxy
        clear hxy
        go_wp2
        go_ret
        refine ⟨⟨_, rfl, ?_⟩, rfl⟩
        rw [decide_eq_true (by omega)]
        symm
        rw [List.contains_iff_mem, HE.out, ← HY.out, List.getD_eq_getElem?_getD, List.getElem?_eq_getElem (by rw [HL.out]; omega)]
        exact List.getElem_mem _
      · have he : ((x : Int) == (y : Int)) = false := by rw [beq_eq_false_iff_ne]; omega
        have HE := Lib.hid hxy
        clear hxy
        go_wp2
        go_roundw
        case rel =>
          refine ⟨trivial, k + 1, by go_num, by omega, Lib.hid (fun j hj => ?_)⟩
          rcases Nat.lt_or_ge j k with h | h
          · exact HS.out j h
          · obtain rfl : j = k := by omega
            rw [HY.out]; exact fun e => HE.out e.symm
        case measure => simp [intOf]; omega
    · have hge : ¬ (k : Int) < n := by omega
      go_wp2
      go_ret
      refine ⟨⟨_, rfl, ?_⟩, rfl⟩
      refine ⟨fun h => by omega, fun hc => ?_⟩
      exfalso
      obtain ⟨i, hi, he⟩ := List.getElem_of_mem hc
      refine HS.out i (by rw [HL.out] at hi; omega) ?_
      rw [List.getD_eq_getElem?_getD, List.getElem?_eq_getElem hi]
      exact he
set_option maxHeartbeats 1000000 in
theorem containsB_any (A : Option Addr) (n c : Nat) (l : List Nat) (x : Nat) (w : World) (hl : l.length = n) (hn : n ≤ 1000000000) (h : RdB w A l) :
    Calls Tryz.prog 156 #[.slice A n c, .int .u8 x] w fun e w' => e = .returned (.bool (l.contains x)) ∧ w = w' := by
  have H := Lib.hid (indexB_any A n c l x w hl hn h)
  go_enter Tryz.func156, Tryz.ntmps156
  go_wp2_with (go_at_call 238; (with_reducible refine H.out.mono ?_); rintro e w' ⟨⟨v, rfl, hv⟩, rfl⟩; have HV := Lib.hid hv; clear hv)
  all_goals go_ret
  all_goals exact ⟨ret_bool HV.out, rfl⟩
theorem wpList_app1b {ops : Array Oper} {rest : List Oper} {o : Oper} {a : Act} {Q : Exit → Act → World → Prop} (w : World) (hg : o.guard = none) (s x : Operand)
    (hop : o.op = .call { callee := .builtin .append, args := #[s, x], argTypes := #[35, 35] }) (base n c : Nat) (A : Option Addr) (l : List Nat) (hv : a.eval s = .slice A n c)
    (hown : Byts base w A n c l) (g : Nat) (y : Nat) (hx : a.eval x = .slice (some ⟨g, 0, none⟩) 1 1) (hc : w.cell? ⟨g, 0, none⟩ = some (.int .u8 y)) (hl : n + 1 ≤ 1000000000) (hb : base ≤ w.heap.size)
    (hK : ∀ A' n' c' w', n' = n + 1 → Byts base w' A' n' c' (l ++ [y]) → w.grownBy w' (Value.slice A n c).ownBlock → wpList Tryz.prog ops Q rest (a.put o.dst (.slice A' n' c')) w') :
    wpList Tryz.prog ops Q (o :: rest) a w := by
  obtain ⟨i0, hi, hz0, hz1, hz2⟩ := info_parts infoU8
  refine wpList_append_own _ hg _ _ 35 hop base 5 i0 (.int .u8 0) 1 1 Tryz.underlying35 hi hz0 hz1 hz2 rfl (by decide) _ _ _ hv hown.2 ⟨g, 0, none⟩ 1 1 [u8V y] hx rfl ?_ ?_ ?_ ?_ hb ?_
  · intro j u hj
    match j, hj with
    | 0, hj => simp at hj; subst hj; simpa [Addr.add, u8V] using hc
  · intro u hu; simp at hu; subst hu; rfl
  · unfold maxLen; omega
  · omega
  · intro v' w' h1 h2 _
    have hl1 := hown.1
    rcases h1.2 with ⟨rfl, h4⟩ | ⟨g', cap, cur, rfl, h5, h6, h7⟩
    · omega
    · exact hK _ _ cap w' rfl ⟨by simp [hl1], by rw [List.map_append]; exact h1⟩ h2
/-- a function value that takes a kind from a row, and tells -/
def TakesB (g : Nat) (lb : Array Value) (f : Fo.Row → Nat) (p : Fo.Row → Bool) (w : World) : Prop :=
  ∀ V k, k < 40 → Below w.heap.size w V → Calls Tryz.prog g (#[rowVal (rowAt k)] ++ lb) V (PostIB (f (rowAt k)) (p (rowAt k)) V)
structure SelB (f : Fo.Row → Nat) (p : Fo.Row → Bool) (w wr : World) (A : Option Addr) (n c k : Nat) (acc : List Nat) : Prop where
  own : Byts w.heap.size wr A n c acc
  bel : Below w.heap.size w wr
  val : Fo.sel f p Fo.T [] = Fo.sel f p (Fo.T.drop k) acc
  len : n ≤ k
theorem byts_base {base : Nat} {w : World} {A : Option Addr} {n c : Nat} {l : List Nat} (h : Byts base w A n c l) : ∀ k, (Value.slice A n c).ownBlock = some k → base ≤ k := by
  intro k hk
  exact (h.2.lt k hk).1
set_option maxRecDepth 100000 in
set_option maxHeartbeats 4000000 in
theorem selB_any (g : Nat) (lb : Array Value) (f : Fo.Row → Nat) (p : Fo.Row → Bool) (w : World) (hw : Rdy w) (eg : ∀ args w, (callFunc g args).run Tryz.prog w = .ok (.enter g args) w) (hc : TakesB g lb f p w) :
    Calls Tryz.prog 75 #[.func (.func g) #[] lb] w (PostByts (Fo.sel f p Fo.T []) w) := by
  have HR := Lib.hid hw
  have HC := Lib.hid hc
  have HX := Lib.hid idx_any
  obtain ⟨tt, fr, hg1⟩ := hw.row
  have hsz : rowsCells.toArray.size = 120 := by decide
  obtain ⟨AV, hAV⟩ : ∃ AV, AV = rowsCells.toArray := ⟨_, rfl⟩
  unfold Idx at HX
  rw [← hAV] at HX hg1 hsz
  have HZ := Lib.hid hsz
  have HF := Lib.hid (show SelB f p w w none 0 0 0 [] from ⟨Byts.nil _ _, Below.refl _ _, rfl, Nat.le_refl _⟩)
  clear hw hc hAV hsz
  go_enter Tryz.func75, Tryz.ntmps75
  go_wp2_with (refine wpList_load_row rfl 206 _ rfl 2 rfl tt _ fr _ hg1 Tryz.underlying206 rfl (by rw [HZ.out]; kernel_rfl) ?_)
  clear hg1
  go_loopw [3, 9] (fun s3 s9 wr => ∃ (k n c : Nat) (A : Option Addr) (acc : List Nat), s9 = .int .i64 k ∧ s3 = .slice A n c ∧ k ≤ 40 ∧ Hid (SelB f p w wr A n c k acc)) (fun _ s9 _ => 40 - (intOf s9).toNat)
  case atStart => exact ⟨0, 0, 0, none, [], rfl, rfl, by omega, HF⟩
  case round =>
    obtain ⟨k, n, c, A, acc, rfl, rfl, hk, HS⟩ := hrel
    by_cases hlt : k < 40
    · have hx := HX.out k hlt
      have hcall := fun V hb => HC.out V k hlt hb
      have hd := drop_T k hlt
      obtain ⟨⟨a, lx, ly⟩, hr⟩ : ∃ r, rowAt k = r := ⟨_, rfl⟩
      rw [hr] at hx hd hcall
      obtain ⟨X, hX⟩ : ∃ X : ByteArray, X = ⟨lx.toArray⟩ := ⟨_, rfl⟩
      obtain ⟨Y, hY⟩ : ∃ Y : ByteArray, Y = ⟨ly.toArray⟩ := ⟨_, rfl⟩
      have hrv : rowVal (a, lx, ly) = .agg #[.int .u8 a, .string X, .string Y] := by rw [hX, hY]; rfl
      rw [hrv] at hx hcall
      obtain ⟨t, ht⟩ : ∃ t, f (a, lx, ly) = t := ⟨_, rfl⟩
      obtain ⟨B, hB⟩ : ∃ B, p (a, lx, ly) = B := ⟨_, rfl⟩
      rw [hB, ht] at hcall
      have hv := HS.out.val
      rw [hd, sel_cons, hB, ht] at hv
      have HV := Lib.hid hv
      have HQ := Lib.hid hcall
      have hlt2 : (k : Int) < 40 := by omega
      have hb1 : Below w.heap.size w (wr.alloc (.cells #[.int .u8 a, .string X, .string Y] 143)) := HS.out.bel.alloc HS.out.bel.size _
      have HB1 := Lib.hid hb1
      have HN1 := Lib.hid (below_new wr (.cells #[.int .u8 a, .string X, .string Y] 143))
      clear hd hB hrv hcall hr hX hY hb1 hv ht
      cases B with
      | false =>
        go_wp2_with (go_at_fn g; (with_reducible refine (HQ.out _ HB1.out).mono ?_); rintro e V ⟨rfl, hb⟩; have HB2 := Lib.hid hb; clear hb)
        go_roundw
        case rel => exact ⟨k + 1, n, c, A, acc, by go_num, rfl, by omega, Lib.hid ⟨(HS.out.own.below HN1.out).below HB2.out, below_next HB1.out HB2.out, HV.out, by have := HS.out.len; omega⟩⟩
        case measure => simp [intOf]; omega
      | true =>
        have hq := fun (V : World) (h : RdB V A acc) => containsB_any A n c acc t V HS.out.own.1 (by have := HS.out.len; omega) h
        obtain ⟨M, hM⟩ : ∃ M, acc.contains t = M := ⟨_, rfl⟩
        rw [hM] at hq
        have HM := Lib.hid hM
        have HCo := Lib.hid hq
        clear hM hq
        cases M with
        | true =>
          go_wp2_with (first
            | (go_at_fn g; (with_reducible refine (HQ.out _ HB1.out).mono ?_); rintro e V ⟨rfl, hb⟩; have HB2 := Lib.hid hb; clear hb)
            | (go_at_call 156; (with_reducible refine (HCo.out V ((HS.out.own.rd.below HN1.out).below HB2.out)).mono ?_); rintro e V2 ⟨rfl, rfl⟩))
          go_roundw
          case rel => exact ⟨k + 1, n, c, A, acc, by go_num, rfl, by omega, Lib.hid ⟨(HS.out.own.below HN1.out).below HB2.out, below_next HB1.out HB2.out, by rw [HV.out]; unfold Fo.more; rw [HM.out]; rfl, by have := HS.out.len; omega⟩⟩
          case measure => simp [intOf]; omega
        | false =>
          have hn40 : n + 1 ≤ 1000000000 := by have := HS.out.len; omega
          go_wp2_with (first
            | (go_at_fn g; (with_reducible refine (HQ.out _ HB1.out).mono ?_); rintro e V ⟨rfl, hb⟩; have HB2 := Lib.hid hb; have HB3 := Lib.hid (below_next HB1.out hb); have HO3 := Lib.hid (((HS.out.own.below HN1.out).below hb).below (below_new V (.cells #[.int .u8 t] 5))); have HB4 := Lib.hid (HB3.out.alloc HB3.out.size (.cells #[.int .u8 t] 5)); clear hb)
            | (go_at_call 156; (with_reducible refine (HCo.out V ((HS.out.own.rd.below HN1.out).below HB2.out)).mono ?_); rintro e V2 ⟨rfl, rfl⟩)
            | (at_builtin; with_reducible refine wpList_app1b _ rfl _ _ rfl w.heap.size n c A acc rfl HO3.out V.heap.size t rfl ?_ hn40 HB4.out.size ?_))
          · go_simp
          · intro A' n' c' w' hn' ho hg
            have HX2 := Lib.hid (show SelB f p w w' A' n' c' (k + 1) (acc ++ [t]) from ⟨ho, HB4.out.grown hg HB4.out.size (byts_base HO3.out), by rw [HV.out]; unfold Fo.more; rw [HM.out]; rfl, by have := HS.out.len; omega⟩)
            clear ho hg hn'
            go_wp2
            go_roundw
            case rel => exact ⟨k + 1, n', c', A', acc ++ [t], by go_num, rfl, by omega, HX2⟩
            case measure => simp [intOf]; omega
    · have hge : ¬ (k : Int) < 40 := by omega
      have hv := HS.out.val
      rw [List.drop_of_length_le (by rw [T_len]; omega)] at hv
      have HV := Lib.hid hv
      clear hv
      go_wp2
      go_ret
      exact ⟨A, n, c, rfl, by rw [HV.out]; exact HS.out.own, HS.out.bel⟩
end Go.Proofs.YtcponhdeffnndaaGreatDoor
