/-
  The reference's Longs and Same.
-/
import Derived.Test.YtoenaehkhdcdmaaDoorFolRefE
namespace Go.Proofs.YtoenaehkhdcdmaaDoor
open Go.RowKit
set_option linter.unusedVariables false
set_option linter.unusedSimpArgs false

def pOf (q : Nat) (z : List UInt8) (r : Fo.Row) : Bool := Fo.ofKind q r && Fo.ofWord z r
structure LongS (q : Nat) (z : List UInt8) (w wr : World) (b g : Nat) (A : Option Addr) (n c k : Nat) (acc : List (List UInt8)) : Prop where
  own : Strs b wr A n c acc
  bel : Below w.heap.size w wr
  tab : Tab wr g
  val : Fo.longs q z = Fo.sel (fun r => r.2.1) (pOf q z) (Fo.T.drop k) acc
  len : n ≤ k
  gb : g < b
  wb : w.heap.size ≤ b
  bw : b ≤ wr.heap.size
theorem Tab.grown {w w' : World} {g : Nat} (h : Tab w g) {r : Option Nat} (hg : w.grownBy w' r) (hne : some g ≠ r) : Tab w' g := by
  have hb : ∀ o, w'.cell? ⟨g, o, none⟩ = w.cell? ⟨g, o, none⟩ := fun o => World.cell?_of_block (hg.block g h.1 hne)
  refine ⟨Nat.lt_of_lt_of_le h.1 hg.size, fun k hk => ?_⟩
  rw [hb, hb, hb]; exact h.2 k hk
theorem ne_strs {w : World} {g base n c : Nat} {A : Option Addr} {l : List (List UInt8)} (hs : Strs base w A n c l) (h : g < base) : some g ≠ (Value.slice A n c).ownBlock := by
  intro e
  have := strs_base hs g e.symm
  omega
set_option maxRecDepth 100000 in
set_option maxHeartbeats 8000000 in
theorem longsRef_any (q : Nat) (z : ByteArray) (w : World) : Calls Tryd.prog 30 #[.int .u8 q, .string z] w (PostStrs (Fo.longs q z.data.toList) w) := by
  have HT := Lib.hid (tableRef_any w)
  go_enter Tryd.func30, Tryd.ntmps30
  go_wp2_with (go_at_call 28; (with_reducible refine HT.out.mono ?_); rintro e w1 ⟨g, rfl, hg, hgw, hb⟩; have H0 := Lib.hid (show LongS q z.data.toList w w1 w1.heap.size g none 0 0 0 [] from ⟨Strs.nil _ _, hb, Tab.of_block hg, rfl, Nat.le_refl _, lt_of_heap hg, hb.size, Nat.le_refl _⟩); clear hg hgw hb)
  obtain ⟨b, hb⟩ : ∃ b, b = w1.heap.size := ⟨_, rfl⟩
  rw [← hb] at H0
  clear hb
  go_loopw [6, 7] (fun s6 s7 wr => ∃ (k n c : Nat) (A : Option Addr) (acc : List (List UInt8)), s7 = .int .i64 k ∧ s6 = .slice A n c ∧ k ≤ 40 ∧ Hid (LongS q z.data.toList w wr b g A n c k acc)) (fun _ s7 _ => 40 - (intOf s7).toNat)
  case atStart => exact ⟨0, 0, 0, none, [], rfl, rfl, by omega, H0⟩
  case round =>
    obtain ⟨k, n, c, A, acc, rfl, rfl, hk, HS⟩ := hrel
    by_cases hlt : k < 40
    · have hlt2 : (k : Int) < 40 := by omega
      have hle : ¬ 40 ≤ k := by omega
      obtain ⟨d0, d1, d2⟩ := HS.out.tab.2 k hlt
      have hd := drop_T k hlt
      obtain ⟨⟨x, lx, ly⟩, hr⟩ : ∃ r, rowAt k = r := ⟨_, rfl⟩
      rw [hr] at d0 d1 d2 hd
      obtain ⟨X, hX⟩ : ∃ X : ByteArray, X = ⟨lx.toArray⟩ := ⟨_, rfl⟩
      obtain ⟨Y, hY⟩ : ∃ Y : ByteArray, Y = ⟨ly.toArray⟩ := ⟨_, rfl⟩
      have hXd : X.data.toList = lx := by rw [hX]
      have hYd : Y.data.toList = ly := by rw [hY]
      rw [← hX] at d1
      rw [← hY] at d2
      have qo := of_any x q X Y z wr
      rw [hXd, hYd] at qo
      have hv := HS.out.val
      rw [hd, sel_cons] at hv
      have hpe : pOf q z.data.toList (x, lx, ly) = ((q == 0 || x == q) && (lx == z.data.toList || ly == z.data.toList)) := rfl
      rw [← hpe] at qo
      obtain ⟨B, hB⟩ : ∃ B, pOf q z.data.toList (x, lx, ly) = B := ⟨_, rfl⟩
      rw [hB] at qo hv
      have HV := Lib.hid hv; have QO := Lib.hid qo
      have HXd := Lib.hid hXd; have HX := Lib.hid hX
      clear hd hX hY hr hv qo hpe hB hYd hXd
      cases B with
      | false =>
        go_wp2_with (go_at_call 53; (with_reducible refine QO.out.mono ?_); rintro e V ⟨rfl, hb⟩; have HB := Lib.hid hb; clear hb)
        go_roundw
        case rel => exact ⟨k + 1, n, c, A, acc, by go_num, rfl, by omega, Lib.hid ⟨HS.out.own.below HB.out, below_next HS.out.bel HB.out, HS.out.tab.below HB.out, HV.out, by have := HS.out.len; omega, HS.out.gb, HS.out.wb, Nat.le_trans HS.out.bw HB.out.size⟩⟩
        case measure => simp [intOf]; omega
      | true =>
        have qi := fun V (h : RdS V A acc) => in_any A n c acc X V HS.out.own.1 (by have := HS.out.len; omega) h
        rw [HXd.out] at qi
        obtain ⟨M, hM⟩ : ∃ M, acc.contains lx = M := ⟨_, rfl⟩
        rw [hM] at qi
        have HM := Lib.hid hM; have QI := Lib.hid qi
        clear hM qi
        cases M with
        | true =>
          go_wp2_with (first
            | (go_at_call 53; (with_reducible refine QO.out.mono ?_); rintro e V ⟨rfl, hb⟩; have HB := Lib.hid hb; have e1 := cell_keep d1 hb; clear hb)
            | (go_at_call 54; (with_reducible refine (QI.out V (HS.out.own.rd.below HB.out)).mono ?_); rintro e V2 ⟨rfl, rfl⟩))
          go_roundw
          case rel => exact ⟨k + 1, n, c, A, acc, by go_num, rfl, by omega, Lib.hid ⟨HS.out.own.below HB.out, below_next HS.out.bel HB.out, HS.out.tab.below HB.out, by rw [HV.out]; unfold Fo.more; rw [HM.out]; rfl, by have := HS.out.len; omega, HS.out.gb, HS.out.wb, Nat.le_trans HS.out.bw HB.out.size⟩⟩
          case measure => simp [intOf]; omega
        | false =>
          have hn40 : n + 1 ≤ 1000000000 := by have := HS.out.len; omega
          go_wp2_with (first
            | (go_at_call 53; (with_reducible refine QO.out.mono ?_); rintro e V ⟨rfl, hb⟩; have HB := Lib.hid hb; have e1 := cell_keep d1 hb; have HO3 := Lib.hid ((HS.out.own.below hb).below (below_new V (.cells #[.string X] 9))); have HB4 := Lib.hid (((below_next HS.out.bel hb)).alloc (below_next HS.out.bel hb).size (.cells #[.string X] 9)); have HT4 := Lib.hid ((HS.out.tab.below hb).below (below_new V (.cells #[.string X] 9))); have HW4 := Lib.hid (show b ≤ (V.alloc (.cells #[.string X] 9)).heap.size from Nat.le_trans (Nat.le_trans HS.out.bw hb.size) (below_new V (.cells #[.string X] 9)).size); clear hb)
            | (go_at_call 54; (with_reducible refine (QI.out V (HS.out.own.rd.below HB.out)).mono ?_); rintro e V2 ⟨rfl, rfl⟩)
            | (at_builtin; with_reducible refine wpList_app1s _ rfl _ _ rfl b n c A acc rfl HO3.out V.heap.size lx X HX.out rfl ?_ hn40 HW4.out ?_))
          · go_simp
          · intro A' n' c' w' hn' ho hg
            have HX2 := Lib.hid (show LongS q z.data.toList w w' b g A' n' c' (k + 1) (acc ++ [lx]) from
              ⟨ho, HB4.out.grown hg HB4.out.size (fun j hj => Nat.le_trans HS.out.wb (strs_base HO3.out j hj)), HT4.out.grown hg (ne_strs HO3.out HS.out.gb), by rw [HV.out]; unfold Fo.more; rw [HM.out]; rfl, by have := HS.out.len; omega, HS.out.gb, HS.out.wb, Nat.le_trans HW4.out hg.size⟩)
            clear ho hg hn'
            go_wp2
            go_roundw
            case rel => exact ⟨k + 1, n', c', A', acc ++ [lx], by go_num, rfl, by omega, HX2⟩
            case measure => simp [intOf]; omega
    · have hge : ¬ (k : Int) < 40 := by omega
      have hv := HS.out.val
      rw [List.drop_of_length_le (by rw [T_len]; omega)] at hv
      have HV := Lib.hid hv
      clear hv
      go_wp2
      go_ret
      exact ⟨A, n, c, rfl, by rw [HV.out]; exact HS.out.own.mono HS.out.wb, HS.out.bel⟩

set_option maxRecDepth 100000 in
set_option maxHeartbeats 8000000 in
theorem sameRef_any (q : Nat) (a b : ByteArray) (w : World) : Calls Tryd.prog 32 #[.int .u8 q, .string a, .string b] w (PostB (Fo.same q a.data.toList b.data.toList) w) := by
  unfold Fo.same
  have E1 := Lib.hid (show (a.toList == b.toList) = (a.data.toList == b.data.toList) by rw [ByteArray.toList_eq, ByteArray.toList_eq])
  have ha := fun V => longsRef_any q a V
  have hb := fun V => longsRef_any q b V
  have l1 := longs_len q a.data.toList
  have l2 := longs_len q b.data.toList
  by_cases hab : (a.data.toList == b.data.toList) = true
  · have he : (a.toList == b.toList) = true := E1.out.trans hab
    rw [hab]
    clear hb ha hab l1 l2
    go_enter Tryd.func32, Tryd.ntmps32
    go_wp2
    go_ret
    exact ⟨rfl, Below.refl _ _⟩
  · have hab' : (a.data.toList == b.data.toList) = false := by simpa using hab
    have he : (a.toList == b.toList) = false := E1.out.trans hab'
    rw [hab', Bool.false_or]
    generalize Fo.longs q a.data.toList = LA at *
    generalize Fo.longs q b.data.toList = LB at *
    have hyes : ∀ i, i < LA.length → LB.contains (LA.getD i []) = true → (LA.any fun x => LB.contains x) = true := by
      intro i hi h
      rw [List.any_eq_true]
      exact ⟨LA.getD i [], by rw [List.getD_eq_getElem?_getD, List.getElem?_eq_getElem hi]; exact List.getElem_mem _, h⟩
    have hno : (∀ i, i < LA.length → LB.contains (LA.getD i []) = false) → (LA.any fun x => LB.contains x) = false := by
      intro H
      rw [Bool.eq_false_iff]
      intro hc
      obtain ⟨x, hx, h⟩ := List.any_eq_true.1 hc
      obtain ⟨i, hi, rfl⟩ := List.getElem_of_mem hx
      have := H i hi
      rw [List.getD_eq_getElem?_getD, List.getElem?_eq_getElem hi] at this
      simp only [Option.getD_some] at this
      rw [this] at h; cases h
    generalize (LA.any fun x => LB.contains x) = D at *
    have HY := Lib.hid hyes; have HNo := Lib.hid hno
    have HA := Lib.hid ha; have HB := Lib.hid hb; have L1 := Lib.hid l1; have L2 := Lib.hid l2
    clear ha hb hab hab' l1 l2 hyes hno
    go_enter Tryd.func32, Tryd.ntmps32
    go_wp2_with (first
      | (go_at_call 30; (with_reducible refine (HA.out w).mono ?_); rintro e w1 ⟨A1, n1, c1, rfl, h, hb⟩; have S1 := Lib.hid h; have B1 := Lib.hid hb; clear h hb)
      | (go_at_call 30; (with_reducible refine (HB.out w1).mono ?_); rintro e w2 ⟨A2, n2, c2, rfl, h, hb⟩; have S2 := Lib.hid h; have S1b := Lib.hid (S1.out.below hb); have B2 := Lib.hid (below_next B1.out hb); clear h hb))
    have hn1 : n1 ≤ 40 := by rw [← S1b.out.len]; exact L1.out
    have hn2 : n2 ≤ 1000000000 := S2.out.le L2.out
    go_loopw [9] (fun s9 wr => wr = w2 ∧ ∃ i : Nat, s9 = .int .i64 i ∧ i ≤ n1 ∧ Hid (∀ j, j < i → LB.contains (LA.getD j []) = false)) (fun s9 _ => n1 - (intOf s9).toNat)
    case atStart => exact ⟨rfl, 0, rfl, by omega, Lib.hid (fun j h => by omega)⟩
    case round =>
      obtain ⟨rfl, i, rfl, hi, HS⟩ := hrel
      by_cases hlt : i < n1
      · have hlt2 : (i : Int) < n1 := by omega
        have hle : ¬ n1 ≤ i := by omega
        have hil : i < LA.length := by rw [S1b.out.len]; exact hlt
        obtain ⟨bk, off, hA, hb0, hc0⟩ := S1b.out.rd (by omega)
        subst hA
        have hcell := hc0 i hil
        obtain ⟨Z, hZ⟩ : ∃ Z : ByteArray, Z = ⟨(LA.getD i []).toArray⟩ := ⟨_, rfl⟩
        have hZd : Z.data.toList = LA.getD i [] := by rw [hZ]
        rw [← hZ] at hcell
        have qi := in_any A2 n2 c2 LB Z wr S2.out.len hn2 S2.out.rd
        rw [hZd] at qi
        cases hM : LB.contains (LA.getD i []) with
        | true =>
          rw [hM] at qi
          have hD := HY.out i hil hM
          have HD := Lib.hid hD; have QI := Lib.hid qi
          clear hD qi hM hZ hZd hc0 hb0 hil
          go_wp2_with (go_at_call 54; (with_reducible refine QI.out.mono ?_); rintro e V2 ⟨rfl, rfl⟩)
          go_ret
          exact ⟨ret_bool HD.out.symm, B2.out⟩
        | false =>
          rw [hM] at qi
          have QI := Lib.hid qi
          have HM := Lib.hid hM
          clear qi hM hZ hZd hc0 hb0 hil
          go_wp2_with (go_at_call 54; (with_reducible refine QI.out.mono ?_); rintro e V2 ⟨rfl, rfl⟩)
          go_roundw
          case rel =>
            refine ⟨trivial, i + 1, by go_num, by omega, Lib.hid (fun j hj => ?_)⟩
            rcases Nat.lt_or_ge j i with h | h
            · exact HS.out j h
            · obtain rfl : j = i := by omega
              exact HM.out
          case measure => simp [intOf]; omega
      · have hge : ¬ (i : Int) < n1 := by omega
        have hD := HNo.out (fun j hj => HS.out j (by rw [S1b.out.len] at hj; omega))
        have HD := Lib.hid hD
        clear hD
        go_wp2
        go_ret
        exact ⟨ret_bool HD.out.symm, B2.out⟩
end Go.Proofs.YtoenaehkhdcdmaaDoor
