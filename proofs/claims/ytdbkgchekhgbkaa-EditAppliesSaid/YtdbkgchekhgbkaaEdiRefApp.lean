/-
  The reference's Apply.
-/
import Derived.Test.YtdbkgchekhgbkaaEdiApply
import Derived.Deep.AppendLies
import Derived.Deep.RegionHeld3
namespace Go.Proofs.Ytdbkgchekhgbkaa
open Go.RowKit Go.Shelf
set_option linter.unusedVariables false
set_option linter.unusedSimpArgs false

theorem wpList_app1U {ops : Array Oper} {rest : List Oper} {o : Oper} {a : Act} {Q : Exit → Act → World → Prop} (w : World) (hg : o.guard = none) (s x : Operand)
    (hop : o.op = .call { callee := .builtin .append, args := #[s, x], argTypes := #[50, 50] }) (base n c : Nat) (A : Option Addr) (l : List UInt8) (hv : a.eval s = .slice A n c)
    (hown : OwnU base w A n c l) (g : Nat) (p : UInt8) (hx : a.eval x = .slice (some ⟨g, 0, none⟩) 1 1) (hc : w.cell? ⟨g, 0, none⟩ = some (.int .u8 p.toNat)) (hl : n + 1 ≤ 1000000000) (hb : base ≤ w.heap.size)
    (hK : ∀ A' n' c' w', n' = n + 1 → OwnU base w' A' n' c' (l ++ [p]) → w.grownBy w' (Value.slice A n c).ownBlock → wpList Try.prog ops Q rest (a.put o.dst (.slice A' n' c')) w') :
    wpList Try.prog ops Q (o :: rest) a w := by
  obtain ⟨i0, hi, hz0, hz1, hz2⟩ := info_parts infoU8
  refine wpList_append_own _ hg _ _ 50 hop base 5 i0 (.int .u8 0) 1 1 Try.underlying50 hi hz0 hz1 hz2 rfl (by decide) _ _ _ hv hown.2 ⟨g, 0, none⟩ 1 1 [.int .u8 p.toNat] hx rfl ?_ ?_ ?_ ?_ hb ?_
  · intro j u hj
    match j, hj with
    | 0, hj => simp at hj; subst hj; simpa [Addr.add] using hc
  · intro u hu; simp at hu; subst hu; rfl
  · unfold maxLen; omega
  · omega
  · intro v' w' h1 h2 _
    have hl1 := hown.1
    rcases h1.2 with ⟨rfl, h4⟩ | ⟨g', cap, cur, rfl, h5, h6, h7⟩
    · omega
    · exact hK _ _ cap w' rfl ⟨by simp [hl1], by rw [Lib.byteCells_append]; exact h1⟩ h2
theorem step_app2U {ops : Array Oper} {o : Oper} {a : Act} {K : Act → World → Prop} {Q : Exit → Act → World → Prop} {E : Prop} (w : World) (hgd : o.guard = none) (s x : Operand)
    (hop : o.op = .call { callee := .builtin .append, args := #[s, x], argTypes := #[50, 50] }) (base n c : Nat) (A : Option Addr) (l : List UInt8) (hv : a.eval s = .slice A n c) (ho : OwnU base w A n c l) (y z : UInt8)
    (hx : a.eval x = .slice (some ⟨w.heap.size, 0, none⟩) 2 2) (hl : n ≤ 100000) (hb : base ≤ w.heap.size)
    (hK : ∀ g cap w', OwnU base w' (some ⟨g, 0, none⟩) (n + 2) cap (l ++ [y, z]) → Below base w w' → K (a.put o.dst (.slice (some ⟨g, 0, none⟩) (n + 2) cap)) w') :
    if Region.wanted o (yielded ops a.tmps) = true then Oper.wp Try.prog o a (w.alloc (.cells #[.int .u8 y.toNat, .int .u8 z.toNat] 5)) K Q else E := by
  obtain ⟨i0, hi, hz0, hz1, hz2⟩ := info_parts infoU8
  refine step_append_lies _ hgd _ _ 50 hop base 5 i0 (.int .u8 0) 1 1 Try.underlying50 hi hz0 hz1 hz2 rfl (by decide) _ _ _ hv (World.ownsRow.alloc ho.2 _) ⟨w.heap.size, 0, none⟩ 2 2 [.int .u8 y.toNat, .int .u8 z.toNat] hx rfl ?_ ?_ (by omega) ?_ ?_ ?_ (w.heap.size + 1) (by simp) ?_
  · intro j u hj
    have hn := heap_alloc_new w (.cells #[.int .u8 y.toNat, .int .u8 z.toNat] 5)
    match j, hj with
    | 0, hj => simp at hj; subst hj; exact cell_of_row _ _ 0 _ _ _ hn
    | 1, hj => simp at hj; subst hj; exact cell_of_row _ _ 1 _ _ _ hn
  · intro u hu; simp at hu; rcases hu with rfl | rfl <;> rfl
  · unfold maxLen; omega
  · omega
  · simp; omega
  · intro gg cap w' g1 g2 _ _
    refine hK gg cap w' ⟨by simp [ho.1], by rw [Lib.byteCells_append]; exact g1⟩ ?_
    exact ((Below.refl base w).alloc hb _).grown g2 (by simp; omega) (fun k hk => (ho.2.lt k hk).1)
section
variable (x z y : UInt8) (t : List UInt8)
theorem ef5 (s : List UInt8) : Ed.eff (5, y.toNat) s = some (s, [y]) := by simp [Ed.eff]
theorem ef_nil {k : Nat} (n : Nat) (h : k ≠ 5) : Ed.eff (k, n) [] = none := by simp [Ed.eff, h]
theorem ef2n (h : x.toNat = y.toNat) : Ed.eff (2, y.toNat) (x :: t) = none := by simp [Ed.eff, h]
theorem ef2y (h : x.toNat ≠ y.toNat) : Ed.eff (2, y.toNat) (x :: t) = some (t, [y]) := by simp [Ed.eff, h]
theorem ef1 {n : Nat} (h : n = 0) : Ed.eff (1, n) (x :: t) = some (t, [x]) := by simp [Ed.eff, h]
theorem ef4 {n : Nat} (h : n = 0) : Ed.eff (4, n) (x :: t) = some (t, []) := by simp [Ed.eff, h]
theorem ef3y {n : Nat} (h : n = 0) (hx : x.toNat ≠ z.toNat) : Ed.eff (3, n) (x :: z :: t) = some (t, [z, x]) := by
  have : x ≠ z := fun e => hx (by rw [e])
  simp [Ed.eff, h, this]
theorem ef3n {n : Nat} (h : n = 0) (hx : x.toNat = z.toNat) : Ed.eff (3, n) (x :: z :: t) = none := by
  have : x = z := UInt8.toNat_inj.1 hx
  simp [Ed.eff, h, this]
theorem ef3s {n : Nat} (h : n = 0) : Ed.eff (3, n) [x] = none := by simp [Ed.eff, h]
theorem ef_bad {k n : Nat} (h5 : k ≠ 5) (h2 : k ≠ 2) (hn : n ≠ 0) (s : List UInt8) : Ed.eff (k, n) s = none := by
  cases s <;> simp [Ed.eff, h5, h2, hn]
theorem ef_other {k n : Nat} (h : k = 0 ∨ 5 < k) (s : List UInt8) : Ed.eff (k, n) s = none := by
  have h1 : k ≠ 1 := by omega
  have h2 : k ≠ 2 := by omega
  have h3 : k ≠ 3 := by omega
  have h4 : k ≠ 4 := by omega
  have h5 : k ≠ 5 := by omega
  cases s <;> simp [Ed.eff, h1, h2, h3, h4, h5]
end
theorem tx_zero (S : ByteArray) (h : S.size = 0) : tx S = [] := by rw [size_zero S h]; rfl
theorem tx_one (S : ByteArray) (h : S.size = 1) : tx S = [S[0]] := by
  have h1 := tx_cons S (by omega)
  rw [List.drop_of_length_le (by rw [tx_len]; omega)] at h1
  exact h1
theorem tx_two (S : ByteArray) (h : 1 < S.size) : tx S = S[0] :: S[1] :: (tx S).drop 2 := by
  have h1 := tx_cons S (by omega)
  rw [tx_drop S 1 h] at h1
  exact h1
set_option maxHeartbeats 2000000 in
theorem refApply_long (A : Option Addr) (len cap : Nat) (l : List (Nat × Nat)) (s : ByteArray) (w : World) (hl : l.length = len) (h : 60 < s.size ∨ 120 < l.length) : Calls Try.prog 7 #[.string s, .slice A len cap] w (PostA l s w) := by
  unfold PostA appS appE
  rw [if_pos h, if_pos h]
  by_cases h1 : 60 < s.size
  · have i1 : decide ((60 : Int) < (s.size : Int)) = true := decide_eq_true (by omega)
    clear h
    go_enter Try.func7, Try.ntmps7
    go_wp2
    go_ret2
    exact ⟨rfl, Below.refl _ _⟩
  · have i1 : decide ((60 : Int) < (s.size : Int)) = false := decide_eq_false (by omega)
    have i2 : decide ((120 : Int) < (len : Int)) = true := decide_eq_true (by omega)
    clear h hl
    go_enter Try.func7, Try.ntmps7
    go_wp2
    go_ret2
    exact ⟨rfl, Below.refl _ _⟩
set_option maxRecDepth 100000 in
set_option maxHeartbeats 8000000 in
theorem refApply_in (A : Option Addr) (len cap : Nat) (l : List (Nat × Nat)) (s : ByteArray) (w : World) (hl : l.length = len) (hby : ∀ o, o ∈ l → o.2 < 256) (hrd : RdO w A l) (h : ¬ (60 < s.size ∨ 120 < l.length)) : Calls Try.prog 7 #[.string s, .slice A len cap] w (PostA l s w) := by
  unfold PostA
  obtain ⟨RS, hRS⟩ : ∃ x, appS l s = x := ⟨_, rfl⟩
  obtain ⟨RE, hRE⟩ : ∃ x, appE l s = x := ⟨_, rfl⟩
  have hsome := fun u ha => app_some (u := u) h ha
  have hnone := fun ha => app_none h ha
  simp only [hRS, hRE] at hsome hnone
  rw [hRS, hRE]
  have HSome := Lib.hid hsome; have HNone := Lib.hid hnone
  clear hRS hRE hsome hnone
  have i1 : decide ((60 : Int) < (s.size : Int)) = false := decide_eq_false (by omega)
  have i2 : decide ((120 : Int) < (len : Int)) = false := decide_eq_false (by omega)
  have hlen : len ≤ 120 := by omega
  have hleni : (len : Int) ≤ 120 := by omega
  have HS0 : Hid (AS l s w w none 0 0 s 0) := Lib.hid ⟨Below.refl _ _, by omega, [], OwnU.nil _ _, by simp, by omega⟩
  have HL := Lib.hid hl; have HBY := Lib.hid hby; have HRD := Lib.hid hrd
  clear h hl hby hrd
  go_enter Try.func7, Try.ntmps7
  go_wp2
  clear i1 i2
  go_loopw [0, 6, 7] (fun s0 s6 s7 wr => ∃ (i : Nat) (P : Option Addr) (n c : Nat) (S : ByteArray), s7 = .int .i64 i ∧ s6 = .slice P n c ∧ s0 = .string S ∧ i ≤ len ∧ Hid (AS l s w wr P n c S i)) (fun _ _ s7 _ => len - (intOf s7).toNat)
  case atStart => exact ⟨0, none, 0, 0, s, rfl, rfl, rfl, Nat.zero_le _, HS0⟩
  case round =>
    obtain ⟨i, P, n, c, S, rfl, rfl, rfl, hi, HS⟩ := hrel
    clear HS0
    by_cases hlt : i < len
    · have hlti : (i : Int) < (len : Int) := by omega
      obtain ⟨b, off, rfl, hbl, hcs⟩ := HRD.out (by have := HL.out; omega)
      obtain ⟨c0, c1⟩ := hcs i (by have := HL.out; omega)
      have hil : i < l.length := by have := HL.out; omega
      have hdrop : l.drop i = l[i] :: l.drop (i + 1) := List.drop_eq_getElem_cons _
      have hy := HBY.out l[i] (List.getElem_mem _)
      obtain ⟨o, ho⟩ : ∃ o, l[i] = o := ⟨_, rfl⟩
      rw [ho] at c0 c1 hdrop hy
      obtain ⟨k, y⟩ := o
      simp only at hy c0 c1
      obtain ⟨yb, rfl⟩ : ∃ yb : UInt8, yb.toNat = y := ⟨UInt8.ofNat y, by rw [UInt8.toNat_ofNat']; exact Nat.mod_eq_of_lt hy⟩
      have d0 := cell_keep c0 HS.out.bel
      have d1 := cell_keep c1 HS.out.bel
      rw [← Nat.add_assoc] at d1
      obtain ⟨hbel, hsz, u0, hu, happ, hn⟩ := HS.out
      rw [hdrop, app_step] at happ
      have HF : Hid (Ed.eff (k, yb.toNat) (tx S) = none → RS = ⟨#[]⟩ ∧ RE = 60) := Lib.hid (fun he => HNone.out (by rw [happ, he]; rfl))
      have HT : Hid (∀ r u, Ed.eff (k, yb.toNat) (tx S) = some (r, u) → Ed.app l (tx s) = (Ed.app (l.drop (i + 1)) r).map ((u0 ++ u) ++ ·)) := Lib.hid (fun r u he => by
        rw [happ, he]; simp only [Option.map_map]
        congr 1
        funext x
        simp [List.append_assoc])
      have HB := Lib.hid hbel; have HU := Lib.hid hu; have HSZ := Lib.hid hsz
      have hnn : n ≤ 100000 := by omega
      clear happ hdrop ho hy hu c0 c1 hcs hbel HS HBY HRD hsz
      by_cases hz0 : yb.toNat = 0
      · have hz : ((yb.toNat : Int) == 0) = true := by rw [beq_iff_eq]; omega
        by_cases k5 : k = 5
        · subst k5
          have HE := Lib.hid (HT.out _ _ (ef5 yb (tx S)))
          clear HF HT
          go_wp2_with (at_builtin; refine wpList_app1U _ rfl _ _ rfl w.heap.size n c P u0 rfl (HU.out.below ((below_new wr _).trans ((below_new _ _).mono (by simp)))) _ yb rfl (by go_simp) (by omega) (by have := HB.out.size; simp; omega) ?_; intro P2 n2 c2 w5 hn2 ho5 hg5; have HN2 := Lib.hid hn2; have HU5 := Lib.hid ho5; have HB5 := Lib.hid (Below.grown (HB.out.trans (((below_new wr _).trans ((below_new _ _).mono (by simp))).mono HB.out.size)) hg5 (by have := HB.out.size; simp; omega) (fun q hq => (HU.out.2.lt q hq).1)); clear hn2 ho5 hg5)
          go_roundw
          case rel =>
            refine ⟨i + 1, P2, n2, c2, S, by go_num, rfl, rfl, by omega, Lib.hid ⟨HB5.out, ?_, u0 ++ [yb], HU5.out, ?_, ?_⟩⟩
            · have := HSZ.out; first | omega | (rw [ByteArray.size_extract]; omega)
            · rw [HE.out]
            · first | omega | (have := HN2.out; omega)
          case measure => simp [intOf]; omega
        by_cases k2 : k = 2
        · subst k2
          by_cases hs : 0 < S.size
          · have hx0 := hs
            have htx := tx_cons S hs
            have hp2 : (0 : Int) < S.size := by omega
            have hp1 : (1 : Int) ≤ S.size := by omega
            have hx1 : 1 ≤ S.size := by omega
            obtain ⟨x, hx⟩ : ∃ x, S[0] = x := ⟨_, rfl⟩
            rw [hx] at htx
            by_cases he : x.toNat = yb.toNat
            · have hq : ((x.toNat : Int) != (yb.toNat : Int)) = false := by simp [he]
              have HE := Lib.hid (HF.out (by rw [htx]; exact ef2n x yb _ he))
              clear HF HT
              go_wp2_with fail
              go_region
              go_wp2
              go_ret2
              obtain ⟨e1, e2⟩ := HE.out
              refine ⟨by rw [e1, e2]; rfl, ?_⟩
              exact HB.out.trans (((below_new _ _).drew).mono HB.out.size)
            · have hq : ((x.toNat : Int) != (yb.toNat : Int)) = true := by rw [bne_iff_ne]; omega
              have HE := Lib.hid (HT.out _ _ ((by rw [htx]; exact ef2y x yb _ he : Ed.eff (2, yb.toNat) (tx S) = some ((tx S).drop 1, [yb]))))
              clear HF HT
              go_wp2_with fail
              go_region
              go_wp2_with (at_builtin; refine wpList_app1U _ rfl _ _ rfl w.heap.size n c P u0 rfl (HU.out.below (((below_new wr _).drew).trans ((below_new _ _).mono (by simp)))) _ yb rfl (by go_simp) (by omega) (by have := HB.out.size; simp; omega) ?_; intro P2 n2 c2 w5 hn2 ho5 hg5; have HN2 := Lib.hid hn2; have HU5 := Lib.hid ho5; have HB5 := Lib.hid (Below.grown (HB.out.trans ((((below_new wr _).drew).trans ((below_new _ _).mono (by simp))).mono HB.out.size)) hg5 (by have := HB.out.size; simp; omega) (fun q hq => (HU.out.2.lt q hq).1)); clear hn2 ho5 hg5)
              go_roundw
              case rel =>
                refine ⟨i + 1, P2, n2, c2, S.extract 1 S.size, by go_num, rfl, rfl, by omega, Lib.hid ⟨HB5.out, ?_, u0 ++ [yb], HU5.out, ?_, ?_⟩⟩
                · have := HSZ.out; first | omega | (rw [ByteArray.size_extract]; omega)
                · rw [HE.out]; rw [tx_extract]
                · first | omega | (have := HN2.out; omega)
              case measure => simp [intOf]; omega
          · have hs : S.size = 0 := by omega
            have htx := tx_zero S hs
            have g1 : decide ((1 : Int) ≤ (S.size : Int)) = false := decide_eq_false (by omega)
            have g2 : decide ((2 : Int) ≤ (S.size : Int)) = false := decide_eq_false (by omega)
            have HE := Lib.hid (HF.out (by rw [htx]; exact ef_nil _ (by omega)))
            clear HF HT
            go_wp2_with fail
            go_region
            go_wp2
            go_ret2
            obtain ⟨e1, e2⟩ := HE.out
            refine ⟨by rw [e1, e2]; rfl, ?_⟩
            exact HB.out.trans (((below_new _ _).drew).mono HB.out.size)
        by_cases k1 : k = 1
        · subst k1
          by_cases hs : 0 < S.size
          · have hx0 := hs
            have htx := tx_cons S hs
            have hp2 : (0 : Int) < S.size := by omega
            have hp1 : (1 : Int) ≤ S.size := by omega
            have hx1 : 1 ≤ S.size := by omega
            obtain ⟨x, hx⟩ : ∃ x, S[0] = x := ⟨_, rfl⟩
            rw [hx] at htx
            have HE := Lib.hid (HT.out _ _ ((by rw [htx]; exact ef1 x _ hz0 : Ed.eff (1, yb.toNat) (tx S) = some ((tx S).drop 1, [x]))))
            clear HF HT
            go_wp2_with (at_builtin; refine wpList_app1U _ rfl _ _ rfl w.heap.size n c P u0 rfl (HU.out.below ((below_new wr _).trans ((below_new _ _).mono (by simp)))) _ x rfl (by go_simp) (by omega) (by have := HB.out.size; simp; omega) ?_; intro P2 n2 c2 w5 hn2 ho5 hg5; have HN2 := Lib.hid hn2; have HU5 := Lib.hid ho5; have HB5 := Lib.hid (Below.grown (HB.out.trans (((below_new wr _).trans ((below_new _ _).mono (by simp))).mono HB.out.size)) hg5 (by have := HB.out.size; simp; omega) (fun q hq => (HU.out.2.lt q hq).1)); clear hn2 ho5 hg5)
            go_roundw
            case rel =>
              refine ⟨i + 1, P2, n2, c2, S.extract 1 S.size, by go_num, rfl, rfl, by omega, Lib.hid ⟨HB5.out, ?_, u0 ++ [x], HU5.out, ?_, ?_⟩⟩
              · have := HSZ.out; first | omega | (rw [ByteArray.size_extract]; omega)
              · rw [HE.out]; rw [tx_extract]
              · first | omega | (have := HN2.out; omega)
            case measure => simp [intOf]; omega
          · have hs : S.size = 0 := by omega
            have htx := tx_zero S hs
            have g1 : decide ((1 : Int) ≤ (S.size : Int)) = false := decide_eq_false (by omega)
            have g2 : decide ((2 : Int) ≤ (S.size : Int)) = false := decide_eq_false (by omega)
            have HE := Lib.hid (HF.out (by rw [htx]; exact ef_nil _ (by omega)))
            clear HF HT
            go_wp2
            go_ret2
            obtain ⟨e1, e2⟩ := HE.out
            refine ⟨by rw [e1, e2]; rfl, ?_⟩
            exact HB.out.trans ((below_new _ _).mono HB.out.size)
        by_cases k4 : k = 4
        · subst k4
          by_cases hs : 0 < S.size
          · have hx0 := hs
            have htx := tx_cons S hs
            have hp2 : (0 : Int) < S.size := by omega
            have hp1 : (1 : Int) ≤ S.size := by omega
            have hx1 : 1 ≤ S.size := by omega
            obtain ⟨x, hx⟩ : ∃ x, S[0] = x := ⟨_, rfl⟩
            rw [hx] at htx
            have HE := Lib.hid (HT.out _ _ ((by rw [htx]; exact ef4 x _ hz0 : Ed.eff (4, yb.toNat) (tx S) = some ((tx S).drop 1, []))))
            clear HF HT
            go_wp2
            go_roundw
            case rel =>
              refine ⟨i + 1, P, n, c, S.extract 1 S.size, by go_num, rfl, rfl, by omega, Lib.hid ⟨HB.out.trans ((below_new wr _).mono HB.out.size), ?_, u0 ++ [], by rw [List.append_nil]; exact HU.out.below (below_new wr _), ?_, ?_⟩⟩
              · have := HSZ.out; first | omega | (rw [ByteArray.size_extract]; omega)
              · rw [HE.out]; rw [tx_extract]
              · first | omega | (have := HN2.out; omega)
            case measure => simp [intOf]; omega
          · have hs : S.size = 0 := by omega
            have htx := tx_zero S hs
            have g1 : decide ((1 : Int) ≤ (S.size : Int)) = false := decide_eq_false (by omega)
            have g2 : decide ((2 : Int) ≤ (S.size : Int)) = false := decide_eq_false (by omega)
            have HE := Lib.hid (HF.out (by rw [htx]; exact ef_nil _ (by omega)))
            clear HF HT
            go_wp2
            go_ret2
            obtain ⟨e1, e2⟩ := HE.out
            refine ⟨by rw [e1, e2]; rfl, ?_⟩
            exact HB.out.trans ((below_new _ _).mono HB.out.size)
        by_cases k3 : k = 3
        · subst k3
          by_cases hs : 1 < S.size
          · have htx := tx_two S hs
            have hp3 : (1 : Int) < S.size := by omega
            have hp2 : (0 : Int) < S.size := by omega
            have hp4 : (2 : Int) ≤ S.size := by omega
            have hx1 : 2 ≤ S.size := by omega
            have hs0 : 0 < S.size := by omega
            obtain ⟨x, hx⟩ : ∃ x, S[0] = x := ⟨_, rfl⟩
            obtain ⟨x2, hx2⟩ : ∃ x, S[1] = x := ⟨_, rfl⟩
            rw [hx, hx2] at htx
            by_cases he : x.toNat = x2.toNat
            · have hq : ((x.toNat : Int) != (x2.toNat : Int)) = false := by simp [he]
              have HE := Lib.hid (HF.out (by rw [htx]; exact ef3n x x2 _ hz0 he))
              clear HF HT
              go_wp2_with fail
              go_region
              go_wp2
              go_ret2
              obtain ⟨e1, e2⟩ := HE.out
              refine ⟨by rw [e1, e2]; rfl, ?_⟩
              exact HB.out.trans (((below_new _ _).drew).mono HB.out.size)
            · have hq : ((x.toNat : Int) != (x2.toNat : Int)) = true := by rw [bne_iff_ne]; omega
              have HE := Lib.hid (HT.out _ _ ((by rw [htx]; exact ef3y x x2 _ hz0 he : Ed.eff (3, yb.toNat) (tx S) = some ((tx S).drop 2, [x2, x]))))
              clear HF HT
              go_wp2_with fail
              go_region
              go_wp2_with fail
              obtain ⟨X, hX⟩ : ∃ X, (wr.alloc (.cells #[.int .u8 3, .int .u8 0] 55)).drew = X := ⟨_, rfl⟩
              rw [hX]
              have hbX : Below wr.heap.size wr X.drew := by rw [← hX]; exact ((below_new wr _).drew).drew
              have HO := Lib.hid (HU.out.below hbX)
              have HBd := Lib.hid (show Below w.heap.size w X.drew from HB.out.trans (hbX.mono HB.out.size))
              clear hX hbX
              go_region_held3 (fun V => True) (first | trivial)
                (first | (refine step_app2U _ rfl _ _ (by rfl) w.heap.size n c P _ (by rfl) HO.out x2 x (by rfl) hnn HBd.out.size ?_; intro gg cp w4 ht hb4; have HT4 := Lib.hid ht; have BX2 := Lib.hid hb4; clear ht hb4))
              go_wp2
              all_goals
                go_roundw
                case rel =>
                  refine ⟨i + 1, _, _, _, S.extract 2 S.size, by go_num, rfl, rfl, by omega, Lib.hid ⟨HBd.out.trans BX2.out, ?_, u0 ++ [x2, x], HT4.out, ?_, ?_⟩⟩
                  · have := HSZ.out; first | omega | (rw [ByteArray.size_extract]; omega)
                  · rw [HE.out]; rw [tx_extract]
                  · first | omega | (have := HN2.out; omega)
                case measure => simp [intOf]; omega
          · have g2 : decide ((2 : Int) ≤ (S.size : Int)) = false := decide_eq_false (by omega)
            have he : Ed.eff (3, yb.toNat) (tx S) = none := by
              by_cases h0 : S.size = 0
              · rw [tx_zero S h0]; exact ef_nil _ (by omega)
              · rw [tx_one S (by omega)]; exact ef3s _ hz0
            have HE := Lib.hid (HF.out (he))
            clear HF HT
            go_wp2_with fail
            go_region
            go_wp2
            go_ret2
            obtain ⟨e1, e2⟩ := HE.out
            refine ⟨by rw [e1, e2]; rfl, ?_⟩
            exact HB.out.trans (((below_new _ _).drew).mono HB.out.size)
        have k6 : k = 0 ∨ 5 < k := by omega
        have q1 : ((k : Int) == 1) = false := by rw [beq_eq_false_iff_ne]; omega
        have q2 : ((k : Int) == 2) = false := by rw [beq_eq_false_iff_ne]; omega
        have q3 : ((k : Int) == 3) = false := by rw [beq_eq_false_iff_ne]; omega
        have q4 : ((k : Int) == 4) = false := by rw [beq_eq_false_iff_ne]; omega
        have q5 : ((k : Int) == 5) = false := by rw [beq_eq_false_iff_ne]; omega
        have HE := Lib.hid (HF.out (ef_other k6 _))
        clear HF HT
        go_wp2
        go_ret2
        obtain ⟨e1, e2⟩ := HE.out
        refine ⟨by rw [e1, e2]; rfl, ?_⟩
        exact HB.out.trans ((below_new _ _).mono HB.out.size)
      · have hz : ((yb.toNat : Int) == 0) = false := by rw [beq_eq_false_iff_ne]; omega
        by_cases k5 : k = 5
        · subst k5
          have HE := Lib.hid (HT.out _ _ (ef5 yb (tx S)))
          clear HF HT
          go_wp2_with (at_builtin; refine wpList_app1U _ rfl _ _ rfl w.heap.size n c P u0 rfl (HU.out.below ((below_new wr _).trans ((below_new _ _).mono (by simp)))) _ yb rfl (by go_simp) (by omega) (by have := HB.out.size; simp; omega) ?_; intro P2 n2 c2 w5 hn2 ho5 hg5; have HN2 := Lib.hid hn2; have HU5 := Lib.hid ho5; have HB5 := Lib.hid (Below.grown (HB.out.trans (((below_new wr _).trans ((below_new _ _).mono (by simp))).mono HB.out.size)) hg5 (by have := HB.out.size; simp; omega) (fun q hq => (HU.out.2.lt q hq).1)); clear hn2 ho5 hg5)
          go_roundw
          case rel =>
            refine ⟨i + 1, P2, n2, c2, S, by go_num, rfl, rfl, by omega, Lib.hid ⟨HB5.out, ?_, u0 ++ [yb], HU5.out, ?_, ?_⟩⟩
            · have := HSZ.out; first | omega | (rw [ByteArray.size_extract]; omega)
            · rw [HE.out]
            · first | omega | (have := HN2.out; omega)
          case measure => simp [intOf]; omega
        by_cases k2 : k = 2
        · subst k2
          by_cases hs : 0 < S.size
          · have hx0 := hs
            have htx := tx_cons S hs
            have hp2 : (0 : Int) < S.size := by omega
            have hp1 : (1 : Int) ≤ S.size := by omega
            have hx1 : 1 ≤ S.size := by omega
            obtain ⟨x, hx⟩ : ∃ x, S[0] = x := ⟨_, rfl⟩
            rw [hx] at htx
            by_cases he : x.toNat = yb.toNat
            · have hq : ((x.toNat : Int) != (yb.toNat : Int)) = false := by simp [he]
              have HE := Lib.hid (HF.out (by rw [htx]; exact ef2n x yb _ he))
              clear HF HT
              go_wp2_with fail
              go_region
              go_wp2
              go_ret2
              obtain ⟨e1, e2⟩ := HE.out
              refine ⟨by rw [e1, e2]; rfl, ?_⟩
              exact HB.out.trans (((below_new _ _).drew).mono HB.out.size)
            · have hq : ((x.toNat : Int) != (yb.toNat : Int)) = true := by rw [bne_iff_ne]; omega
              have HE := Lib.hid (HT.out _ _ ((by rw [htx]; exact ef2y x yb _ he : Ed.eff (2, yb.toNat) (tx S) = some ((tx S).drop 1, [yb]))))
              clear HF HT
              go_wp2_with fail
              go_region
              go_wp2_with (at_builtin; refine wpList_app1U _ rfl _ _ rfl w.heap.size n c P u0 rfl (HU.out.below (((below_new wr _).drew).trans ((below_new _ _).mono (by simp)))) _ yb rfl (by go_simp) (by omega) (by have := HB.out.size; simp; omega) ?_; intro P2 n2 c2 w5 hn2 ho5 hg5; have HN2 := Lib.hid hn2; have HU5 := Lib.hid ho5; have HB5 := Lib.hid (Below.grown (HB.out.trans ((((below_new wr _).drew).trans ((below_new _ _).mono (by simp))).mono HB.out.size)) hg5 (by have := HB.out.size; simp; omega) (fun q hq => (HU.out.2.lt q hq).1)); clear hn2 ho5 hg5)
              go_roundw
              case rel =>
                refine ⟨i + 1, P2, n2, c2, S.extract 1 S.size, by go_num, rfl, rfl, by omega, Lib.hid ⟨HB5.out, ?_, u0 ++ [yb], HU5.out, ?_, ?_⟩⟩
                · have := HSZ.out; first | omega | (rw [ByteArray.size_extract]; omega)
                · rw [HE.out]; rw [tx_extract]
                · first | omega | (have := HN2.out; omega)
              case measure => simp [intOf]; omega
          · have hs : S.size = 0 := by omega
            have htx := tx_zero S hs
            have g1 : decide ((1 : Int) ≤ (S.size : Int)) = false := decide_eq_false (by omega)
            have g2 : decide ((2 : Int) ≤ (S.size : Int)) = false := decide_eq_false (by omega)
            have HE := Lib.hid (HF.out (by rw [htx]; exact ef_nil _ (by omega)))
            clear HF HT
            go_wp2_with fail
            go_region
            go_wp2
            go_ret2
            obtain ⟨e1, e2⟩ := HE.out
            refine ⟨by rw [e1, e2]; rfl, ?_⟩
            exact HB.out.trans (((below_new _ _).drew).mono HB.out.size)
        by_cases k1 : k = 1
        · subst k1
          have HE := Lib.hid (HF.out (ef_bad (by omega) (by omega) hz0 _))
          clear HF HT
          go_wp2
          go_ret2
          obtain ⟨e1, e2⟩ := HE.out
          refine ⟨by rw [e1, e2]; rfl, ?_⟩
          exact HB.out.trans ((below_new _ _).mono HB.out.size)
        by_cases k3 : k = 3
        · subst k3
          have HE := Lib.hid (HF.out (ef_bad (by omega) (by omega) hz0 _))
          clear HF HT
          go_wp2_with fail
          go_region
          go_wp2
          go_ret2
          obtain ⟨e1, e2⟩ := HE.out
          refine ⟨by rw [e1, e2]; rfl, ?_⟩
          exact HB.out.trans (((below_new _ _).drew).mono HB.out.size)
        by_cases k4 : k = 4
        · subst k4
          have HE := Lib.hid (HF.out (ef_bad (by omega) (by omega) hz0 _))
          clear HF HT
          go_wp2
          go_ret2
          obtain ⟨e1, e2⟩ := HE.out
          refine ⟨by rw [e1, e2]; rfl, ?_⟩
          exact HB.out.trans ((below_new _ _).mono HB.out.size)
        have k6 : k = 0 ∨ 5 < k := by omega
        have q1 : ((k : Int) == 1) = false := by rw [beq_eq_false_iff_ne]; omega
        have q2 : ((k : Int) == 2) = false := by rw [beq_eq_false_iff_ne]; omega
        have q3 : ((k : Int) == 3) = false := by rw [beq_eq_false_iff_ne]; omega
        have q4 : ((k : Int) == 4) = false := by rw [beq_eq_false_iff_ne]; omega
        have q5 : ((k : Int) == 5) = false := by rw [beq_eq_false_iff_ne]; omega
        have HE := Lib.hid (HF.out (ef_other k6 _))
        clear HF HT
        go_wp2
        go_ret2
        obtain ⟨e1, e2⟩ := HE.out
        refine ⟨by rw [e1, e2]; rfl, ?_⟩
        exact HB.out.trans ((below_new _ _).mono HB.out.size)
    · obtain rfl : i = len := by omega
      obtain ⟨hbel, hsz, u, hu, happ, hn⟩ := HS.out
      rw [List.drop_of_length_le (by have := HL.out; omega)] at happ
      have hcv := conv_ownU hu
      have HB := Lib.hid hbel
      by_cases h0 : S.size = 0
      · have hap : Ed.app l (tx s) = some u := by
          rw [happ, size_zero S h0]; show (some ([] : List UInt8)).map (u ++ ·) = some u
          simp
        have HAP := Lib.hid hap
        have g0 : decide (0 < S.size) = false := decide_eq_false (by omega)
        clear hu happ hbel hap h0
        go_wp2
        go_ret2
        obtain ⟨e1, e2⟩ := HSome.out u HAP.out
        exact ⟨by rw [e1, e2]; rfl, HB.out⟩
      · have hap : Ed.app l (tx s) = none := by
          rw [happ, tx_cons S (by omega)]; rfl
        have g0 : decide (0 < S.size) = true := decide_eq_true (by omega)
        have HAP := Lib.hid hap
        clear hu happ hbel hap hcv h0
        go_wp2
        go_ret2
        obtain ⟨e1, e2⟩ := HNone.out HAP.out
        exact ⟨by rw [e1, e2]; rfl, HB.out⟩
theorem refApply_any (A : Option Addr) (len cap : Nat) (l : List (Nat × Nat)) (s : ByteArray) (w : World) (hl : l.length = len) (hby : ∀ o, o ∈ l → o.2 < 256) (hrd : RdO w A l) : Calls Try.prog 7 #[.string s, .slice A len cap] w (PostA l s w) :=
  if h : 60 < s.size ∨ 120 < l.length then refApply_long A len cap l s w hl h else refApply_in A len cap l s w hl hby hrd h
end Go.Proofs.Ytdbkgchekhgbkaa
