/-
  The law: each word is found, and begins with its beginnings.
-/
import Derived.Test.YtioncjnjhmnlaaaLexFoundP
namespace Go.Proofs.Ytioncjnjhmnlaaa
open Go.RowKit Lx
open Go.Maps (Keyed string_keyed)
set_option linter.unusedVariables false
set_option linter.unusedSimpArgs false

theorem keys_put {w : World} {m n : Nat} {D : DataW Unit} {R : Value → Option (DataW Unit × List MemPlace)} (hown : w.ownsMap Try.prog 9 R m n D) {l : List Tx} (h : KeysOf D l) (u : ByteArray) (hu : u.size ≤ maxLen) (d : DataW Unit) : KeysOf (D.put (.string u.data.toList) d) (l ++ [tx u]) := by
  have hm : Maps.IsMap D := let ⟨es, e, _⟩ := hown.canon lawS; ⟨es, e⟩
  have hk : WideAt.IsKeyLit (.string u.data.toList) := lawS.key (WideMaps.keyOf_string_mk Try.underlying9 hu)
  intro x
  by_cases e : x = tx u
  · subst e
    show Maps.has (D.put (.string u.data.toList) d) (.string u.data.toList) = _
    rw [Maps.has_put_same hm hk]
    simp
  · rw [Maps.has_put_other (fun hh => e (by injection hh)), h x]
    refine decide_eq_decide.2 ?_
    simp [e]
set_option maxRecDepth 100000 in
set_option maxHeartbeats 8000000 in
theorem walk_lexiconFound (w : World) (A : Option Addr) (len cap : Nat) (ws : List ByteArray) (hlen : ws.length = len) (_h : len ≤ cap) (hrd : RdW w 0 A ws) (hmx : len ≤ maxLen) (p : ByteArray) (_h2 : p.size ≤ maxLen) :
    Calls Try.prog 6 #[.slice A len cap, .string p] w (PostB true w) := by
  subst hlen
  have HN0 : Hid (ws.length ≤ 9223372036854775807) := Lib.hid (by unfold maxLen at hmx; omega)
  have RW := Lib.hid hrd
  have BL := Lib.hid (Below.refl w.heap.size w)
  clear hrd hmx _h _h2
  by_cases f : fewOf ws
  · have HF : Hid (decide (fewOf ws) = true) := Lib.hid (decide_eq_true f)
    have HL2 : Hid (ws.length ≤ 1000000000) := Lib.hid (by have := f.2; omega)
    have hwl : ws.length ≤ 200 := f.2
    have HSM := Lib.hid f.1
    clear f
    by_cases h6 : p.size ≤ 70
    · have d1 : decide ((70 : Int) < (p.size : Int)) = false := decide_eq_false (by omega)
      have hmm := @run_makeMap Try.prog
      go_enter Try.func6, Try.ntmps6
      go_wp2_with (first
        | (go_at_call 7; (with_reducible refine (awake_any _).mono ?_); rintro e V ⟨rfl, hb⟩; have BL := Lib.hid (BL.out.trans (hb.mono BL.out.size)); (first | (have BW := Lib.hid (BW.out.trans (hb.mono BW.out.size))) | skip); (first | (have LX := Lib.hid (LX.out.below hb)) | skip); (first | (have OW := Lib.hid (OW.out.below hb)) | skip); (first | (have OP := Lib.hid (OP.out.below hb)) | skip); clear hb)
        | (go_at_call 8; (with_reducible refine (few_bool HF.out HN0.out _ (RW.out.below BL.out)).mono ?_); rintro e V ⟨rfl, hb⟩; have BL := Lib.hid (BL.out.trans (hb.mono BL.out.size)); (first | (have BW := Lib.hid (BW.out.trans (hb.mono BW.out.size))) | skip); (first | (have LX := Lib.hid (LX.out.below hb)) | skip); (first | (have OW := Lib.hid (OW.out.below hb)) | skip); (first | (have OP := Lib.hid (OP.out.below hb)) | skip); clear hb))
      obtain ⟨B, hBe⟩ : ∃ B, V.heap.size = B := ⟨_, rfl⟩
      have hM0 := World.ownsMap_made V Try.prog 9 (plainElem (H := Unit) Try.prog 3)
      rw [hBe] at hM0 ⊢
      have HBB : Hid (w.heap.size ≤ B) := Lib.hid (by have := BL.out.size; omega)
      have HM0 := Lib.hid hM0
      have BL1 := Lib.hid (BL.out.trans ((below_new V (.map #[] 0)).mono BL.out.size))
      have hg0 : decide (¬ Good ws 0) = false := decide_eq_false (fun h => h (Good.zero ws))
      clear hM0 hBe BL
      go_loopw [7, 5] (fun j7 j5 wr => ∃ (i : Nat) (D : DataW Unit) (m : Nat), i ≤ ws.length ∧ j7 = .int .i64 (i : Int) ∧ j5 = .bool (decide (¬ Good ws i)) ∧ m ≤ i ∧ Hid (wr.ownsMap Try.prog 9 (plainElem (H := Unit) Try.prog 3) B m D) ∧ Hid (KeysOf D ((txs ws).take i)) ∧ Hid (Below w.heap.size w wr)) (fun j7 _ _ => ws.length - (intOf j7).toNat)
      case atStart => exact ⟨0, .map [], 0, Nat.zero_le _, rfl, by rw [hg0], Nat.le_refl _, HM0, Lib.hid (fun x => by simp [Maps.has]), BL1⟩
      case round =>
        obtain ⟨i, D, m, hi, rfl, rfl, hmi, hM, hK, hB⟩ := hrel
        clear HM0 BL1 hg0
        by_cases hlt : i < ws.length
        · have i1 : decide ((i : Int) < (ws.length : Int)) = true := decide_eq_true (by omega)
          obtain ⟨b, off, rfl, -, hbl, hc⟩ := (RW.out.below hB.out) (by omega)
          have hci := hc i hlt
          have hgs := Good.succ hlt
          have htk := txs_take ws i hlt
          have hsm : (ws.getD i ByteArray.empty).size ≤ 70 := HSM.out _ (by rw [List.getD_eq_getElem?_getD, List.getElem?_eq_getElem hlt]; exact List.getElem_mem hlt)
          generalize ws.getD i ByteArray.empty = u at hci hgs htk hsm
          have HGS := Lib.hid hgs; have HTK := Lib.hid htk
          have HUM : Hid (u.size ≤ maxLen) := Lib.hid (by unfold maxLen; omega)
          have htw : Maps.has D (.string u.data.toList) = decide (tx u ∈ (txs ws).take i) := hK.out (tx u)
          clear hgs htk hc
          by_cases g0 : Good ws i
          · have g1 : decide (¬ Good ws i) = false := decide_eq_false (fun h => h g0)
            rw [g1]
            by_cases h1 : u.size = 0
            · have e1 : u.toList.isEmpty = true := (str_empty u).trans (decide_eq_true h1)
              have HNB : Hid (decide (¬ Good ws (i + 1)) = true) := Lib.hid (decide_eq_true (fun h => (HGS.out.1 h).2.1 h1))
              have HTW := Lib.hid htw
              clear htw g0 g1
              go_wp2_with (first
                | (at_lookup; refine wpList_lookup_own_ok_int _ rfl _ _ 46 rfl 9 3 .i64 lawS Try.underlying46 Try.underlying3 (zeroInt _) B m D rfl hM.out _ _ rfl (WideMaps.keyOf_string_mk Try.underlying9 HUM.out) ?_; intro cv hat hwc; rw [HTW.out]; clear hat hwc)
                | (at_mapUpdate; refine wpList_mapUpdate_own (H := Unit) _ rfl _ _ _ 46 rfl 9 3 lawS Try.underlying46 _ B m D rfl hM.out (by unfold maxLen; omega) _ _ _ rfl rfl (WideMaps.keyOf_string_mk Try.underlying9 HUM.out) (.lit (.int .i64 (i : Int))) [] (plainElem_int Try.underlying3 (WalkArith.wf_i64 (by omega))) ?_; intro w1 hown1 hgrow1; have HO1 := Lib.hid hown1; have HG1 := Lib.hid hgrow1; clear hown1 hgrow1))
              go_roundw
              case rel => exact ⟨i + 1, D.put (.string u.data.toList) (.lit (.int .i64 (i : Int))), m + 1, by omega, by go_num, by rw [HNB.out], by omega, HO1, Lib.hid (by rw [HTK.out]; exact keys_put hM.out hK.out u HUM.out _), Lib.hid (hB.out.grown HG1.out hB.out.size (fun k e => by cases e; exact HBB.out))⟩
              case measure => simp [intOf]; omega
            · have e1 : u.toList.isEmpty = false := (str_empty u).trans (decide_eq_false h1)
              by_cases h2 : 40 < u.size
              · have e2 : decide ((40 : Int) < (u.size : Int)) = true := decide_eq_true (by omega)
                have HNB : Hid (decide (¬ Good ws (i + 1)) = true) := Lib.hid (decide_eq_true (fun h => absurd (HGS.out.1 h).2.2.1 (by omega)))
                have HTW := Lib.hid htw
                clear htw g0 g1
                go_wp2_with (first
                  | (at_lookup; refine wpList_lookup_own_ok_int _ rfl _ _ 46 rfl 9 3 .i64 lawS Try.underlying46 Try.underlying3 (zeroInt _) B m D rfl hM.out _ _ rfl (WideMaps.keyOf_string_mk Try.underlying9 HUM.out) ?_; intro cv hat hwc; rw [HTW.out]; clear hat hwc)
                  | (at_mapUpdate; refine wpList_mapUpdate_own (H := Unit) _ rfl _ _ _ 46 rfl 9 3 lawS Try.underlying46 _ B m D rfl hM.out (by unfold maxLen; omega) _ _ _ rfl rfl (WideMaps.keyOf_string_mk Try.underlying9 HUM.out) (.lit (.int .i64 (i : Int))) [] (plainElem_int Try.underlying3 (WalkArith.wf_i64 (by omega))) ?_; intro w1 hown1 hgrow1; have HO1 := Lib.hid hown1; have HG1 := Lib.hid hgrow1; clear hown1 hgrow1))
                go_roundw
                case rel => exact ⟨i + 1, D.put (.string u.data.toList) (.lit (.int .i64 (i : Int))), m + 1, by omega, by go_num, by rw [HNB.out], by omega, HO1, Lib.hid (by rw [HTK.out]; exact keys_put hM.out hK.out u HUM.out _), Lib.hid (hB.out.grown HG1.out hB.out.size (fun k e => by cases e; exact HBB.out))⟩
                case measure => simp [intOf]; omega
              · have e2 : decide ((40 : Int) < (u.size : Int)) = false := decide_eq_false (by omega)
                by_cases h3 : tx u ∈ (txs ws).take i
                · rw [decide_eq_true h3] at htw
                  have HNB : Hid (decide (¬ Good ws (i + 1)) = true) := Lib.hid (decide_eq_true (fun h => (HGS.out.1 h).2.2.2 h3))
                  have HTW := Lib.hid htw
                  clear htw g0 g1 h3
                  go_wp2_with (first
                    | (at_lookup; refine wpList_lookup_own_ok_int _ rfl _ _ 46 rfl 9 3 .i64 lawS Try.underlying46 Try.underlying3 (zeroInt _) B m D rfl hM.out _ _ rfl (WideMaps.keyOf_string_mk Try.underlying9 HUM.out) ?_; intro cv hat hwc; rw [HTW.out]; clear hat hwc)
                    | (at_mapUpdate; refine wpList_mapUpdate_own (H := Unit) _ rfl _ _ _ 46 rfl 9 3 lawS Try.underlying46 _ B m D rfl hM.out (by unfold maxLen; omega) _ _ _ rfl rfl (WideMaps.keyOf_string_mk Try.underlying9 HUM.out) (.lit (.int .i64 (i : Int))) [] (plainElem_int Try.underlying3 (WalkArith.wf_i64 (by omega))) ?_; intro w1 hown1 hgrow1; have HO1 := Lib.hid hown1; have HG1 := Lib.hid hgrow1; clear hown1 hgrow1))
                  go_roundw
                  case rel => exact ⟨i + 1, D.put (.string u.data.toList) (.lit (.int .i64 (i : Int))), m + 1, by omega, by go_num, by rw [HNB.out], by omega, HO1, Lib.hid (by rw [HTK.out]; exact keys_put hM.out hK.out u HUM.out _), Lib.hid (hB.out.grown HG1.out hB.out.size (fun k e => by cases e; exact HBB.out))⟩
                  case measure => simp [intOf]; omega
                · rw [decide_eq_false h3] at htw
                  have HNB : Hid (decide (¬ Good ws (i + 1)) = false) := Lib.hid (decide_eq_false (fun h => h (HGS.out.2 ⟨g0, h1, by omega, h3⟩)))
                  have HTW := Lib.hid htw
                  clear htw g0 g1 h3
                  go_wp2_with (first
                    | (at_lookup; refine wpList_lookup_own_ok_int _ rfl _ _ 46 rfl 9 3 .i64 lawS Try.underlying46 Try.underlying3 (zeroInt _) B m D rfl hM.out _ _ rfl (WideMaps.keyOf_string_mk Try.underlying9 HUM.out) ?_; intro cv hat hwc; rw [HTW.out]; clear hat hwc)
                    | (at_mapUpdate; refine wpList_mapUpdate_own (H := Unit) _ rfl _ _ _ 46 rfl 9 3 lawS Try.underlying46 _ B m D rfl hM.out (by unfold maxLen; omega) _ _ _ rfl rfl (WideMaps.keyOf_string_mk Try.underlying9 HUM.out) (.lit (.int .i64 (i : Int))) [] (plainElem_int Try.underlying3 (WalkArith.wf_i64 (by omega))) ?_; intro w1 hown1 hgrow1; have HO1 := Lib.hid hown1; have HG1 := Lib.hid hgrow1; clear hown1 hgrow1))
                  go_roundw
                  case rel => exact ⟨i + 1, D.put (.string u.data.toList) (.lit (.int .i64 (i : Int))), m + 1, by omega, by go_num, by rw [HNB.out], by omega, HO1, Lib.hid (by rw [HTK.out]; exact keys_put hM.out hK.out u HUM.out _), Lib.hid (hB.out.grown HG1.out hB.out.size (fun k e => by cases e; exact HBB.out))⟩
                  case measure => simp [intOf]; omega
          · have g1 : decide (¬ Good ws i) = true := decide_eq_true g0
            rw [g1]
            have HNB : Hid (decide (¬ Good ws (i + 1)) = true) := Lib.hid (decide_eq_true (fun h => g0 (HGS.out.1 h).1))
            have HTW := Lib.hid htw
            clear htw g0 g1
            go_wp2_with (first
              | (at_lookup; refine wpList_lookup_own_ok_int _ rfl _ _ 46 rfl 9 3 .i64 lawS Try.underlying46 Try.underlying3 (zeroInt _) B m D rfl hM.out _ _ rfl (WideMaps.keyOf_string_mk Try.underlying9 HUM.out) ?_; intro cv hat hwc; rw [HTW.out]; clear hat hwc)
              | (at_mapUpdate; refine wpList_mapUpdate_own (H := Unit) _ rfl _ _ _ 46 rfl 9 3 lawS Try.underlying46 _ B m D rfl hM.out (by unfold maxLen; omega) _ _ _ rfl rfl (WideMaps.keyOf_string_mk Try.underlying9 HUM.out) (.lit (.int .i64 (i : Int))) [] (plainElem_int Try.underlying3 (WalkArith.wf_i64 (by omega))) ?_; intro w1 hown1 hgrow1; have HO1 := Lib.hid hown1; have HG1 := Lib.hid hgrow1; clear hown1 hgrow1))
            go_roundw
            case rel => exact ⟨i + 1, D.put (.string u.data.toList) (.lit (.int .i64 (i : Int))), m + 1, by omega, by go_num, by rw [HNB.out], by omega, HO1, Lib.hid (by rw [HTK.out]; exact keys_put hM.out hK.out u HUM.out _), Lib.hid (hB.out.grown HG1.out hB.out.size (fun k e => by cases e; exact HBB.out))⟩
            case measure => simp [intOf]; omega
        · obtain rfl : i = ws.length := by omega
          have i1 : decide ((ws.length : Int) < (ws.length : Int)) = false := decide_eq_false (by omega)
          have BL := hB
          clear hB hM hK HBB
          have hge := good_err (ws := ws) (by omega)
          by_cases e0 : errNew ws = 0
          · rw [show decide (¬ Good ws ws.length) = false from decide_eq_false (fun h => h (hge.2 e0))]
            have HE := Lib.hid e0
            have hone : (txs ws).Nodup := (hge.2 e0).1 |> fun h => by rwa [show (txs ws).take ws.length = txs ws by rw [← txs_len]; exact List.take_length] at h
            have HONE := Lib.hid hone
            clear e0 hge hone
            go_wp2_with (go_at_call 10; (with_reducible refine (new_yes HE.out HL2.out _ (RW.out.below BL.out)).mono ?_); rintro e V ⟨x, b, rfl, hx, hb⟩; have BL := Lib.hid (BL.out.trans (hb.mono BL.out.size)); (first | (have BW := Lib.hid (BW.out.trans (hb.mono BW.out.size))) | skip); (first | (have LX := Lib.hid (LX.out.below hb)) | skip); (first | (have OW := Lib.hid (OW.out.below hb)) | skip); (first | (have OP := Lib.hid (OP.out.below hb)) | skip); have LX := Lib.hid hx; clear hx; clear hb)
            obtain ⟨V0, hV0⟩ : ∃ V0, V0 = V := ⟨_, rfl⟩
            rw [← hV0] at LX BL ⊢
            have BV2 := BL; have LX2 := LX
            clear BL LX hV0
            go_loopw [13, 12] (fun j13 j12 wr => ∃ (i : Nat) (A2 : Option Addr) (n2 c2 : Nat), i ≤ ws.length ∧ j13 = .int .i64 (i : Int) ∧ j12 = .slice A2 n2 c2 ∧ Hid (OwnI wr V0.heap.size (.slice A2 n2 c2) (ints (preU ws (tx p) i))) ∧ Hid (Below V0.heap.size V0 wr)) (fun j13 _ _ => ws.length - (intOf j13).toNat)
            case atStart => exact ⟨0, none, 0, 0, Nat.zero_le _, rfl, rfl, Lib.hid (OwnI.nil _ _), Lib.hid (Below.refl _ _)⟩
            case round =>
              obtain ⟨i, A2, n2, c2, hi, rfl, rfl, OW, BW⟩ := hrel
              have LX := Lib.hid (LX2.out.below BW.out)
              have BL := Lib.hid (BV2.out.trans (BW.out.mono BV2.out.size))
              by_cases hlt : i < ws.length
              · have i1 : decide ((i : Int) < (ws.length : Int)) = true := decide_eq_true (by omega)
                have hwd := fun V h => word_any b x ws i hlt V h
                obtain ⟨b0, off, eA, -, hbl, hc⟩ := (RW.out) (by omega)
                have hci := hc i hlt
                have hsm : (ws.getD i ByteArray.empty).size ≤ 70 := HSM.out _ (by rw [List.getD_eq_getElem?_getD, List.getElem?_eq_getElem hlt]; exact List.getElem_mem hlt)
                have hfi := fun V h => find_any b x ws (ws.getD i ByteArray.empty) V h (by omega)
                have hfn : fnd (txs ws) (tx (ws.getD i ByteArray.empty)) = some i := fnd_of HONE.out (txs_at ws i hlt)
                have hpu := preU_succ ws (tx p) i hlt
                have hpl := preU_len ws (tx p) i
                generalize ws.getD i ByteArray.empty = u at hwd hci hsm hfi hfn hpu
                rw [hfn] at hfi
                simp only [Option.getD_some, Option.isSome_some] at hfi
                have WD := Lib.hid hwd; have FI := Lib.hid hfi
                have CI := Lib.hid (show ∀ V, Below w.heap.size w V → V.cell? ⟨b0, off + i, none⟩ = some (.string u) from fun V h => cell_keep hci h)
                have hci2 := CI.out _ BL.out
                have hun : (u.toList != u.toList) = false := by simp
                have hin : ((i : Int) != (i : Int)) = false := by simp
                have hhp := fun V => Try.strings_HasPrefix u p V
                subst eA
                by_cases hp : (tx p).isPrefixOf (tx u) = true
                · rw [hp] at hpu
                  simp only [if_true] at hpu
                  have hhp2 : ∀ V, Calls Try.prog 17 #[.string u, .string p] V fun e w' => e = .returned (.bool true) ∧ w' = V := fun V => (hhp V).mono fun e w' h => ⟨by rw [h.1, show Lib.hasPrefix u.data.toList p.data.toList = true from hp], h.2⟩
                  have HP := Lib.hid hhp2; have HPU := Lib.hid hpu
                  clear hwd hci hfi hfn hpu hhp hhp2 hp hc
                  go_wp2_with (first
                    | (go_at_call 16; (with_reducible refine (WD.out _ LX.out).mono ?_); rintro e V ⟨rfl, hb⟩; have hci3 := CI.out _ (BL.out.trans (hb.mono BL.out.size)); have BL := Lib.hid (BL.out.trans (hb.mono BL.out.size)); (first | (have BW := Lib.hid (BW.out.trans (hb.mono BW.out.size))) | skip); (first | (have LX := Lib.hid (LX.out.below hb)) | skip); (first | (have OW := Lib.hid (OW.out.below hb)) | skip); (first | (have OP := Lib.hid (OP.out.below hb)) | skip); clear hb)
                    | (go_at_call 15; (with_reducible refine (FI.out _ LX.out).mono ?_); rintro e V ⟨rfl, hb⟩; have hci3 := CI.out _ (BL.out.trans (hb.mono BL.out.size)); have BL := Lib.hid (BL.out.trans (hb.mono BL.out.size)); (first | (have BW := Lib.hid (BW.out.trans (hb.mono BW.out.size))) | skip); (first | (have LX := Lib.hid (LX.out.below hb)) | skip); (first | (have OW := Lib.hid (OW.out.below hb)) | skip); (first | (have OP := Lib.hid (OP.out.below hb)) | skip); clear hb)
                    | (go_at_call 17; (with_reducible refine (HP.out _).mono ?_); rintro e V ⟨rfl, rfl⟩)
                    | (at_builtin; refine wpList_app1I _ rfl _ _ rfl V0.heap.size _ (ints (preU ws (tx p) i)) rfl (OW.out.below (below_new _ _)) (i : Int) _ rfl (by go_simp) (by rw [ints_length]; omega) (by have := BW.out.size; simp; omega) ?_; intro A9 n9 k9 w9 ho9 hg9 hl9; have HO9 := Lib.hid ho9; have HB9 := Lib.hid (Below.grown (BW.out.trans ((below_new _ _).mono BW.out.size)) hg9 (by have := BW.out.size; simp; omega) (fun k e => (OW.out.at k e).1)); clear ho9 hg9 hl9))
                  go_roundw
                  case rel => exact ⟨i + 1, A9, n9, k9, by omega, by go_num, rfl, Lib.hid (by rw [HPU.out, ints_append]; exact HO9.out), HB9⟩
                  case measure => simp [intOf]; omega
                · have hp2 : (tx p).isPrefixOf (tx u) = false := Bool.eq_false_iff.2 hp
                  rw [hp2] at hpu
                  simp only [Bool.false_eq_true, if_false, List.append_nil] at hpu
                  have hhp2 : ∀ V, Calls Try.prog 17 #[.string u, .string p] V fun e w' => e = .returned (.bool false) ∧ w' = V := fun V => (hhp V).mono fun e w' h => ⟨by rw [h.1, show Lib.hasPrefix u.data.toList p.data.toList = false from hp2], h.2⟩
                  have HP := Lib.hid hhp2; have HPU := Lib.hid hpu
                  clear hwd hci hfi hfn hpu hhp hhp2 hp hp2 hc
                  go_wp2_with (first
                    | (go_at_call 16; (with_reducible refine (WD.out _ LX.out).mono ?_); rintro e V ⟨rfl, hb⟩; have hci3 := CI.out _ (BL.out.trans (hb.mono BL.out.size)); have BL := Lib.hid (BL.out.trans (hb.mono BL.out.size)); (first | (have BW := Lib.hid (BW.out.trans (hb.mono BW.out.size))) | skip); (first | (have LX := Lib.hid (LX.out.below hb)) | skip); (first | (have OW := Lib.hid (OW.out.below hb)) | skip); (first | (have OP := Lib.hid (OP.out.below hb)) | skip); clear hb)
                    | (go_at_call 15; (with_reducible refine (FI.out _ LX.out).mono ?_); rintro e V ⟨rfl, hb⟩; have hci3 := CI.out _ (BL.out.trans (hb.mono BL.out.size)); have BL := Lib.hid (BL.out.trans (hb.mono BL.out.size)); (first | (have BW := Lib.hid (BW.out.trans (hb.mono BW.out.size))) | skip); (first | (have LX := Lib.hid (LX.out.below hb)) | skip); (first | (have OW := Lib.hid (OW.out.below hb)) | skip); (first | (have OP := Lib.hid (OP.out.below hb)) | skip); clear hb)
                    | (go_at_call 17; (with_reducible refine (HP.out _).mono ?_); rintro e V ⟨rfl, rfl⟩))
                  go_roundw
                  case rel => exact ⟨i + 1, A2, n2, c2, by omega, by go_num, rfl, Lib.hid (by rw [HPU.out]; exact OW.out), BW⟩
                  case measure => simp [intOf]; omega
              · obtain rfl : i = ws.length := by omega
                have i1 : decide ((ws.length : Int) < (ws.length : Int)) = false := decide_eq_false (by omega)
                have hpu := preU_all ws (tx p)
                rw [hpu] at OW
                have PF := Lib.hid (fun V h => prefix_any b x ws p V h (by omega))
                have PE := Lib.hid (fun V h => prefix_any b x ws ⟨#[]⟩ V h (by decide))
                have hpn := pre_nil ws
                have HPN := Lib.hid hpn
                clear hpu hpn
                have hll : (ints (pre (txs ws) (tx p))).length ≤ 9223372036854775807 := by
                  have := pre_length (txs ws) (tx p)
                  rw [txs_len] at this
                  rw [ints_length]; omega
                obtain ⟨A6, c6, e6, g6, r6⟩ := OW.out.rd
                cases e6
                have OP := Lib.hid r6
                clear r6
                have hee : ((ws.length : Int) == (ws.length : Int)) = true := by simp
                go_wp2_with (first
                  | (go_at_call 19; (with_reducible refine (PF.out _ LX.out).mono ?_); rintro e V ⟨A7, n7, c7, rfl, ho, hb⟩; obtain ⟨A8, c8, e8, g8, r8⟩ := ho.rd; cases e8; have R7 := Lib.hid r8; clear ho; have BL := Lib.hid (BL.out.trans (hb.mono BL.out.size)); (first | (have BW := Lib.hid (BW.out.trans (hb.mono BW.out.size))) | skip); (first | (have LX := Lib.hid (LX.out.below hb)) | skip); (first | (have OW := Lib.hid (OW.out.below hb)) | skip); (first | (have OP := Lib.hid (OP.out.below hb)) | skip); clear hb)
                  | (go_at_call 18; (with_reducible refine (same_yes _ _ 0 _ _ _ _ R7.out OP.out hll).mono ?_); rintro e V ⟨rfl, hb⟩; have BL := Lib.hid (BL.out.trans (hb.mono BL.out.size)); (first | (have BW := Lib.hid (BW.out.trans (hb.mono BW.out.size))) | skip); (first | (have LX := Lib.hid (LX.out.below hb)) | skip); (first | (have OW := Lib.hid (OW.out.below hb)) | skip); (first | (have OP := Lib.hid (OP.out.below hb)) | skip); clear hb)
                  | (go_at_call 19; (with_reducible refine (PE.out _ LX.out).mono ?_); rintro e V ⟨A7, n7, c7, rfl, ho, hb⟩; obtain ⟨A8, c8, e8, g8, r8⟩ := ho.rd; cases e8; rw [ints_length, show (pre (txs ws) (tx ⟨#[]⟩)).length = ws.length from HPN.out]; clear ho; have BL := Lib.hid (BL.out.trans (hb.mono BL.out.size)); (first | (have BW := Lib.hid (BW.out.trans (hb.mono BW.out.size))) | skip); (first | (have LX := Lib.hid (LX.out.below hb)) | skip); (first | (have OW := Lib.hid (OW.out.below hb)) | skip); (first | (have OP := Lib.hid (OP.out.below hb)) | skip); clear hb))
                go_ret
                exact ⟨rfl, BL.out⟩
          · rw [show decide (¬ Good ws ws.length) = true from decide_eq_true (fun h => e0 (hge.1 h))]
            have HE := Lib.hid e0
            clear e0 hge
            go_wp2_with (go_at_call 10; (with_reducible refine (new_no HE.out HL2.out _ (RW.out.below BL.out)).mono ?_); rintro e V ⟨en, hen, rfl, hb⟩; have hne : ((en : Int) != 0) = true := (by rw [bne_iff_ne]; omega); have BL := Lib.hid (BL.out.trans (hb.mono BL.out.size)); (first | (have BW := Lib.hid (BW.out.trans (hb.mono BW.out.size))) | skip); (first | (have LX := Lib.hid (LX.out.below hb)) | skip); (first | (have OW := Lib.hid (OW.out.below hb)) | skip); (first | (have OP := Lib.hid (OP.out.below hb)) | skip); clear hb)
            go_ret
            exact ⟨rfl, BL.out⟩
    · have d1 : decide ((70 : Int) < (p.size : Int)) = true := decide_eq_true (by omega)
      go_enter Try.func6, Try.ntmps6
      go_wp2_with (first
        | (go_at_call 7; (with_reducible refine (awake_any _).mono ?_); rintro e V ⟨rfl, hb⟩; have BL := Lib.hid (BL.out.trans (hb.mono BL.out.size)); (first | (have BW := Lib.hid (BW.out.trans (hb.mono BW.out.size))) | skip); (first | (have LX := Lib.hid (LX.out.below hb)) | skip); (first | (have OW := Lib.hid (OW.out.below hb)) | skip); (first | (have OP := Lib.hid (OP.out.below hb)) | skip); clear hb)
        | (go_at_call 8; (with_reducible refine (few_bool HF.out HN0.out _ (RW.out.below BL.out)).mono ?_); rintro e V ⟨rfl, hb⟩; have BL := Lib.hid (BL.out.trans (hb.mono BL.out.size)); (first | (have BW := Lib.hid (BW.out.trans (hb.mono BW.out.size))) | skip); (first | (have LX := Lib.hid (LX.out.below hb)) | skip); (first | (have OW := Lib.hid (OW.out.below hb)) | skip); (first | (have OP := Lib.hid (OP.out.below hb)) | skip); clear hb))
      go_ret
      exact ⟨rfl, BL.out⟩
  · have HF : Hid (decide (fewOf ws) = false) := Lib.hid (decide_eq_false f)
    clear f
    go_enter Try.func6, Try.ntmps6
    go_wp2_with (first
      | (go_at_call 7; (with_reducible refine (awake_any _).mono ?_); rintro e V ⟨rfl, hb⟩; have BL := Lib.hid (BL.out.trans (hb.mono BL.out.size)); (first | (have BW := Lib.hid (BW.out.trans (hb.mono BW.out.size))) | skip); (first | (have LX := Lib.hid (LX.out.below hb)) | skip); (first | (have OW := Lib.hid (OW.out.below hb)) | skip); (first | (have OP := Lib.hid (OP.out.below hb)) | skip); clear hb)
      | (go_at_call 8; (with_reducible refine (few_bool HF.out HN0.out _ (RW.out.below BL.out)).mono ?_); rintro e V ⟨rfl, hb⟩; have BL := Lib.hid (BL.out.trans (hb.mono BL.out.size)); (first | (have BW := Lib.hid (BW.out.trans (hb.mono BW.out.size))) | skip); (first | (have LX := Lib.hid (LX.out.below hb)) | skip); (first | (have OW := Lib.hid (OW.out.below hb)) | skip); (first | (have OP := Lib.hid (OP.out.below hb)) | skip); clear hb))
    go_ret
    exact ⟨rfl, BL.out⟩
end Go.Proofs.Ytioncjnjhmnlaaa
