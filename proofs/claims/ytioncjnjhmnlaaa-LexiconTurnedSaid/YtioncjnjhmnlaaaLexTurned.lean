/-
  The law: another order of the words, a word more.
-/
import Derived.Test.YtioncjnjhmnlaaaLexTurnP
import Derived.BigQuiet
namespace Go.Proofs.Ytioncjnjhmnlaaa
open Go.RowKit Lx Go.ChangeShapes Go.WideShapes
set_option linter.unusedVariables false
set_option linter.unusedSimpArgs false

theorem open_words2 {H : Type} {enc : TypeId × Value → H} {W : World} {sp : Nat → Bool} {hd : Bool} {A : Option Addr} {len cap : Nat} {d : DataW H} {p : List MemPlace} (h : DataW.Trod enc Try.prog W 0 sp hd 22 (.slice A len cap) d p) :
    ∃ ws : List ByteArray, ws.length = len ∧ (A = none → cap = 0) ∧ RdW W 0 A ws ∧ len ≤ maxLen := by
  obtain ⟨ws, h1, -, h3, h4⟩ := open_words h
  refine ⟨ws, h1, fun hA => ?_, h3, h4⟩
  obtain ⟨fuel, hf⟩ := h
  rcases open_strings Try.underlying22 Try.underlying9 (by kernel_rfl) hf with ⟨hcs, _⟩ | ⟨a, l', c', ss, hcs, _⟩
  · simp [Value.cells] at hcs
    exact hcs.2.2
  · simp [Value.cells] at hcs
    rw [hA] at hcs
    cases hcs.1
theorem own_none (W : World) (base : Nat) (hb : base ≤ W.heap.size) : OwnS (W.alloc (.cells #[] 9)) base (.slice (some ⟨W.heap.size, 0, none⟩) 0 0) [] :=
  World.ownsRow_lit W #[] 0 hb (by unfold maxLen; omega) rfl
theorem d_bound {c : Ed.Cst} (hc : c.ok) (s u : ByteArray) (hs : s.size ≤ 60) (hu : u.size ≤ 40) : 0 ≤ Ed.D c (tx s) (tx u) ∧ Ed.D c (tx s) (tx u) ≤ 100000 := by
  have := Ed.D_bound hc _ (tx s) (tx u) (Nat.le_refl _)
  rw [tx_len, tx_len] at this
  omega
set_option maxRecDepth 100000 in
set_option maxHeartbeats 8000000 in
theorem walk_lexiconTurned (w : World) (A : Option Addr) (len cap : Nat) (ws : List ByteArray) (hlen : ws.length = len) (hA : A = none → cap = 0) (hrd : RdW w 0 A ws) (hmx : len ≤ maxLen) (more : ByteArray) (_h3 : more.size ≤ maxLen) (s : ByteArray) (_h2 : s.size ≤ maxLen) (c : Ed.Cst) (most : Int) (wm : (Lit.int .i64 most).wf = true) :
    Calls Try.prog 5 #[.slice A len cap, .string more, .string s, .agg #[.int .i64 c.ins, .int .i64 c.del, .int .i64 c.chg, .int .i64 c.swp], .int .i64 most] w (PostB true w) := by
  subst hlen
  have HN0 : Hid (ws.length ≤ 9223372036854775807) := Lib.hid (by unfold maxLen at hmx; omega)
  have hws : A = none → ws = [] := fun h => by
    rcases Nat.eq_zero_or_pos ws.length with h0 | h0
    · exact List.eq_nil_of_length_eq_zero h0
    · obtain ⟨_, _, e, _⟩ := hrd h0
      rw [h] at e
      cases e
  have HAN : Hid (A = none → ws = [] ∧ cap = 0) := Lib.hid (fun h => ⟨hws h, hA h⟩)
  clear hws
  have LS := Lib.hid (LS7.start w c A ws hrd)
  clear hrd hmx wm _h3 _h2 hA
  by_cases f : fewOf ws
  · have HF : Hid (decide (fewOf ws) = true) := Lib.hid (decide_eq_true f)
    have HL2 : Hid (ws.length ≤ 1000000000) := Lib.hid (by have := f.2; omega)
    have hwl : ws.length ≤ 200 := f.2
    clear f
    by_cases h6 : s.size ≤ 60
    · have d1 : decide ((60 : Int) < (s.size : Int)) = false := decide_eq_false (by omega)
      by_cases hc : c.ok
      · have HC : Hid (decide c.ok = true) := Lib.hid (decide_eq_true hc)
        by_cases e0 : errNew ws = 0
        · have HE := Lib.hid e0
          have HOK := Lib.hid hc
          clear e0 hc
          go_enter Try.func5, Try.ntmps5
          go_wp2_with fail
          have L0 := LS
          obtain ⟨q0, q1, q2, q3⟩ := L0.out.cb
          go_wp2_with (first
            | (go_at_call 7; (with_reducible refine (awake_any _).mono ?_); rintro e V ⟨rfl, hb⟩; have L0 := Lib.hid (L0.out.next hb); clear q0 q1 q2 q3; obtain ⟨q0, q1, q2, q3⟩ := L0.out.cb; (first | (have LX := Lib.hid (LX.out.below hb)) | skip); (first | (have LY := Lib.hid (LY.out.below hb)) | skip); (first | (have LZ := Lib.hid (LZ.out.below hb)) | skip); (first | (have R1 := Lib.hid (R1.out.below hb)) | skip); (first | (have R2 := Lib.hid (R2.out.below hb)) | skip); (first | (have R3 := Lib.hid (R3.out.below hb)) | skip); clear hb)
            | (go_at_call 8; (with_reducible refine (few_bool HF.out HN0.out _ L0.out.rd).mono ?_); rintro e V ⟨rfl, hb⟩; have L0 := Lib.hid (L0.out.next hb); clear q0 q1 q2 q3; obtain ⟨q0, q1, q2, q3⟩ := L0.out.cb; (first | (have LX := Lib.hid (LX.out.below hb)) | skip); (first | (have LY := Lib.hid (LY.out.below hb)) | skip); (first | (have LZ := Lib.hid (LZ.out.below hb)) | skip); (first | (have R1 := Lib.hid (R1.out.below hb)) | skip); (first | (have R2 := Lib.hid (R2.out.below hb)) | skip); (first | (have R3 := Lib.hid (R3.out.below hb)) | skip); clear hb)
            | (go_at_call 9; (with_reducible refine (right_bool HC.out _).mono ?_); rintro e V ⟨rfl, hb⟩; have L0 := Lib.hid (L0.out.next hb); clear q0 q1 q2 q3; obtain ⟨q0, q1, q2, q3⟩ := L0.out.cb; (first | (have LX := Lib.hid (LX.out.below hb)) | skip); (first | (have LY := Lib.hid (LY.out.below hb)) | skip); (first | (have LZ := Lib.hid (LZ.out.below hb)) | skip); (first | (have R1 := Lib.hid (R1.out.below hb)) | skip); (first | (have R2 := Lib.hid (R2.out.below hb)) | skip); (first | (have R3 := Lib.hid (R3.out.below hb)) | skip); clear hb)
            | (go_at_call 10; (with_reducible refine (new_yes HE.out HL2.out _ L0.out.rd).mono ?_); rintro e V ⟨x, b, rfl, hx, hb⟩; have L0 := Lib.hid (L0.out.next hb); clear q0 q1 q2 q3; obtain ⟨q0, q1, q2, q3⟩ := L0.out.cb; (first | (have LX := Lib.hid (LX.out.below hb)) | skip); (first | (have LY := Lib.hid (LY.out.below hb)) | skip); (first | (have LZ := Lib.hid (LZ.out.below hb)) | skip); (first | (have R1 := Lib.hid (R1.out.below hb)) | skip); (first | (have R2 := Lib.hid (R2.out.below hb)) | skip); (first | (have R3 := Lib.hid (R3.out.below hb)) | skip); have LX := Lib.hid hx; clear hx; clear hb))
          obtain ⟨V0, hV0⟩ : ∃ V0, V0 = V := ⟨_, rfl⟩
          rw [← hV0] at LX L0 q0 q1 q2 q3 ⊢
          have LX0 := LX; have L00 := L0
          clear LX L0 q0 q1 q2 q3 hV0
          go_loopw [14, 13] (fun j14 j13 wr => ∃ (k i : Nat) (z : Int) (A2 : Option Addr) (n2 c2 : Nat), k + i = ws.length ∧ z = (i : Int) - 1 ∧ j14 = .int .i64 z ∧ j13 = .slice A2 n2 c2 ∧ Hid (OwnS wr V0.heap.size (.slice A2 n2 c2) (ws.reverse.take k)) ∧ Hid (Below V0.heap.size V0 wr)) (fun j14 _ _ => (intOf j14 + 1).toNat)
          case atStart => exact ⟨0, ws.length, _, none, 0, 0, by omega, rfl, rfl, rfl, Lib.hid (OwnS.nil _ _), Lib.hid (Below.refl _ _)⟩
          case round =>
            obtain ⟨k, i, z, A2, n2, c2, hki, hz, rfl, rfl, OS, BW⟩ := hrel
            cases i with
            | succ j =>
              obtain rfl : z = (j : Int) := by omega
              clear hz
              have i1 : decide ((0 : Int) ≤ (j : Int)) = true := decide_eq_true (by omega)
              obtain ⟨b0, off, eA, -, hbl, hc⟩ := (L00.out.rd.below BW.out) (by omega)
              have hci := hc j (by omega)
              have htk : ws.reverse.take (k + 1) = ws.reverse.take k ++ [ws.getD j ByteArray.empty] := by
                have h := rev_at ws k (by omega)
                rw [show ws.length - 1 - k = j by omega] at h
                rw [← h, List.take_succ_eq_append_getElem (by simp; omega), List.getD_eq_getElem?_getD, List.getElem?_eq_getElem (by simp; omega), Option.getD_some]
              generalize ws.getD j ByteArray.empty = u at hci htk
              have HTK := Lib.hid htk
              have hql : (ws.reverse.take k).length ≤ 1000000 := by rw [List.length_take]; omega
              subst eA
              clear hc htk
              go_wp2_with (at_builtin; refine wpList_app1S _ rfl _ _ rfl V0.heap.size _ (ws.reverse.take k) rfl (OS.out.below (below_new _ _)) u _ rfl (by go_simp) hql (by have := BW.out.size; simp; omega) ?_; intro A9 n9 k9 w9 ho9 hg9; have HO9 := Lib.hid ho9; have HB9 := Lib.hid (Below.grown (BW.out.trans ((below_new _ _).mono BW.out.size)) hg9 (by have := BW.out.size; simp; omega) (fun k e => row_at OS.out k e)); clear ho9 hg9)
              go_roundw
              case rel => exact ⟨k + 1, j, (j : Int) - 1, A9, n9, k9, by omega, rfl, by go_num, rfl, Lib.hid (by rw [HTK.out]; exact HO9.out), HB9⟩
              case measure => simp [intOf] <;> omega
            | zero =>
              obtain rfl : z = -1 := by omega
              have htk : ws.reverse.take k = ws.reverse := List.take_of_length_le (by rw [List.length_reverse]; omega)
              rw [htk] at OS
              obtain ⟨A3, c3, e3, rb⟩ := OS.out.shape
              cases e3
              have RB := Lib.hid rb
              have L0 := Lib.hid (L00.out.next BW.out)
              have LX := Lib.hid (LX0.out.below BW.out)
              have HEB := Lib.hid (err_rev ws (by omega) HE.out)
              have HLB : Hid (ws.reverse.length ≤ 1000000000) := Lib.hid (by rw [List.length_reverse]; omega)
              obtain ⟨q0, q1, q2, q3⟩ := L0.out.cb
              have nb := fun (AA : Option Addr) (cc : Nat) V h => new_yes (ws := ws.reverse) (A := AA) (c := cc) HEB.out HLB.out V h
              simp only [List.length_reverse] at nb
              have NB := Lib.hid nb
              clear htk rb hz L00 LX0 nb
              go_wp2_with (first
                | (go_at_call 10; (with_reducible refine (NB.out _ _ _ RB.out).mono ?_); rintro e V ⟨y, b2, rfl, hy, hb⟩; have L0 := Lib.hid (L0.out.next hb); clear q0 q1 q2 q3; obtain ⟨q0, q1, q2, q3⟩ := L0.out.cb; (first | (have LX := Lib.hid (LX.out.below hb)) | skip); (first | (have LY := Lib.hid (LY.out.below hb)) | skip); (first | (have LZ := Lib.hid (LZ.out.below hb)) | skip); (first | (have R1 := Lib.hid (R1.out.below hb)) | skip); (first | (have R2 := Lib.hid (R2.out.below hb)) | skip); (first | (have R3 := Lib.hid (R3.out.below hb)) | skip); have LY := Lib.hid hy; clear hy; clear hb)
                | (go_at_call 11; (with_reducible refine (near_two most LX.out HOK.out h6).mono ?_); rintro e V ⟨A1, n1, k1, rfl, hr, hb⟩; have L0 := Lib.hid (L0.out.next hb); clear q0 q1 q2 q3; obtain ⟨q0, q1, q2, q3⟩ := L0.out.cb; (first | (have LX := Lib.hid (LX.out.below hb)) | skip); (first | (have LY := Lib.hid (LY.out.below hb)) | skip); (first | (have LZ := Lib.hid (LZ.out.below hb)) | skip); (first | (have R1 := Lib.hid (R1.out.below hb)) | skip); (first | (have R2 := Lib.hid (R2.out.below hb)) | skip); (first | (have R3 := Lib.hid (R3.out.below hb)) | skip); have R1 := Lib.hid hr; clear hr; clear hb)
                | (go_at_call 11; (with_reducible refine (near_two most LY.out HOK.out h6).mono ?_); rintro e V ⟨A4, n4, k4, rfl, hr, hb⟩; have L0 := Lib.hid (L0.out.next hb); clear q0 q1 q2 q3; obtain ⟨q0, q1, q2, q3⟩ := L0.out.cb; (first | (have LX := Lib.hid (LX.out.below hb)) | skip); (first | (have LY := Lib.hid (LY.out.below hb)) | skip); (first | (have LZ := Lib.hid (LZ.out.below hb)) | skip); (first | (have R1 := Lib.hid (R1.out.below hb)) | skip); (first | (have R2 := Lib.hid (R2.out.below hb)) | skip); (first | (have R3 := Lib.hid (R3.out.below hb)) | skip); have R2 := Lib.hid hr; clear hr; clear hb)
                | (at_make; refine wpList_make_row _ rfl _ _ rfl ws.length rfl rfl (by omega) ?_; intro w7 hr7 hb7 hs7; have RI := Lib.hid hr7; have HB7 := Lib.hid hb7; have HS7 := Lib.hid hs7; clear hr7 hb7 hs7))
              obtain ⟨R, hR⟩ : ∃ R, V.heap.size = R := ⟨_, rfl⟩
              have ri := RI.out; have hb7 := HB7.out; have hs7 := HS7.out
              rw [hR] at ri hb7 hs7 ⊢
              have RI := Lib.hid ri; have HB7 := Lib.hid hb7; have HRV := Lib.hid hR
              have hn1 : n1 ≤ 200 := by have := R1.out.1; have := near_len c ws s most; omega
              have hwd : Wds ws := by obtain ⟨_, _, _, _, _, _, _, _, _, _, h5⟩ := LX.out; exact h5
              have HWD := Lib.hid hwd
              clear ri hb7 hs7 hR HS7 hwd
              go_loopw [21] (fun j21 wr => ∃ (k : Nat) (g : Nat → Int), k ≤ n1 ∧ j21 = .int .i64 (k : Int) ∧ Hid (RowI wr R ws.length g) ∧ Hid (∀ j (h : j < k) (h2 : j < (nearOf c ws s most).length) (i : Nat), ((nearOf c ws s most)[j]).1 = (i : Int) → g i = ((nearOf c ws s most)[j]).2 + 1) ∧ Hid (Below R V wr)) (fun j21 _ => n1 - (intOf j21).toNat)
              case atStart => exact ⟨0, _, Nat.zero_le _, rfl, RI, Lib.hid (fun j h => by omega), HB7⟩
              case round =>
                obtain ⟨k, g, hk, rfl, RG, HG, HBR⟩ := hrel
                have BV := Lib.hid (show Below V.heap.size V wr by rw [HRV.out]; exact HBR.out)
                clear RI HB7
                by_cases hkt : k < n1
                · have i1 : decide ((k : Int) < (n1 : Int)) = true := decide_eq_true (by omega)
                  have hkl : k < (nearOf c ws s most).length := by have := R1.out.1; omega
                  obtain ⟨b2, off, eA, hbl, hcl⟩ := (R1.out.below BV.out).2.2.2.1 (by omega)
                  obtain ⟨z0, z1⟩ := hcl k hkl
                  obtain ⟨i, hi, hdm, hey⟩ := mem_near c ws s most (List.getElem_mem hkl)
                  have hco := fun j h2 ii h => cost_near c ws s most j h2 ii h
                  have hub := d_bound HOK.out s (ws.getD i ByteArray.empty) h6 (by
                    have := (HWD.out.size (tx (ws.getD i ByteArray.empty)) (List.mem_of_getElem? (txs_at ws i hi))).2
                    rwa [tx_len] at this)
                  have e1 : ((nearOf c ws s most)[k]).1 = (i : Int) := by rw [hey]
                  have e2 := hco k hkl i e1
                  rw [e1] at z0
                  rw [e2] at z1
                  have HCO := Lib.hid (fun j h2 h => hco j h2 i h)
                  have HE1 := Lib.hid e1; have HE2 := Lib.hid e2
                  clear hcl hey hco hdm e1 e2
                  generalize Ed.D c (tx s) (tx (ws.getD i ByteArray.empty)) = d at z1 hub HCO HE2
                  have rc := RG.out.cell i hi
                  have rf := RG.out.frozen i
                  have i3 : (i : Int) < (ws.length : Int) := by omega
                  have hbR : b2 ≠ R := by
                    intro e
                    obtain ⟨b9, off9, e9, hbl9, -⟩ := R1.out.2.2.2.1 (by omega)
                    rw [eA] at e9
                    cases e9
                    have := HRV.out
                    omega
                  have hBR0 := HBR.out
                  subst eA
                  go_wp2
                  go_region
                  go_wp2
                  go_roundw
                  case rel =>
                    refine ⟨k + 1, fun x => if x = i then d + 1 else g x, by omega, by go_num, Lib.hid ?_, Lib.hid ?_, Lib.hid ?_⟩
                    · exact RowI.store (RowI.keep RG.out fun o _ ho => ho) i _ hi
                    · intro j hj h2 i' h'
                      dsimp only
                      by_cases ei : i' = i
                      · rw [if_pos ei]
                        subst ei
                        rw [HCO.out j h2 h']
                      · rw [if_neg ei]
                        refine HG.out j ?_ h2 i' h'
                        apply Classical.byContradiction
                        intro hn
                        obtain rfl : j = k := by omega
                        rw [HE1.out] at h'
                        omega
                    · exact (hBR0.drew).setCell (p := ⟨R, i, none⟩) (Nat.le_refl R) _
                  case measure => simp [intOf]; omega
                · obtain rfl : k = n1 := by omega
                  have i1 : decide ((k : Int) < (k : Int)) = false := decide_eq_false (by omega)
                  have L8 := Lib.hid (L0.out.next BV.out)
                  have hn2 : n4 = k := by rw [R2.out.1, R1.out.1]; exact len_rev c ws s most
                  obtain ⟨W0, hW0⟩ : ∃ W0, wr = W0 := ⟨_, rfl⟩
                  rw [hW0] at RG BV L8 ⊢
                  clear HBR hW0
                  go_wp2
                  go_loopw [22] (fun j22 wx => ∃ m : Nat, m ≤ k ∧ j22 = .int .i64 (m : Int) ∧ Hid (Below W0.heap.size W0 wx)) (fun j22 _ => k - (intOf j22).toNat)
                  case atStart => exact ⟨0, Nat.zero_le _, rfl, Lib.hid (Below.refl _ _)⟩
                  case round =>
                    obtain ⟨m, hm, rfl, BX⟩ := hrel
                    subst hn2
                    by_cases hmt : m < n4
                    · have i2 : decide ((m : Int) < (n4 : Int)) = true := decide_eq_true (by omega)
                      have hml : m < (nearOf c ws.reverse s most).length := by have := R2.out.1; omega
                      have bvx : Below V.heap.size V _ := BV.out.trans (BX.out.mono BV.out.size)
                      obtain ⟨b3, off3, eA, hbl, hcl⟩ := (R2.out.below bvx).2.2.2.1 (by omega)
                      obtain ⟨z0, z1⟩ := hcl m hml
                      obtain ⟨j, hj, hy1, hy2⟩ := mem_rev c ws s most (List.getElem_mem hml)
                      rw [hy1] at z0
                      obtain ⟨d, hd⟩ : ∃ d, ((nearOf c ws.reverse s most)[m]).2 = d := ⟨_, rfl⟩
                      rw [hd] at z1 hy2
                      obtain ⟨i, hi⟩ : ∃ i, ws.length - 1 - j = i := ⟨_, rfl⟩
                      rw [hi] at hy2
                      obtain ⟨t, ht, het⟩ := List.getElem_of_mem hy2
                      have hg := HG.out t (by have := R1.out.1; omega) ht i (by rw [het])
                      rw [het] at hg
                      obtain ⟨i2', hi2, -, he2⟩ := mem_near c ws s most hy2
                      have hub := d_bound HOK.out s (ws.getD i2' ByteArray.empty) h6 (by
                        have := (HWD.out.size (tx (ws.getD i2' ByteArray.empty)) (List.mem_of_getElem? (txs_at ws i2' hi2))).2
                        rwa [tx_len] at this)
                      have hdd : d = Ed.D c (tx s) (tx (ws.getD i2' ByteArray.empty)) := congrArg Prod.snd he2
                      rw [← hdd] at hub
                      have rc := RowI.cell RG.out i (by omega)
                      rw [show g i = d + 1 from hg] at rc
                      have rc2 := cell_keep rc BX.out
                      have hcast : (ws.length : Int) - 1 - (j : Int) = (i : Int) := by omega
                      have i4 : (i : Int) < (ws.length : Int) := by omega
                      have i5 : (0 : Int) ≤ (i : Int) := by omega
                      have e9 : (d + 1 != d + 1) = false := by simp
                      subst eA
                      clear hcl hy1 hy2 hd hi ht het hg he2 hdd rc bvx
                      go_wp2_with fail
                      go_quiet (fail)
                      go_wp2
                      go_roundw
                      case rel => exact ⟨m + 1, by omega, by go_num, Lib.hid (below_drewN BX.out _)⟩
                      case measure => simp [intOf]; omega
                    · obtain rfl : m = n4 := by omega
                      have i2 : decide ((m : Int) < (m : Int)) = false := decide_eq_false (by omega)
                      obtain ⟨Wc, hWc⟩ : ∃ Wc, wr = Wc := ⟨_, rfl⟩
                      rw [hWc] at BX ⊢
                      have L0 := Lib.hid (L8.out.next BX.out)
                      have bvx : Below V.heap.size V Wc := BV.out.trans (BX.out.mono BV.out.size)
                      have RR1 := Lib.hid (R1.out.below bvx)
                      have R1 := RR1
                      clear RR1 R2 bvx hWc RG HG L8 BV BX LX LY q0 q1 q2 q3 NB HEB HLB OS BW RB
                      obtain ⟨q0, q1, q2, q3⟩ := L0.out.cb
                      have LC := L0; have RC1 := R1
                      have HLZ : Hid ((ws ++ [more]).length ≤ 1000000000) := Lib.hid (by rw [List.length_append, List.length_singleton]; omega)
                      by_cases ez : errNew (ws ++ [more]) = 0
                      · have nz := fun (AA : Option Addr) (cc : Nat) V h => new_yes (ws := ws ++ [more]) (A := AA) (c := cc) ez HLZ.out V h
                        simp only [List.length_append, List.length_singleton] at nz
                        have NZ := Lib.hid nz
                        clear nz ez
                        go_wp2_with (first
                          | (at_builtin; refine wpList_appWs _ rfl _ _ rfl Wc.heap.size _ rfl (own_none Wc Wc.heap.size (Nat.le_refl _)) A cap ws rfl HAN.out (L0.out.rd.below (below_new _ _)) (by omega) (by simp) ?_; intro A5 n5 c5 w5 ho5 hg5; have HO5 := Lib.hid ho5; have hb : Below Wc.heap.size Wc w5 := (below_new Wc _).grown hg5 (by simp) (fun k e => by cases e; exact Nat.le_refl _); have L0 := Lib.hid (L0.out.next hb); clear q0 q1 q2 q3; obtain ⟨q0, q1, q2, q3⟩ := L0.out.cb; (first | (have LX := Lib.hid (LX.out.below hb)) | skip); (first | (have LY := Lib.hid (LY.out.below hb)) | skip); (first | (have LZ := Lib.hid (LZ.out.below hb)) | skip); (first | (have R1 := Lib.hid (R1.out.below hb)) | skip); (first | (have R2 := Lib.hid (R2.out.below hb)) | skip); (first | (have R3 := Lib.hid (R3.out.below hb)) | skip); have HB5 := Lib.hid hb; clear ho5 hg5; clear hb)
                          | (at_builtin; refine wpList_app1S _ rfl _ _ rfl Wc.heap.size _ ws rfl (HO5.out.below (below_new _ _)) more _ rfl (by go_simp) (by omega) (by have := HB5.out.size; simp; omega) ?_; intro A6 n6 c6 w6 ho6 hg6; have hb6 : Below Wc.heap.size Wc w6 := Below.grown (HB5.out.trans ((below_new _ _).mono HB5.out.size)) hg6 (by have := HB5.out.size; simp; omega) (fun k e => row_at HO5.out k e); obtain ⟨A7, c7, e7, r7⟩ := ho6.shape; cases e7; have RZ := Lib.hid r7; have L0 := Lib.hid (LC.out.next hb6); have R1 := Lib.hid (RC1.out.below hb6); clear q0 q1 q2 q3; obtain ⟨q0, q1, q2, q3⟩ := L0.out.cb; clear hb6 ho6 hg6 r7)
                          | (go_at_call 10; (with_reducible refine (NZ.out _ _ _ RZ.out).mono ?_); rintro e V ⟨x3, b3, rfl, hz, hb⟩; have L0 := Lib.hid (L0.out.next hb); clear q0 q1 q2 q3; obtain ⟨q0, q1, q2, q3⟩ := L0.out.cb; (first | (have LX := Lib.hid (LX.out.below hb)) | skip); (first | (have LY := Lib.hid (LY.out.below hb)) | skip); (first | (have LZ := Lib.hid (LZ.out.below hb)) | skip); (first | (have R1 := Lib.hid (R1.out.below hb)) | skip); (first | (have R2 := Lib.hid (R2.out.below hb)) | skip); (first | (have R3 := Lib.hid (R3.out.below hb)) | skip); have LZ := Lib.hid hz; clear hz; clear hb)
                          | (go_at_call 11; (with_reducible refine (near_two most LZ.out HOK.out h6).mono ?_); rintro e V ⟨A8, n8, k8, rfl, hr, hb⟩; have L0 := Lib.hid (L0.out.next hb); clear q0 q1 q2 q3; obtain ⟨q0, q1, q2, q3⟩ := L0.out.cb; (first | (have LX := Lib.hid (LX.out.below hb)) | skip); (first | (have LY := Lib.hid (LY.out.below hb)) | skip); (first | (have LZ := Lib.hid (LZ.out.below hb)) | skip); (first | (have R1 := Lib.hid (R1.out.below hb)) | skip); (first | (have R2 := Lib.hid (R2.out.below hb)) | skip); (first | (have R3 := Lib.hid (R3.out.below hb)) | skip); have R3 := Lib.hid hr; clear hr; clear hb))
                        obtain ⟨V1, hV1⟩ : ∃ V1, V = V1 := ⟨_, rfl⟩
                        rw [hV1] at R1 R3 L0 q0 q1 q2 q3 ⊢
                        try clear hV1; try clear LZ; try clear RZ; try clear LC; try clear RC1; try clear HO5; try clear HB5; try clear NZ; try clear HLZ
                        have hn8 : n8 = (nearOf c (ws ++ [more]) s most).length := R3.out.1
                        have hl8 : n8 ≤ 201 := by have := near_len c (ws ++ [more]) s most; rw [List.length_append, List.length_singleton] at this; omega
                        have HSN := Lib.hid (near_snoc c ws s most more)
                        have HN8 := Lib.hid hn8
                        obtain ⟨Lb, hLb⟩ : ∃ Lb, nearOf c (ws ++ [more]) s most = Lb := ⟨_, rfl⟩
                        rw [hLb] at R3 HSN HN8 hn8
                        have LS1 := L0
                        clear hn8 hLb L0 q0 q1 q2 q3
                        go_loopw [27, 24] (fun j27 j24 wx => ∃ (k : Nat) (A2 : Option Addr) (n2 c2 : Nat), k ≤ n8 ∧ j27 = .int .i64 (k : Int) ∧ j24 = .slice A2 n2 c2 ∧ Hid (OwnH wx V1.heap.size (.slice A2 n2 c2) ((Lb.take k).filter fun y => decide (y.1 < (ws.length : Int)))) ∧ Hid (Below V1.heap.size V1 wx)) (fun j27 _ _ => n8 - (intOf j27).toNat)
                        case atStart => exact ⟨0, none, 0, 0, Nat.zero_le _, rfl, rfl, Lib.hid (OwnH.nil _ _), Lib.hid (Below.refl _ _)⟩
                        case round =>
                          obtain ⟨k, A2, n2, c2, hk, rfl, rfl, OH, BX⟩ := hrel
                          by_cases hkt : k < n8
                          · have i3 : decide ((k : Int) < (n8 : Int)) = true := decide_eq_true (by omega)
                            have hkl : k < Lb.length := by have := HN8.out; omega
                            obtain ⟨b2, off, eA, hbl, hcl⟩ := (R3.out.below BX.out).2.2.2.1 (by have := HN8.out; omega)
                            obtain ⟨z0, z1⟩ := hcl k hkl
                            have htk : Lb.take (k + 1) = Lb.take k ++ [Lb[k]] := List.take_succ_eq_append_getElem hkl
                            obtain ⟨y1, hy1⟩ : ∃ y1, (Lb[k]).1 = y1 := ⟨_, rfl⟩
                            obtain ⟨y2, hy2⟩ : ∃ y2, (Lb[k]).2 = y2 := ⟨_, rfl⟩
                            have hyk : Lb[k] = (y1, y2) := by rw [← hy1, ← hy2]
                            rw [hy1] at z0
                            rw [hy2] at z1
                            rw [hyk] at htk
                            have HTK := Lib.hid htk
                            have hql : ((Lb.take k).filter fun y => decide (y.1 < (ws.length : Int))).length ≤ 1000000 := Nat.le_trans (List.length_filter_le _ _) (by rw [List.length_take]; omega)
                            subst eA
                            clear hcl hy1 hy2 hyk htk
                            by_cases hin : y1 < (ws.length : Int)
                            · have i4 : decide (y1 < (ws.length : Int)) = true := decide_eq_true hin
                              go_wp2_with (at_builtin; refine wpList_app1H _ rfl _ _ rfl V1.heap.size _ ((Lb.take k).filter fun y => decide (y.1 < (ws.length : Int))) rfl (OH.out.below (below_new _ _)) (y1, y2) _ rfl (by go_simp) (by go_simp) hql (by have := BX.out.size; simp; omega) ?_; intro A9 n9 k9 w9 ho9 hg9; have HO9 := Lib.hid ho9; have HB9 := Lib.hid (Below.grown (BX.out.trans ((below_new _ _).mono BX.out.size)) hg9 (by have := BX.out.size; simp; omega) (fun k e => (OH.out.at k e).1)); clear ho9 hg9)
                              go_roundw
                              case rel => exact ⟨k + 1, A9, n9, k9, by omega, by go_num, rfl, Lib.hid (by rw [HTK.out, List.filter_append, List.filter_cons_of_pos (by simpa using hin)]; exact HO9.out), HB9⟩
                              case measure => simp [intOf] <;> omega
                            · have i4 : decide (y1 < (ws.length : Int)) = false := decide_eq_false hin
                              go_wp2
                              go_roundw
                              case rel => exact ⟨k + 1, A2, n2, c2, by omega, by go_num, rfl, Lib.hid (by rw [HTK.out, List.filter_append, List.filter_cons_of_neg (by simpa using hin)]; simpa using OH.out), BX⟩
                              case measure => simp [intOf] <;> omega
                          · obtain rfl : k = n8 := by omega
                            have i3 : decide ((k : Int) < (k : Int)) = false := decide_eq_false (by omega)
                            have htk : Lb.take k = Lb := List.take_of_length_le (by have := HN8.out; omega)
                            rw [htk, HSN.out] at OH
                            obtain ⟨A3, c3, e3, h31, h32, h3⟩ := OH.out.shape
                            have hmm := R1.out.1
                            rw [← hmm] at e3
                            cases e3
                            have R4 := Lib.hid h3
                            have R1 := Lib.hid (R1.out.below BX.out)
                            have L0 := Lib.hid (LS1.out.next BX.out)
                            clear htk h3; try clear LS1; try clear OH; try clear BX
                            have HR1 := Lib.hid (R1.out.2.2.2.1)
                            have HMM := Lib.hid hmm
                            clear hmm
                            obtain ⟨q0, q1, q2, q3⟩ := L0.out.cb
                            go_wp2_with (first
                              | (go_at_call 14; (with_reducible refine (same_true HMM.out (by omega) R4.out HR1.out).mono ?_); rintro e V ⟨rfl, hb⟩; have L0 := Lib.hid (L0.out.next hb); clear q0 q1 q2 q3; obtain ⟨q0, q1, q2, q3⟩ := L0.out.cb; (first | (have LX := Lib.hid (LX.out.below hb)) | skip); (first | (have LY := Lib.hid (LY.out.below hb)) | skip); (first | (have LZ := Lib.hid (LZ.out.below hb)) | skip); (first | (have R1 := Lib.hid (R1.out.below hb)) | skip); (first | (have R2 := Lib.hid (R2.out.below hb)) | skip); (first | (have R3 := Lib.hid (R3.out.below hb)) | skip); clear hb))
                            go_ret
                            exact ⟨rfl, L0.out.bel⟩
                      · have nz := fun (AA : Option Addr) (cc : Nat) V h => new_no (ws := ws ++ [more]) (A := AA) (c := cc) ez HLZ.out V h
                        simp only [List.length_append, List.length_singleton] at nz
                        have NZ := Lib.hid nz
                        clear nz ez
                        go_wp2_with (first
                          | (at_builtin; refine wpList_appWs _ rfl _ _ rfl Wc.heap.size _ rfl (own_none Wc Wc.heap.size (Nat.le_refl _)) A cap ws rfl HAN.out (L0.out.rd.below (below_new _ _)) (by omega) (by simp) ?_; intro A5 n5 c5 w5 ho5 hg5; have HO5 := Lib.hid ho5; have hb : Below Wc.heap.size Wc w5 := (below_new Wc _).grown hg5 (by simp) (fun k e => by cases e; exact Nat.le_refl _); have L0 := Lib.hid (L0.out.next hb); clear q0 q1 q2 q3; obtain ⟨q0, q1, q2, q3⟩ := L0.out.cb; (first | (have LX := Lib.hid (LX.out.below hb)) | skip); (first | (have LY := Lib.hid (LY.out.below hb)) | skip); (first | (have LZ := Lib.hid (LZ.out.below hb)) | skip); (first | (have R1 := Lib.hid (R1.out.below hb)) | skip); (first | (have R2 := Lib.hid (R2.out.below hb)) | skip); (first | (have R3 := Lib.hid (R3.out.below hb)) | skip); have HB5 := Lib.hid hb; clear ho5 hg5; clear hb)
                          | (at_builtin; refine wpList_app1S _ rfl _ _ rfl Wc.heap.size _ ws rfl (HO5.out.below (below_new _ _)) more _ rfl (by go_simp) (by omega) (by have := HB5.out.size; simp; omega) ?_; intro A6 n6 c6 w6 ho6 hg6; have hb6 : Below Wc.heap.size Wc w6 := Below.grown (HB5.out.trans ((below_new _ _).mono HB5.out.size)) hg6 (by have := HB5.out.size; simp; omega) (fun k e => row_at HO5.out k e); obtain ⟨A7, c7, e7, r7⟩ := ho6.shape; cases e7; have RZ := Lib.hid r7; have L0 := Lib.hid (LC.out.next hb6); have R1 := Lib.hid (RC1.out.below hb6); clear q0 q1 q2 q3; obtain ⟨q0, q1, q2, q3⟩ := L0.out.cb; clear hb6 ho6 hg6 r7)
                          | (go_at_call 10; (with_reducible refine (NZ.out _ _ _ RZ.out).mono ?_); rintro e V ⟨en, hen, rfl, hb⟩; have hne : ((en : Int) != 0) = true := (by rw [bne_iff_ne]; omega); have L0 := Lib.hid (L0.out.next hb); clear q0 q1 q2 q3; obtain ⟨q0, q1, q2, q3⟩ := L0.out.cb; (first | (have LX := Lib.hid (LX.out.below hb)) | skip); (first | (have LY := Lib.hid (LY.out.below hb)) | skip); (first | (have LZ := Lib.hid (LZ.out.below hb)) | skip); (first | (have R1 := Lib.hid (R1.out.below hb)) | skip); (first | (have R2 := Lib.hid (R2.out.below hb)) | skip); (first | (have R3 := Lib.hid (R3.out.below hb)) | skip); clear hb))
                        go_ret
                        exact ⟨rfl, L0.out.bel⟩
        · have HE := Lib.hid e0
          clear e0 hc
          go_enter Try.func5, Try.ntmps5
          go_wp2_with fail
          have L0 := LS
          obtain ⟨q0, q1, q2, q3⟩ := L0.out.cb
          go_wp2_with (first
            | (go_at_call 7; (with_reducible refine (awake_any _).mono ?_); rintro e V ⟨rfl, hb⟩; have L0 := Lib.hid (L0.out.next hb); clear q0 q1 q2 q3; obtain ⟨q0, q1, q2, q3⟩ := L0.out.cb; (first | (have LX := Lib.hid (LX.out.below hb)) | skip); (first | (have LY := Lib.hid (LY.out.below hb)) | skip); (first | (have LZ := Lib.hid (LZ.out.below hb)) | skip); (first | (have R1 := Lib.hid (R1.out.below hb)) | skip); (first | (have R2 := Lib.hid (R2.out.below hb)) | skip); (first | (have R3 := Lib.hid (R3.out.below hb)) | skip); clear hb)
            | (go_at_call 8; (with_reducible refine (few_bool HF.out HN0.out _ L0.out.rd).mono ?_); rintro e V ⟨rfl, hb⟩; have L0 := Lib.hid (L0.out.next hb); clear q0 q1 q2 q3; obtain ⟨q0, q1, q2, q3⟩ := L0.out.cb; (first | (have LX := Lib.hid (LX.out.below hb)) | skip); (first | (have LY := Lib.hid (LY.out.below hb)) | skip); (first | (have LZ := Lib.hid (LZ.out.below hb)) | skip); (first | (have R1 := Lib.hid (R1.out.below hb)) | skip); (first | (have R2 := Lib.hid (R2.out.below hb)) | skip); (first | (have R3 := Lib.hid (R3.out.below hb)) | skip); clear hb)
            | (go_at_call 9; (with_reducible refine (right_bool HC.out _).mono ?_); rintro e V ⟨rfl, hb⟩; have L0 := Lib.hid (L0.out.next hb); clear q0 q1 q2 q3; obtain ⟨q0, q1, q2, q3⟩ := L0.out.cb; (first | (have LX := Lib.hid (LX.out.below hb)) | skip); (first | (have LY := Lib.hid (LY.out.below hb)) | skip); (first | (have LZ := Lib.hid (LZ.out.below hb)) | skip); (first | (have R1 := Lib.hid (R1.out.below hb)) | skip); (first | (have R2 := Lib.hid (R2.out.below hb)) | skip); (first | (have R3 := Lib.hid (R3.out.below hb)) | skip); clear hb)
            | (go_at_call 10; (with_reducible refine (new_no HE.out HL2.out _ L0.out.rd).mono ?_); rintro e V ⟨en, hen, rfl, hb⟩; have hne : ((en : Int) != 0) = true := (by rw [bne_iff_ne]; omega); have L0 := Lib.hid (L0.out.next hb); clear q0 q1 q2 q3; obtain ⟨q0, q1, q2, q3⟩ := L0.out.cb; (first | (have LX := Lib.hid (LX.out.below hb)) | skip); (first | (have LY := Lib.hid (LY.out.below hb)) | skip); (first | (have LZ := Lib.hid (LZ.out.below hb)) | skip); (first | (have R1 := Lib.hid (R1.out.below hb)) | skip); (first | (have R2 := Lib.hid (R2.out.below hb)) | skip); (first | (have R3 := Lib.hid (R3.out.below hb)) | skip); clear hb))
          go_ret
          exact ⟨rfl, L0.out.bel⟩
      · have HC : Hid (decide c.ok = false) := Lib.hid (decide_eq_false hc)
        clear hc
        go_enter Try.func5, Try.ntmps5
        go_wp2_with fail
        have L0 := LS
        obtain ⟨q0, q1, q2, q3⟩ := L0.out.cb
        go_wp2_with (first
          | (go_at_call 7; (with_reducible refine (awake_any _).mono ?_); rintro e V ⟨rfl, hb⟩; have L0 := Lib.hid (L0.out.next hb); clear q0 q1 q2 q3; obtain ⟨q0, q1, q2, q3⟩ := L0.out.cb; (first | (have LX := Lib.hid (LX.out.below hb)) | skip); (first | (have LY := Lib.hid (LY.out.below hb)) | skip); (first | (have LZ := Lib.hid (LZ.out.below hb)) | skip); (first | (have R1 := Lib.hid (R1.out.below hb)) | skip); (first | (have R2 := Lib.hid (R2.out.below hb)) | skip); (first | (have R3 := Lib.hid (R3.out.below hb)) | skip); clear hb)
          | (go_at_call 8; (with_reducible refine (few_bool HF.out HN0.out _ L0.out.rd).mono ?_); rintro e V ⟨rfl, hb⟩; have L0 := Lib.hid (L0.out.next hb); clear q0 q1 q2 q3; obtain ⟨q0, q1, q2, q3⟩ := L0.out.cb; (first | (have LX := Lib.hid (LX.out.below hb)) | skip); (first | (have LY := Lib.hid (LY.out.below hb)) | skip); (first | (have LZ := Lib.hid (LZ.out.below hb)) | skip); (first | (have R1 := Lib.hid (R1.out.below hb)) | skip); (first | (have R2 := Lib.hid (R2.out.below hb)) | skip); (first | (have R3 := Lib.hid (R3.out.below hb)) | skip); clear hb)
          | (go_at_call 9; (with_reducible refine (right_bool HC.out _).mono ?_); rintro e V ⟨rfl, hb⟩; have L0 := Lib.hid (L0.out.next hb); clear q0 q1 q2 q3; obtain ⟨q0, q1, q2, q3⟩ := L0.out.cb; (first | (have LX := Lib.hid (LX.out.below hb)) | skip); (first | (have LY := Lib.hid (LY.out.below hb)) | skip); (first | (have LZ := Lib.hid (LZ.out.below hb)) | skip); (first | (have R1 := Lib.hid (R1.out.below hb)) | skip); (first | (have R2 := Lib.hid (R2.out.below hb)) | skip); (first | (have R3 := Lib.hid (R3.out.below hb)) | skip); clear hb))
        go_ret
        exact ⟨rfl, L0.out.bel⟩
    · have d1 : decide ((60 : Int) < (s.size : Int)) = true := decide_eq_true (by omega)
      go_enter Try.func5, Try.ntmps5
      go_wp2_with fail
      have L0 := LS
      obtain ⟨q0, q1, q2, q3⟩ := L0.out.cb
      go_wp2_with (first
        | (go_at_call 7; (with_reducible refine (awake_any _).mono ?_); rintro e V ⟨rfl, hb⟩; have L0 := Lib.hid (L0.out.next hb); clear q0 q1 q2 q3; obtain ⟨q0, q1, q2, q3⟩ := L0.out.cb; (first | (have LX := Lib.hid (LX.out.below hb)) | skip); (first | (have LY := Lib.hid (LY.out.below hb)) | skip); (first | (have LZ := Lib.hid (LZ.out.below hb)) | skip); (first | (have R1 := Lib.hid (R1.out.below hb)) | skip); (first | (have R2 := Lib.hid (R2.out.below hb)) | skip); (first | (have R3 := Lib.hid (R3.out.below hb)) | skip); clear hb)
        | (go_at_call 8; (with_reducible refine (few_bool HF.out HN0.out _ L0.out.rd).mono ?_); rintro e V ⟨rfl, hb⟩; have L0 := Lib.hid (L0.out.next hb); clear q0 q1 q2 q3; obtain ⟨q0, q1, q2, q3⟩ := L0.out.cb; (first | (have LX := Lib.hid (LX.out.below hb)) | skip); (first | (have LY := Lib.hid (LY.out.below hb)) | skip); (first | (have LZ := Lib.hid (LZ.out.below hb)) | skip); (first | (have R1 := Lib.hid (R1.out.below hb)) | skip); (first | (have R2 := Lib.hid (R2.out.below hb)) | skip); (first | (have R3 := Lib.hid (R3.out.below hb)) | skip); clear hb))
      go_ret
      exact ⟨rfl, L0.out.bel⟩
  · have HF : Hid (decide (fewOf ws) = false) := Lib.hid (decide_eq_false f)
    clear f
    go_enter Try.func5, Try.ntmps5
    go_wp2_with fail
    have L0 := LS
    obtain ⟨q0, q1, q2, q3⟩ := L0.out.cb
    go_wp2_with (first
      | (go_at_call 7; (with_reducible refine (awake_any _).mono ?_); rintro e V ⟨rfl, hb⟩; have L0 := Lib.hid (L0.out.next hb); clear q0 q1 q2 q3; obtain ⟨q0, q1, q2, q3⟩ := L0.out.cb; (first | (have LX := Lib.hid (LX.out.below hb)) | skip); (first | (have LY := Lib.hid (LY.out.below hb)) | skip); (first | (have LZ := Lib.hid (LZ.out.below hb)) | skip); (first | (have R1 := Lib.hid (R1.out.below hb)) | skip); (first | (have R2 := Lib.hid (R2.out.below hb)) | skip); (first | (have R3 := Lib.hid (R3.out.below hb)) | skip); clear hb)
      | (go_at_call 8; (with_reducible refine (few_bool HF.out HN0.out _ L0.out.rd).mono ?_); rintro e V ⟨rfl, hb⟩; have L0 := Lib.hid (L0.out.next hb); clear q0 q1 q2 q3; obtain ⟨q0, q1, q2, q3⟩ := L0.out.cb; (first | (have LX := Lib.hid (LX.out.below hb)) | skip); (first | (have LY := Lib.hid (LY.out.below hb)) | skip); (first | (have LZ := Lib.hid (LZ.out.below hb)) | skip); (first | (have R1 := Lib.hid (R1.out.below hb)) | skip); (first | (have R2 := Lib.hid (R2.out.below hb)) | skip); (first | (have R3 := Lib.hid (R3.out.below hb)) | skip); clear hb))
    go_ret
    exact ⟨rfl, L0.out.bel⟩
end Go.Proofs.Ytioncjnjhmnlaaa
