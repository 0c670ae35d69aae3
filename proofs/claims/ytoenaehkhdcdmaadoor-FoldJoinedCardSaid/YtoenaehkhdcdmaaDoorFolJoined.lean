/-
  The walk of FoldJoined.
-/
import Derived.Test.YtoenaehkhdcdmaaDoorFolJoin
namespace Go.Proofs.YtoenaehkhdcdmaaDoor
open Go.RowKit
set_option linter.unusedVariables false
set_option linter.unusedSimpArgs false

theorem bytes_of (l : List UInt8) : ∃ B : ByteArray, B = ⟨l.toArray⟩ ∧ B.data.toList = l ∧ B.size = l.length := ⟨_, rfl, rfl, by show Array.size _ = _; simp⟩
theorem joined_len (a b : List UInt8) : (Fo.joined a b).length ≤ a.length + b.length + 1 := by
  unfold Fo.joined; split <;> simp <;> omega
theorem words_len : ∀ (l cur : List UInt8), (Fo.wds cur l).length ≤ l.length + 1
  | [], cur => by unfold Fo.wds; split <;> simp
  | x :: l, cur => by
    have h1 := words_len l []
    have h2 := words_len l (cur ++ [x])
    unfold Fo.wds
    split
    · split <;> simp <;> omega
    · simp; omega
theorem word_len (l x : List UInt8) (h : x ∈ Fo.words l) : x.length ≤ l.length := by
  have H : ∀ (l cur : List UInt8) (x : List UInt8), x ∈ Fo.wds cur l → x.length ≤ cur.length + l.length := by
    intro l
    induction l with
    | nil =>
      intro cur x hx
      unfold Fo.wds at hx
      split at hx
      · simp at hx
      · simp at hx; subst hx; simp
    | cons y l ih =>
      intro cur x hx
      unfold Fo.wds at hx
      split at hx
      · split at hx
        · have := ih _ _ hx; simp at this ⊢; omega
        · rcases List.mem_cons.1 hx with rfl | hx
          · omega
          · have := ih _ _ hx; simp at this ⊢; omega
      · have := ih _ _ hx; simp at this ⊢; omega
  have := H l [] x h
  simpa using this


set_option maxRecDepth 100000 in
set_option maxHeartbeats 16000000 in
theorem joinedA (s t : ByteArray) (c : Nat) (w : World) (hw : Rdy w) (hs : s.size ≤ 2000) (ht : t.size ≤ 2000) (hc : c < 256) (hcc : 128 ≤ c) :
    Calls Tryd.prog 5 #[.string s, .string t, .int .u8 c] w fun e w' => e = .returned (.bool true) ∧ Below w.heap.size w w' := by
  have HA := Lib.hid (awake_any w hw)
  have HR := Lib.hid hw
  clear hw
  have h1 : ¬ 2000 < (s.size : Int) := by omega
  have h2 : ¬ 2000 < (t.size : Int) := by omega
  have ls : (Fo.fold s.data.toList).length ≤ s.size := by have := Fo.fold_len s.data.toList; simpa using this
  have lt : (Fo.fold t.data.toList).length ≤ t.size := by have := Fo.fold_len t.data.toList; simpa using this
  obtain ⟨FS, hFS, hFSd, hFSs⟩ := bytes_of (Fo.fold s.data.toList)
  obtain ⟨FT, hFT, hFTd, hFTs⟩ := bytes_of (Fo.fold t.data.toList)
  obtain ⟨WB, hWB, hWBd, hWBs⟩ := bytes_of (Fo.joined (Fo.fold s.data.toList) (Fo.fold t.data.toList))
  have hpl : Fo.Pl (Fo.joined (Fo.fold s.data.toList) (Fo.fold t.data.toList)) := Fo.joined_Pl (Fo.fold_Pl _) (Fo.fold_Pl _)
  have lw := joined_len (Fo.fold s.data.toList) (Fo.fold t.data.toList)
  have q1 := fun V (h : Rdy V) => fold_any s V h (by omega)
  have q2 := fun V (h : Rdy V) => fold_any t V h (by omega)
  have q3 := fun V => joined_any FS FT V (by omega) (by omega)
  have q4 := fun V (h : Rdy V) => fold_any (s ++ (⟨#[32]⟩ : ByteArray) ++ t) V h (by rw [ByteArray.size_append, ByteArray.size_append]; show _ + 1 + _ ≤ _; omega)
  have qw := fun V => words_any WB V (by omega)
  unfold PostStr at q1 q2 q4
  rw [← hFS] at q1
  rw [← hFT] at q2
  rw [hFSd, hFTd, ← hWB] at q3
  have e4 : Fo.fold (s ++ (⟨#[32]⟩ : ByteArray) ++ t).data.toList = Fo.joined (Fo.fold s.data.toList) (Fo.fold t.data.toList) := by
    rw [cat_data, cat_data, ← Fo.fold_mid _ 32 _ Fo.bl_blank]; simp
  rw [e4, ← hWB] at q4
  rw [hWBd] at qw
  have hwd := fun x (hx : x ∈ Fo.words (Fo.joined (Fo.fold s.data.toList) (Fo.fold t.data.toList))) => Fo.word_of hpl x hx
  have hwl := words_len (Fo.joined (Fo.fold s.data.toList) (Fo.fold t.data.toList)) []
  have hj := Fo.words_join hpl
  have hj2 : (Fo.words (Fo.joined (Fo.fold s.data.toList) (Fo.fold t.data.toList))).length ≤ 100000 := by unfold Fo.words; omega
  have hwlen : ∀ x ∈ Fo.words (Fo.joined (Fo.fold s.data.toList) (Fo.fold t.data.toList)), x ≠ [] ∧ Fo.Pl x ∧ (∀ y ∈ x, y ≠ 32) ∧ x.length ≤ 100000 := by
    intro x hx
    obtain ⟨y1, y2, y3⟩ := hwd x hx
    refine ⟨y1, y2, y3, ?_⟩
    have := word_len _ _ hx
    omega
  have hws : (Fo.joined (Fo.fold s.data.toList) (Fo.fold t.data.toList)).length ≤ 10000 := by omega
  have e6 : ∀ d : UInt8, Fo.bl d → Fo.fold (s ++ (⟨#[d]⟩ : ByteArray) ++ t).data.toList = Fo.joined (Fo.fold s.data.toList) (Fo.fold t.data.toList) := by
    intro d hd
    rw [cat_data, cat_data, ← Fo.fold_mid _ d _ hd]; simp
  have hWW : (WB.toList == WB.toList) = true := beq_self_eq_true _
  have hc1 : ¬ (c : Int) < 128 := by omega
  obtain ⟨L, hL⟩ : ∃ L, Fo.words (Fo.joined (Fo.fold s.data.toList) (Fo.fold t.data.toList)) = L := ⟨_, rfl⟩
  rw [hL] at hwlen hj hj2 qw
  have Q1 := Lib.hid q1; have Q2 := Lib.hid q2; have Q3 := Lib.hid q3; have Q4 := Lib.hid q4; have QW := Lib.hid qw
  have HWD := Lib.hid hwlen; have HJ := Lib.hid hj; have WLEN := Lib.hid hj2; have HWS := Lib.hid hws; have HWB := Lib.hid hWB.symm
  clear q1 q2 q3 q4 qw hwlen hj hj2 hws hWB hwd hwl hL e4 e6 hFS hFSd hFSs hFT hFTd hFTs hWBd hWBs hpl lw ls lt
  go_enter Tryd.func5, Tryd.ntmps5
  go_wp2_with (first
    | (go_at_call 12; (with_reducible refine HA.out.mono ?_); rintro e w1 ⟨rfl, hb⟩; have B1 := Lib.hid hb; have R1 := Lib.hid (HR.out.below hb); clear hb)
      | (go_at_call 13; (with_reducible refine (Q1.out w1 R1.out).mono ?_); rintro e w2 ⟨rfl, hb⟩; have B2 := Lib.hid (below_next B1.out hb); have R2 := Lib.hid (R1.out.below hb); clear hb)
      | (go_at_call 13; (with_reducible refine (Q2.out w2 R2.out).mono ?_); rintro e w3 ⟨rfl, hb⟩; have B3 := Lib.hid (below_next B2.out hb); have R3 := Lib.hid (R2.out.below hb); clear hb)
      | (go_at_call 16; (with_reducible refine (Q3.out w3).mono ?_); rintro e w4 ⟨rfl, rfl⟩)
      | (go_at_call 13; (with_reducible refine (Q4.out w3 R3.out).mono ?_); rintro e w5 ⟨rfl, hb⟩; have B5 := Lib.hid (below_next B3.out hb); have R5 := Lib.hid (R3.out.below hb); clear hb)
    | (go_at_call 17; (with_reducible refine (QW.out w5).mono ?_); rintro e wx ⟨A, n, cc, rfl, h, hb⟩; have BX := Lib.hid (below_next B5.out hb); have RX := Lib.hid (R5.out.below hb); have SX := Lib.hid h; clear hb h))
  clear Q1 Q2 Q3 Q4 QW
  have hn := SX.out.len
  have hn2 : n ≤ 100000 := by rw [← hn]; exact WLEN.out
  have HN := Lib.hid hn
  clear hn
  go_loopw [9] (fun s9 wr => ∃ k : Nat, s9 = .int .i64 k ∧ k ≤ n ∧ Hid (Below wx.heap.size wx wr)) (fun s9 _ => n - (intOf s9).toNat)
  case atStart => exact ⟨0, rfl, by omega, Lib.hid (Below.refl _ _)⟩
  case round =>
    obtain ⟨k, rfl, hk, HBr⟩ := hrel
    by_cases hlt : k < n
    · have hlt2 : (k : Int) < n := by omega
      have hle : ¬ n ≤ k := by omega
      obtain ⟨b, off, hA, hb0, hc0⟩ := (SX.out.rd.below HBr.out) (by rw [HN.out]; omega)
      subst hA
      have hcell := hc0 k (by rw [HN.out]; omega)
      have hmem : L.getD k [] ∈ L := by rw [List.getD_eq_getElem?_getD, List.getElem?_eq_getElem (by rw [HN.out]; omega)]; exact List.getElem_mem _
      obtain ⟨z1, z2, z3, z4⟩ := HWD.out _ hmem
      obtain ⟨Z, hZ, hZd, hZs⟩ := bytes_of (L.getD k [])
      rw [← hZ] at hcell
      rw [← hZd] at z1 z2 z3
      have hz0 : (Z.toList == []) = false := by rw [ByteArray.toList_eq, beq_eq_false_iff_ne]; exact z1
      have qr := right_any Z wr (RX.out.below HBr.out) (by rw [hZs]; omega)
      rw [(Fo.right_iff _).2 z2, show (Z.data.toList == Z.data.toList) = true from beq_self_eq_true _] at qr
      have QR := Lib.hid qr
      have QC := Lib.hid (fun V => noBlank_any Z V z3)
      clear hc0 hmem z1 z2 z3 z4 hZ hZd hZs qr
      go_wp2_with (first
        | (go_at_call 15; (with_reducible refine QR.out.mono ?_); rintro e v1 ⟨rfl, hb⟩; have hcell1 := cell_keep hcell hb; have BV := Lib.hid (HBr.out.trans (hb.mono HBr.out.size)); clear hb)
        | (go_at_call 18; (with_reducible refine (QC.out v1).mono ?_); rintro e v2 ⟨rfl, rfl⟩))
      go_roundw
      case rel => exact ⟨k + 1, by go_num, by omega, BV⟩
      case measure => simp [intOf]; omega
    · have hge : ¬ (k : Int) < n := by omega
      have qj := join_any _ A n cc L wr (SX.out.below HBr.out) (by omega) (by rw [HJ.out]; exact Nat.le_trans HWS.out (by decide))
      unfold PostStr at qj
      rw [HJ.out, HWB.out] at qj
      have QJ := Lib.hid qj
      clear qj
      go_wp2_with (go_at_call 19; (with_reducible refine QJ.out.mono ?_); rintro e v1 ⟨rfl, hb⟩; have BV := Lib.hid (BX.out.trans ((HBr.out.trans (hb.mono HBr.out.size)).mono BX.out.size)); clear hb)
      go_ret
      exact ⟨rfl, BV.out⟩


set_option maxRecDepth 100000 in
set_option maxHeartbeats 16000000 in
theorem joinedB (s t : ByteArray) (c : Nat) (w : World) (hw : Rdy w) (hs : s.size ≤ 2000) (ht : t.size ≤ 2000) (hc : c < 256) (hcc : c < 128) (hbl : ¬Fo.bl (UInt8.ofNat c)) :
    Calls Tryd.prog 5 #[.string s, .string t, .int .u8 c] w fun e w' => e = .returned (.bool true) ∧ Below w.heap.size w w' := by
  have HA := Lib.hid (awake_any w hw)
  have HR := Lib.hid hw
  clear hw
  have h1 : ¬ 2000 < (s.size : Int) := by omega
  have h2 : ¬ 2000 < (t.size : Int) := by omega
  have ls : (Fo.fold s.data.toList).length ≤ s.size := by have := Fo.fold_len s.data.toList; simpa using this
  have lt : (Fo.fold t.data.toList).length ≤ t.size := by have := Fo.fold_len t.data.toList; simpa using this
  obtain ⟨FS, hFS, hFSd, hFSs⟩ := bytes_of (Fo.fold s.data.toList)
  obtain ⟨FT, hFT, hFTd, hFTs⟩ := bytes_of (Fo.fold t.data.toList)
  obtain ⟨WB, hWB, hWBd, hWBs⟩ := bytes_of (Fo.joined (Fo.fold s.data.toList) (Fo.fold t.data.toList))
  have hpl : Fo.Pl (Fo.joined (Fo.fold s.data.toList) (Fo.fold t.data.toList)) := Fo.joined_Pl (Fo.fold_Pl _) (Fo.fold_Pl _)
  have lw := joined_len (Fo.fold s.data.toList) (Fo.fold t.data.toList)
  have q1 := fun V (h : Rdy V) => fold_any s V h (by omega)
  have q2 := fun V (h : Rdy V) => fold_any t V h (by omega)
  have q3 := fun V => joined_any FS FT V (by omega) (by omega)
  have q4 := fun V (h : Rdy V) => fold_any (s ++ (⟨#[32]⟩ : ByteArray) ++ t) V h (by rw [ByteArray.size_append, ByteArray.size_append]; show _ + 1 + _ ≤ _; omega)
  have qw := fun V => words_any WB V (by omega)
  unfold PostStr at q1 q2 q4
  rw [← hFS] at q1
  rw [← hFT] at q2
  rw [hFSd, hFTd, ← hWB] at q3
  have e4 : Fo.fold (s ++ (⟨#[32]⟩ : ByteArray) ++ t).data.toList = Fo.joined (Fo.fold s.data.toList) (Fo.fold t.data.toList) := by
    rw [cat_data, cat_data, ← Fo.fold_mid _ 32 _ Fo.bl_blank]; simp
  rw [e4, ← hWB] at q4
  rw [hWBd] at qw
  have hwd := fun x (hx : x ∈ Fo.words (Fo.joined (Fo.fold s.data.toList) (Fo.fold t.data.toList))) => Fo.word_of hpl x hx
  have hwl := words_len (Fo.joined (Fo.fold s.data.toList) (Fo.fold t.data.toList)) []
  have hj := Fo.words_join hpl
  have hj2 : (Fo.words (Fo.joined (Fo.fold s.data.toList) (Fo.fold t.data.toList))).length ≤ 100000 := by unfold Fo.words; omega
  have hwlen : ∀ x ∈ Fo.words (Fo.joined (Fo.fold s.data.toList) (Fo.fold t.data.toList)), x ≠ [] ∧ Fo.Pl x ∧ (∀ y ∈ x, y ≠ 32) ∧ x.length ≤ 100000 := by
    intro x hx
    obtain ⟨y1, y2, y3⟩ := hwd x hx
    refine ⟨y1, y2, y3, ?_⟩
    have := word_len _ _ hx
    omega
  have hws : (Fo.joined (Fo.fold s.data.toList) (Fo.fold t.data.toList)).length ≤ 10000 := by omega
  have e6 : ∀ d : UInt8, Fo.bl d → Fo.fold (s ++ (⟨#[d]⟩ : ByteArray) ++ t).data.toList = Fo.joined (Fo.fold s.data.toList) (Fo.fold t.data.toList) := by
    intro d hd
    rw [cat_data, cat_data, ← Fo.fold_mid _ d _ hd]; simp
  have hWW : (WB.toList == WB.toList) = true := beq_self_eq_true _
  have hcn : (UInt8.ofNat c).toNat = c := by rw [UInt8.toNat_ofNat']; omega
  have hc1 : (c : Int) < 128 := by omega
  have hcv := fun W V (h : V.cell? ⟨W.heap.size, 0, none⟩ = some (.int .u8 (c : Int))) => conv_one8 W V c hc h
  have hcv1 := fun W : World => hcv W (W.alloc (.cells #[.int .u8 (c : Int)] 5)) (by go_simp)
  have q5 := fun V (h : Rdy V) => fold_any (⟨#[UInt8.ofNat c]⟩ : ByteArray) V h (by show 1 ≤ _; omega)
  unfold PostStr at q5
  obtain ⟨X, hX, hXd, hXs⟩ := bytes_of (Fo.fold [UInt8.ofNat c])
  rw [show (⟨#[UInt8.ofNat c]⟩ : ByteArray).data.toList = [UInt8.ofNat c] from rfl, ← hX] at q5
  have hXe : (X.toList == []) = false := by
    rw [ByteArray.toList_eq, beq_eq_false_iff_ne, hXd]
    intro e
    exact hbl ((Fo.fold_one _ (by omega)).1 e)
  have Q5 := Lib.hid q5
  clear q5 hX hXd hXs hcv
  obtain ⟨L, hL⟩ : ∃ L, Fo.words (Fo.joined (Fo.fold s.data.toList) (Fo.fold t.data.toList)) = L := ⟨_, rfl⟩
  rw [hL] at hwlen hj hj2 qw
  have Q1 := Lib.hid q1; have Q2 := Lib.hid q2; have Q3 := Lib.hid q3; have Q4 := Lib.hid q4; have QW := Lib.hid qw
  have HWD := Lib.hid hwlen; have HJ := Lib.hid hj; have WLEN := Lib.hid hj2; have HWS := Lib.hid hws; have HWB := Lib.hid hWB.symm
  clear q1 q2 q3 q4 qw hwlen hj hj2 hws hWB hwd hwl hL e4 e6 hFS hFSd hFSs hFT hFTd hFTs hWBd hWBs hpl lw ls lt
  go_enter Tryd.func5, Tryd.ntmps5
  go_wp2_with (first
    | (go_at_call 12; (with_reducible refine HA.out.mono ?_); rintro e w1 ⟨rfl, hb⟩; have B1 := Lib.hid hb; have R1 := Lib.hid (HR.out.below hb); clear hb)
      | (go_at_call 13; (with_reducible refine (Q1.out w1 R1.out).mono ?_); rintro e w2 ⟨rfl, hb⟩; have B2 := Lib.hid (below_next B1.out hb); have R2 := Lib.hid (R1.out.below hb); clear hb)
      | (go_at_call 13; (with_reducible refine (Q2.out w2 R2.out).mono ?_); rintro e w3 ⟨rfl, hb⟩; have B3 := Lib.hid (below_next B2.out hb); have R3 := Lib.hid (R2.out.below hb); clear hb)
      | (go_at_call 16; (with_reducible refine (Q3.out w3).mono ?_); rintro e w4 ⟨rfl, rfl⟩)
      | (go_at_call 13; (with_reducible refine (Q4.out w3 R3.out).mono ?_); rintro e w5 ⟨rfl, hb⟩; have B5 := Lib.hid (below_next B3.out hb); have R5 := Lib.hid (R3.out.below hb); clear hb)
      | (go_at_call 13; (with_reducible refine (Q5.out (w5.alloc (.cells #[.int .u8 (c : Int)] 5)) (R5.out.below (below_new _ _))).mono ?_); rintro e w6 ⟨rfl, hb⟩; have B6 := Lib.hid (below_next (B5.out.alloc B5.out.size (.cells #[.int .u8 (c : Int)] 5)) hb); have R6 := Lib.hid ((R5.out.below (below_new w5 (.cells #[.int .u8 (c : Int)] 5))).below hb); clear hb)
    | (go_at_call 17; (with_reducible refine (QW.out w6).mono ?_); rintro e wx ⟨A, n, cc, rfl, h, hb⟩; have BX := Lib.hid (below_next B6.out hb); have RX := Lib.hid (R6.out.below hb); have SX := Lib.hid h; clear hb h))
  clear Q1 Q2 Q3 Q4 QW
  have hn := SX.out.len
  have hn2 : n ≤ 100000 := by rw [← hn]; exact WLEN.out
  have HN := Lib.hid hn
  clear hn
  go_loopw [9] (fun s9 wr => ∃ k : Nat, s9 = .int .i64 k ∧ k ≤ n ∧ Hid (Below wx.heap.size wx wr)) (fun s9 _ => n - (intOf s9).toNat)
  case atStart => exact ⟨0, rfl, by omega, Lib.hid (Below.refl _ _)⟩
  case round =>
    obtain ⟨k, rfl, hk, HBr⟩ := hrel
    by_cases hlt : k < n
    · have hlt2 : (k : Int) < n := by omega
      have hle : ¬ n ≤ k := by omega
      obtain ⟨b, off, hA, hb0, hc0⟩ := (SX.out.rd.below HBr.out) (by rw [HN.out]; omega)
      subst hA
      have hcell := hc0 k (by rw [HN.out]; omega)
      have hmem : L.getD k [] ∈ L := by rw [List.getD_eq_getElem?_getD, List.getElem?_eq_getElem (by rw [HN.out]; omega)]; exact List.getElem_mem _
      obtain ⟨z1, z2, z3, z4⟩ := HWD.out _ hmem
      obtain ⟨Z, hZ, hZd, hZs⟩ := bytes_of (L.getD k [])
      rw [← hZ] at hcell
      rw [← hZd] at z1 z2 z3
      have hz0 : (Z.toList == []) = false := by rw [ByteArray.toList_eq, beq_eq_false_iff_ne]; exact z1
      have qr := right_any Z wr (RX.out.below HBr.out) (by rw [hZs]; omega)
      rw [(Fo.right_iff _).2 z2, show (Z.data.toList == Z.data.toList) = true from beq_self_eq_true _] at qr
      have QR := Lib.hid qr
      have QC := Lib.hid (fun V => noBlank_any Z V z3)
      clear hc0 hmem z1 z2 z3 z4 hZ hZd hZs qr
      go_wp2_with (first
        | (go_at_call 15; (with_reducible refine QR.out.mono ?_); rintro e v1 ⟨rfl, hb⟩; have hcell1 := cell_keep hcell hb; have BV := Lib.hid (HBr.out.trans (hb.mono HBr.out.size)); clear hb)
        | (go_at_call 18; (with_reducible refine (QC.out v1).mono ?_); rintro e v2 ⟨rfl, rfl⟩))
      go_roundw
      case rel => exact ⟨k + 1, by go_num, by omega, BV⟩
      case measure => simp [intOf]; omega
    · have hge : ¬ (k : Int) < n := by omega
      have qj := join_any _ A n cc L wr (SX.out.below HBr.out) (by omega) (by rw [HJ.out]; exact Nat.le_trans HWS.out (by decide))
      unfold PostStr at qj
      rw [HJ.out, HWB.out] at qj
      have QJ := Lib.hid qj
      clear qj
      go_wp2_with (go_at_call 19; (with_reducible refine QJ.out.mono ?_); rintro e v1 ⟨rfl, hb⟩; have BV := Lib.hid (BX.out.trans ((HBr.out.trans (hb.mono HBr.out.size)).mono BX.out.size)); clear hb)
      go_ret
      exact ⟨rfl, BV.out⟩


set_option maxRecDepth 100000 in
set_option maxHeartbeats 16000000 in
theorem joinedC (s t : ByteArray) (c : Nat) (w : World) (hw : Rdy w) (hs : s.size ≤ 2000) (ht : t.size ≤ 2000) (hc : c < 256) (hcc : c < 128) (hbl : Fo.bl (UInt8.ofNat c)) :
    Calls Tryd.prog 5 #[.string s, .string t, .int .u8 c] w fun e w' => e = .returned (.bool true) ∧ Below w.heap.size w w' := by
  have HA := Lib.hid (awake_any w hw)
  have HR := Lib.hid hw
  clear hw
  have h1 : ¬ 2000 < (s.size : Int) := by omega
  have h2 : ¬ 2000 < (t.size : Int) := by omega
  have ls : (Fo.fold s.data.toList).length ≤ s.size := by have := Fo.fold_len s.data.toList; simpa using this
  have lt : (Fo.fold t.data.toList).length ≤ t.size := by have := Fo.fold_len t.data.toList; simpa using this
  obtain ⟨FS, hFS, hFSd, hFSs⟩ := bytes_of (Fo.fold s.data.toList)
  obtain ⟨FT, hFT, hFTd, hFTs⟩ := bytes_of (Fo.fold t.data.toList)
  obtain ⟨WB, hWB, hWBd, hWBs⟩ := bytes_of (Fo.joined (Fo.fold s.data.toList) (Fo.fold t.data.toList))
  have hpl : Fo.Pl (Fo.joined (Fo.fold s.data.toList) (Fo.fold t.data.toList)) := Fo.joined_Pl (Fo.fold_Pl _) (Fo.fold_Pl _)
  have lw := joined_len (Fo.fold s.data.toList) (Fo.fold t.data.toList)
  have q1 := fun V (h : Rdy V) => fold_any s V h (by omega)
  have q2 := fun V (h : Rdy V) => fold_any t V h (by omega)
  have q3 := fun V => joined_any FS FT V (by omega) (by omega)
  have q4 := fun V (h : Rdy V) => fold_any (s ++ (⟨#[32]⟩ : ByteArray) ++ t) V h (by rw [ByteArray.size_append, ByteArray.size_append]; show _ + 1 + _ ≤ _; omega)
  have qw := fun V => words_any WB V (by omega)
  unfold PostStr at q1 q2 q4
  rw [← hFS] at q1
  rw [← hFT] at q2
  rw [hFSd, hFTd, ← hWB] at q3
  have e4 : Fo.fold (s ++ (⟨#[32]⟩ : ByteArray) ++ t).data.toList = Fo.joined (Fo.fold s.data.toList) (Fo.fold t.data.toList) := by
    rw [cat_data, cat_data, ← Fo.fold_mid _ 32 _ Fo.bl_blank]; simp
  rw [e4, ← hWB] at q4
  rw [hWBd] at qw
  have hwd := fun x (hx : x ∈ Fo.words (Fo.joined (Fo.fold s.data.toList) (Fo.fold t.data.toList))) => Fo.word_of hpl x hx
  have hwl := words_len (Fo.joined (Fo.fold s.data.toList) (Fo.fold t.data.toList)) []
  have hj := Fo.words_join hpl
  have hj2 : (Fo.words (Fo.joined (Fo.fold s.data.toList) (Fo.fold t.data.toList))).length ≤ 100000 := by unfold Fo.words; omega
  have hwlen : ∀ x ∈ Fo.words (Fo.joined (Fo.fold s.data.toList) (Fo.fold t.data.toList)), x ≠ [] ∧ Fo.Pl x ∧ (∀ y ∈ x, y ≠ 32) ∧ x.length ≤ 100000 := by
    intro x hx
    obtain ⟨y1, y2, y3⟩ := hwd x hx
    refine ⟨y1, y2, y3, ?_⟩
    have := word_len _ _ hx
    omega
  have hws : (Fo.joined (Fo.fold s.data.toList) (Fo.fold t.data.toList)).length ≤ 10000 := by omega
  have e6 : ∀ d : UInt8, Fo.bl d → Fo.fold (s ++ (⟨#[d]⟩ : ByteArray) ++ t).data.toList = Fo.joined (Fo.fold s.data.toList) (Fo.fold t.data.toList) := by
    intro d hd
    rw [cat_data, cat_data, ← Fo.fold_mid _ d _ hd]; simp
  have hWW : (WB.toList == WB.toList) = true := beq_self_eq_true _
  have hcn : (UInt8.ofNat c).toNat = c := by rw [UInt8.toNat_ofNat']; omega
  have hc1 : (c : Int) < 128 := by omega
  have hcv := fun W V (h : V.cell? ⟨W.heap.size, 0, none⟩ = some (.int .u8 (c : Int))) => conv_one8 W V c hc h
  have hcv1 := fun W : World => hcv W (W.alloc (.cells #[.int .u8 (c : Int)] 5)) (by go_simp)
  have q5 := fun V (h : Rdy V) => fold_any (⟨#[UInt8.ofNat c]⟩ : ByteArray) V h (by show 1 ≤ _; omega)
  unfold PostStr at q5
  have h0 : Fo.fold [UInt8.ofNat c] = [] := (Fo.fold_one _ (by omega)).2 hbl
  rw [show (⟨#[UInt8.ofNat c]⟩ : ByteArray).data.toList = [UInt8.ofNat c] from rfl, h0] at q5
  have q6 := fun V (h : Rdy V) => fold_any (s ++ (⟨#[UInt8.ofNat c]⟩ : ByteArray) ++ t) V h (by rw [ByteArray.size_append, ByteArray.size_append]; show _ + 1 + _ ≤ _; omega)
  unfold PostStr at q6
  rw [e6 _ hbl, ← hWB] at q6
  have Q5 := Lib.hid q5; have Q6 := Lib.hid q6
  clear q5 q6 h0 hcv
  obtain ⟨L, hL⟩ : ∃ L, Fo.words (Fo.joined (Fo.fold s.data.toList) (Fo.fold t.data.toList)) = L := ⟨_, rfl⟩
  rw [hL] at hwlen hj hj2 qw
  have Q1 := Lib.hid q1; have Q2 := Lib.hid q2; have Q3 := Lib.hid q3; have Q4 := Lib.hid q4; have QW := Lib.hid qw
  have HWD := Lib.hid hwlen; have HJ := Lib.hid hj; have WLEN := Lib.hid hj2; have HWS := Lib.hid hws; have HWB := Lib.hid hWB.symm
  clear q1 q2 q3 q4 qw hwlen hj hj2 hws hWB hwd hwl hL e4 e6 hFS hFSd hFSs hFT hFTd hFTs hWBd hWBs hpl lw ls lt
  go_enter Tryd.func5, Tryd.ntmps5
  go_wp2_with (first
    | (go_at_call 12; (with_reducible refine HA.out.mono ?_); rintro e w1 ⟨rfl, hb⟩; have B1 := Lib.hid hb; have R1 := Lib.hid (HR.out.below hb); clear hb)
      | (go_at_call 13; (with_reducible refine (Q1.out w1 R1.out).mono ?_); rintro e w2 ⟨rfl, hb⟩; have B2 := Lib.hid (below_next B1.out hb); have R2 := Lib.hid (R1.out.below hb); clear hb)
      | (go_at_call 13; (with_reducible refine (Q2.out w2 R2.out).mono ?_); rintro e w3 ⟨rfl, hb⟩; have B3 := Lib.hid (below_next B2.out hb); have R3 := Lib.hid (R2.out.below hb); clear hb)
      | (go_at_call 16; (with_reducible refine (Q3.out w3).mono ?_); rintro e w4 ⟨rfl, rfl⟩)
      | (go_at_call 13; (with_reducible refine (Q4.out w3 R3.out).mono ?_); rintro e w5 ⟨rfl, hb⟩; have B5 := Lib.hid (below_next B3.out hb); have R5 := Lib.hid (R3.out.below hb); clear hb)
      | (go_at_call 13; (with_reducible refine (Q5.out (w5.alloc (.cells #[.int .u8 (c : Int)] 5)) (R5.out.below (below_new _ _))).mono ?_); rintro e w6 ⟨rfl, hb⟩; have B6 := Lib.hid (below_next (B5.out.alloc B5.out.size (.cells #[.int .u8 (c : Int)] 5)) hb); have R6 := Lib.hid ((R5.out.below (below_new w5 (.cells #[.int .u8 (c : Int)] 5))).below hb); clear hb)
      | (go_at_call 13; (with_reducible refine (Q6.out (w6.alloc (.cells #[.int .u8 (c : Int)] 5)) (R6.out.below (below_new _ _))).mono ?_); rintro e w7 ⟨rfl, hb⟩; have B7 := Lib.hid (below_next (B6.out.alloc B6.out.size (.cells #[.int .u8 (c : Int)] 5)) hb); have R7 := Lib.hid ((R6.out.below (below_new w6 (.cells #[.int .u8 (c : Int)] 5))).below hb); clear hb)
    | (go_at_call 17; (with_reducible refine (QW.out w7).mono ?_); rintro e wx ⟨A, n, cc, rfl, h, hb⟩; have BX := Lib.hid (below_next B7.out hb); have RX := Lib.hid (R7.out.below hb); have SX := Lib.hid h; clear hb h))
  clear Q1 Q2 Q3 Q4 QW
  have hn := SX.out.len
  have hn2 : n ≤ 100000 := by rw [← hn]; exact WLEN.out
  have HN := Lib.hid hn
  clear hn
  go_loopw [9] (fun s9 wr => ∃ k : Nat, s9 = .int .i64 k ∧ k ≤ n ∧ Hid (Below wx.heap.size wx wr)) (fun s9 _ => n - (intOf s9).toNat)
  case atStart => exact ⟨0, rfl, by omega, Lib.hid (Below.refl _ _)⟩
  case round =>
    obtain ⟨k, rfl, hk, HBr⟩ := hrel
    by_cases hlt : k < n
    · have hlt2 : (k : Int) < n := by omega
      have hle : ¬ n ≤ k := by omega
      obtain ⟨b, off, hA, hb0, hc0⟩ := (SX.out.rd.below HBr.out) (by rw [HN.out]; omega)
      subst hA
      have hcell := hc0 k (by rw [HN.out]; omega)
      have hmem : L.getD k [] ∈ L := by rw [List.getD_eq_getElem?_getD, List.getElem?_eq_getElem (by rw [HN.out]; omega)]; exact List.getElem_mem _
      obtain ⟨z1, z2, z3, z4⟩ := HWD.out _ hmem
      obtain ⟨Z, hZ, hZd, hZs⟩ := bytes_of (L.getD k [])
      rw [← hZ] at hcell
      rw [← hZd] at z1 z2 z3
      have hz0 : (Z.toList == []) = false := by rw [ByteArray.toList_eq, beq_eq_false_iff_ne]; exact z1
      have qr := right_any Z wr (RX.out.below HBr.out) (by rw [hZs]; omega)
      rw [(Fo.right_iff _).2 z2, show (Z.data.toList == Z.data.toList) = true from beq_self_eq_true _] at qr
      have QR := Lib.hid qr
      have QC := Lib.hid (fun V => noBlank_any Z V z3)
      clear hc0 hmem z1 z2 z3 z4 hZ hZd hZs qr
      go_wp2_with (first
        | (go_at_call 15; (with_reducible refine QR.out.mono ?_); rintro e v1 ⟨rfl, hb⟩; have hcell1 := cell_keep hcell hb; have BV := Lib.hid (HBr.out.trans (hb.mono HBr.out.size)); clear hb)
        | (go_at_call 18; (with_reducible refine (QC.out v1).mono ?_); rintro e v2 ⟨rfl, rfl⟩))
      go_roundw
      case rel => exact ⟨k + 1, by go_num, by omega, BV⟩
      case measure => simp [intOf]; omega
    · have hge : ¬ (k : Int) < n := by omega
      have qj := join_any _ A n cc L wr (SX.out.below HBr.out) (by omega) (by rw [HJ.out]; exact Nat.le_trans HWS.out (by decide))
      unfold PostStr at qj
      rw [HJ.out, HWB.out] at qj
      have QJ := Lib.hid qj
      clear qj
      go_wp2_with (go_at_call 19; (with_reducible refine QJ.out.mono ?_); rintro e v1 ⟨rfl, hb⟩; have BV := Lib.hid (BX.out.trans ((HBr.out.trans (hb.mono HBr.out.size)).mono BX.out.size)); clear hb)
      go_ret
      exact ⟨rfl, BV.out⟩


set_option maxRecDepth 100000 in
set_option maxHeartbeats 4000000 in
theorem walk_foldJoined (s : ByteArray) (hsm : s.size ≤ maxLen) (t : ByteArray) (htm : t.size ≤ maxLen) (c : Int) (hc : (Lit.int .u8 c).wf = true) (w : World) (hw : Rdy w) :
    Calls Tryd.prog 5 #[.string s, .string t, .int .u8 c] w fun e w' => e = .returned (.bool true) ∧ Below w.heap.size w w' := by
  obtain ⟨h0, h1⟩ := u8_bd hc
  obtain ⟨n, rfl⟩ : ∃ n : Nat, c = n := ⟨c.toNat, by omega⟩
  by_cases hl : 2000 < s.size ∨ 2000 < t.size
  · have HA := Lib.hid (awake_any w hw)
    clear hw
    rcases hl with hl | hl
    · have hl2 : (2000 : Int) < s.size := by omega
      go_enter Tryd.func5, Tryd.ntmps5
      go_wp2_with (go_at_call 12; (with_reducible refine HA.out.mono ?_); rintro e w1 ⟨rfl, hb⟩; have B1 := Lib.hid hb; clear hb)
      go_ret
      exact ⟨rfl, B1.out⟩
    · by_cases hs : 2000 < s.size
      · have hl2 : (2000 : Int) < s.size := by omega
        go_enter Tryd.func5, Tryd.ntmps5
        go_wp2_with (go_at_call 12; (with_reducible refine HA.out.mono ?_); rintro e w1 ⟨rfl, hb⟩; have B1 := Lib.hid hb; clear hb)
        go_ret
        exact ⟨rfl, B1.out⟩
      · have hl2 : ¬ (2000 : Int) < s.size := by omega
        have hl3 : (2000 : Int) < t.size := by omega
        go_enter Tryd.func5, Tryd.ntmps5
        go_wp2_with (go_at_call 12; (with_reducible refine HA.out.mono ?_); rintro e w1 ⟨rfl, hb⟩; have B1 := Lib.hid hb; clear hb)
        go_ret
        exact ⟨rfl, B1.out⟩
  · have hs : s.size ≤ 2000 := by omega
    have ht : t.size ≤ 2000 := by omega
    by_cases hcc : 128 ≤ n
    · exact joinedA s t n w hw hs ht (by omega) hcc
    · by_cases hbl : Fo.bl (UInt8.ofNat n)
      · exact joinedC s t n w hw hs ht (by omega) (by omega) hbl
      · exact joinedB s t n w hw hs ht (by omega) (by omega) hbl
end Go.Proofs.YtoenaehkhdcdmaaDoor
