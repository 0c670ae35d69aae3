/-
  The walk of the law CivilReads.
-/
import Derived.Test.YtmlniggmknjneaaDoorCivRef3
namespace Go.Proofs.YtmlniggmknjneaaDoor
open Go.RowKit
set_option linter.unusedVariables false

set_option maxHeartbeats 400000 in
theorem rNumber_any (s : ByteArray) (w : World) (hs : s.size ≤ 4) :
    Calls Tryd.prog 51 #[.string s] w fun e w' => e = .returned (.int .i64 (Cv.numL s.data.toList)) ∧ w' = w := by
  go_enter Tryd.func51, Tryd.ntmps51
  go_wp2
  go_loop [3, 4] (fun n i => ∃ (k : Nat) (a : Int), k ≤ s.size ∧ i = .int .i64 k ∧ n = .int .i64 a ∧ 0 ≤ a ∧ a < (10 : Int) ^ k ∧ Hid (Cv.numL s.data.toList = Cv.numTo a (s.data.toList.drop k))) (fun _ i => s.size - (intOf i).toNat)
  case atStart => exact ⟨0, 0, by omega, rfl, rfl, by omega, by decide, rfl⟩
  case round =>
    obtain ⟨k, a, hk, rfl, rfl, ha0, ha1, hm⟩ := hrel
    by_cases hlt : k < s.size
    · have hd : Cv.numTo a (s.data.toList.drop k) = if Cv.isDg s[k] = true then Cv.numTo (a * 10 + ((s[k].toNat : Int) - 48)) (s.data.toList.drop (k + 1)) else -1 := numTo_drop k a s.data.toList (by simpa using hlt)
      have Hd := Lib.hid hd; clear hd
      have pb := pow_bd k (by omega)
      go_wp2
      · go_ret
        exact ⟨ret_int (by rw [hm.out, Hd.out, if_neg (by unfold Cv.isDg; rw [decide_eq_true_eq]; omega)]), rfl⟩
      · have e : (10 : Int) ^ (k + 1) = 10 ^ k * 10 := Int.pow_succ ..
        exact ⟨⟨k + 1, _, by omega, by go_num, rfl, by omega, by omega, by have := hm.out; rw [Hd.out, if_pos (by unfold Cv.isDg; rw [decide_eq_true_eq]; omega)] at this; rw [show 10 * a + ((s[k].toNat : Int) - 48) = a * 10 + ((s[k].toNat : Int) - 48) from by omega]; exact this⟩, by simp [intOf]; omega⟩
      · go_ret
        exact ⟨ret_int (by rw [hm.out, Hd.out, if_neg (by unfold Cv.isDg; rw [decide_eq_true_eq]; omega)]), rfl⟩
    · go_wp2
      go_ret
      exact ⟨ret_int (by rw [hm.out, List.drop_eq_nil_of_le (by simp; omega)]; rfl), rfl⟩

/-- digits are those of their number -/
theorem dgt_back (c : UInt8) (n : Int) (h : Cv.isDg c = true) (e : n % 10 = (c.toNat : Int) - 48) : Cv.dgt n = c := by
  unfold Cv.isDg at h; rw [decide_eq_true_eq] at h
  rw [← UInt8.toNat_inj, Cv.dgt_toNat]; omega
theorem two_back (l : List UInt8) (hl : l.length = 2) (h : 0 ≤ Cv.numL l) : Cv.two (Cv.numL l) = l := by
  match l, hl with
  | [a, b], _ =>
    unfold Cv.numL at h ⊢
    simp only [Cv.numTo] at h ⊢
    by_cases ha : Cv.isDg a = true
    · by_cases hb : Cv.isDg b = true
      · rw [if_pos ha, if_pos hb] at h ⊢
        have xa := ha; have xb := hb
        unfold Cv.isDg at xa xb; rw [decide_eq_true_eq] at xa xb
        unfold Cv.two
        rw [dgt_back a _ ha (by omega), dgt_back b _ hb (by omega)]
      · rw [if_pos ha, if_neg hb] at h; omega
    · rw [if_neg ha] at h; omega
theorem four_back (l : List UInt8) (hl : l.length = 4) (h : 0 ≤ Cv.numL l) : Cv.four (Cv.numL l) = l := by
  match l, hl with
  | [a, b, c, d], _ =>
    unfold Cv.numL at h ⊢
    simp only [Cv.numTo] at h ⊢
    by_cases ha : Cv.isDg a = true
    · by_cases hb : Cv.isDg b = true
      · by_cases hc : Cv.isDg c = true
        · by_cases hd : Cv.isDg d = true
          · rw [if_pos ha, if_pos hb, if_pos hc, if_pos hd] at h ⊢
            have xa := ha; have xb := hb; have xc := hc; have xd := hd
            unfold Cv.isDg at xa xb xc xd; rw [decide_eq_true_eq] at xa xb xc xd
            unfold Cv.four
            rw [dgt_back a _ ha (by omega), dgt_back b _ hb (by omega), dgt_back c _ hc (by omega), dgt_back d _ hd (by omega)]
          · rw [if_pos ha, if_pos hb, if_pos hc, if_neg hd] at h; omega
        · rw [if_pos ha, if_pos hb, if_neg hc] at h; omega
      · rw [if_pos ha, if_neg hb] at h; omega
    · rw [if_neg ha] at h; omega
/-- ten bytes whose digits are a date are its text just if they have its signs -/
theorem text_back (l : List UInt8) (hl : l.length = 10) (h : Cv.isD (yT l) (mT l) (dT l) = true) :
    (Cv.dateT (Cv.num (yT l) (mT l) (dT l)) == l) = isT l := by
  have bd := isD_bd h
  obtain ⟨e1, e2, e3⟩ := Cv.date_of _ _ _ h
  have f1 : Cv.four (yT l) = l.take 4 := four_back _ (by rw [List.length_take]; omega) (show 0 ≤ yT l by omega)
  have f2 : Cv.two (mT l) = (l.drop 5).take 2 := two_back _ (by rw [List.length_take, List.length_drop]; omega) (show 0 ≤ mT l by omega)
  have f3 : Cv.two (dT l) = l.drop 8 := two_back _ (by rw [List.length_drop]; omega) (show 0 ≤ dT l by omega)
  unfold isT
  rw [h, hl, Cv.dateT, e1, e2, e3, f1, f2, f3]
  clear f1 f2 f3 e1 e2 e3 bd h
  match l, hl with
  | [a, b, c, d, e, f, g, i, j, k], _ =>
    rw [Bool.eq_iff_iff]
    simp
    exact ⟨fun h => ⟨h.1.symm, h.2.symm⟩, fun h => ⟨h.1.symm, h.2.symm⟩⟩

set_option maxHeartbeats 400000 in
theorem rRead_len (s : ByteArray) (w : World) (h : s.size ≠ 10) (hs : s.size ≤ 9223372036854775807) :
    Calls Tryd.prog 21 #[.string s] w fun e w' => e = .returned (.tuple #[.int .i64 0, .int .i64 11]) ∧ w = w' := by
  have hb : (((s.size : Nat) : Int) != 10) = true := by rw [bne_iff_ne]; omega
  clear h
  go_enter Tryd.func21, Tryd.ntmps21
  go_wp2
  go_ret2
  exact ⟨rfl, rfl⟩

theorem rDay_q (y m d : Int) (w : World) :
    Calls Tryd.prog 15 #[.int .i64 y, .int .i64 m, .int .i64 d] w fun e w' => e = .returned (.tuple #[.int .i64 (dyV y m d), .int .i64 (dyE y m d)]) ∧ w' = w :=
  (rDay_any y m d w).mono fun e w' h => ⟨h.1, h.2.symm⟩

set_option maxHeartbeats 1000000 in
theorem rRead_ten (s : ByteArray) (w : World) (h : s.size = 10) :
    Calls Tryd.prog 21 #[.string s] w fun e w' => e = .returned (.tuple #[.int .i64 (rdV s.data.toList), .int .i64 (rdE s.data.toList)]) ∧ Below w.heap.size w w' := by
  have hb : (((s.size : Nat) : Int) != 10) = false := by rw [bne_eq_false_iff_eq]; omega
  have H := Lib.hid h; clear h
  have hz8 : (8 : Int) ≤ s.size := by have := H.out; omega
  have hs10 : s.size ≤ 10 := by have := H.out; omega
  have hz7 : (7 : Int) ≤ s.size := by omega
  have hz4 : (4 : Int) ≤ s.size := by omega
  go_enter Tryd.func21, Tryd.ntmps21
  go_wp2_with fail
  go_quiet ((first | (go_at_call 51; exact Calls.quiet_of_same (rNumber_any _ _ (by first | (simp; done) | (simp; omega)))) | (go_at_call 15; exact Calls.quiet_of_same (rDay_q _ _ _ _))))
  have eD : List.take (s.size - 8) (List.drop 8 s.data.toList) = List.drop 8 s.data.toList := List.take_of_length_le (by simp)
  rw [eD]
  have hT : ∀ Y M D, Cv.numL (List.take 4 s.data.toList) = Y → Cv.numL (List.take 2 (List.drop 5 s.data.toList)) = M → Cv.numL (List.drop 8 s.data.toList) = D → (Cv.isD Y M D = true → (Cv.dateT (Cv.num Y M D) == s.data.toList) = isT s.data.toList ∧ (isT s.data.toList = true → rdV s.data.toList = Cv.num Y M D)) ∧ (Cv.isD Y M D = false → isT s.data.toList = false) := by
    rintro Y M D rfl rfl rfl
    refine ⟨fun hi => ⟨text_back _ (by have := H.out; simpa using this) hi, fun h => (rd_yes h).1⟩, fun hi => ?_⟩
    have hi' : Cv.isD (yT s.data.toList) (mT s.data.toList) (dT s.data.toList) = false := hi
    unfold isT; rw [hi']; simp
  have HT := Lib.hid hT; clear hT eD
  generalize hY : Cv.numL (List.take 4 s.data.toList) = Y
  generalize hM : Cv.numL (List.take 2 (List.drop 5 s.data.toList)) = M
  generalize hD : Cv.numL (List.drop 8 s.data.toList) = D
  have HR := Lib.hid (HT.out Y M D hY hM hD)
  clear hY hM hD
  by_cases h : Cv.isD Y M D = true
  · have e1 : dyE Y M D = 0 := by rw [dyE, if_pos h]
    have e2 : dyV Y M D = Cv.num Y M D := by rw [dyV, if_pos h]
    have nb := Cv.num_bd Y M D h
    have HH := Lib.hid (HR.out.1 h)
    rw [e1, e2]
    clear e1 e2 h
    generalize Cv.num Y M D = N at *
    obtain ⟨n0, n1⟩ := nb
    by_cases ht : isT s.data.toList = true
    · have hq : (Cv.dateT N == s.data.toList) = true := by rw [HH.out.1, ht]
      have HV := Lib.hid (HH.out.2 ht)
      have HE := Lib.hid (rd_yes ht).2
      have hq2 : (Cv.dateT N == s.toList) = true := by rw [Lib.toList_data]; exact hq
      have hq3 : (Cv.dateT N != s.toList) = false := by rw [bne, hq2]; rfl
      have HT' := Lib.hid ht
      clear ht
      go_wp2_with (go_at_call 47; refine (rText_yes N _ n0 n1).mono ?_; rintro e w1 ⟨rfl, hb1⟩; have B1 := Lib.hid hb1; clear hb1)
      go_ret2
      exact ⟨ret_two HV.out.symm HE.out.symm, (below_drewN (Below.refl _ _) nq).trans (B1.out.mono (Nat.le_refl _))⟩
    · have ht : isT s.data.toList = false := by simpa using ht
      have hq : (Cv.dateT N == s.data.toList) = false := by rw [HH.out.1, ht]
      have HE := Lib.hid (rd_no ht)
      have hq2 : (Cv.dateT N == s.toList) = false := by rw [Lib.toList_data]; exact hq
      have hq3 : (Cv.dateT N != s.toList) = true := by rw [bne, hq2]; rfl
      clear ht hq
      go_wp2_with (go_at_call 47; refine (rText_yes N _ n0 n1).mono ?_; rintro e w1 ⟨rfl, hb1⟩; have B1 := Lib.hid hb1; clear hb1)
      go_ret2
      exact ⟨ret_two HE.out.1.symm HE.out.2.symm, (below_drewN (Below.refl _ _) nq).trans (B1.out.mono (Nat.le_refl _))⟩
  · have h' : Cv.isD Y M D = false := by simpa using h
    have HE := Lib.hid (rd_no (HR.out.2 h'))
    have e1 : dyE Y M D = 10 := by rw [dyE, if_neg h]
    rw [e1]
    clear e1 h h'
    go_wp2
    go_ret2
    exact ⟨ret_two HE.out.1.symm HE.out.2.symm, below_drewN (Below.refl _ _) nq⟩
theorem rRead_any (s : ByteArray) (w : World) (hs : s.size ≤ 9223372036854775807) :
    Calls Tryd.prog 21 #[.string s] w fun e w' => e = .returned (.tuple #[.int .i64 (rdV s.data.toList), .int .i64 (rdE s.data.toList)]) ∧ Below w.heap.size w w' := by
  by_cases h : s.size = 10
  · exact rRead_ten s w h
  · refine (rRead_len s w h hs).mono ?_
    rintro e w' ⟨rfl, rfl⟩
    have hi : isT s.data.toList = false := by
      unfold isT
      rw [decide_eq_false (by simpa using h)]; simp
    exact ⟨ret_two (rd_no hi).1.symm (rd_no hi).2.symm, Below.refl _ _⟩

set_option maxHeartbeats 400000 in
theorem rReadTime_len (s : ByteArray) (w : World) (h : s.size ≠ 16) (hs : s.size ≤ 9223372036854775807) :
    Calls Tryd.prog 23 #[.string s] w fun e w' => e = .returned (.tuple #[.int .i64 0, .int .i64 11]) ∧ w = w' := by
  have hb : (((s.size : Nat) : Int) != 16) = true := by rw [bne_iff_ne]; omega
  clear h
  go_enter Tryd.func23, Tryd.ntmps23
  go_wp2
  go_ret2
  exact ⟨rfl, rfl⟩
set_option maxHeartbeats 1000000 in
theorem rReadTime_ten (s : ByteArray) (w : World) (h : s.size = 16) :
    Calls Tryd.prog 23 #[.string s] w fun e w' => e = .returned (.tuple #[.int .i64 (rtV s.data.toList), .int .i64 (rtE s.data.toList)]) ∧ Below w.heap.size w w' := by
  have h4 : 10 < s.size := by omega
  have h7 : 13 < s.size := by omega
  have hb : (((s.size : Nat) : Int) != 16) = false := by rw [bne_eq_false_iff_eq]; omega
  have H := Lib.hid h; clear h
  have hz14 : (14 : Int) ≤ s.size := by have := H.out; omega
  have hs16 : s.size ≤ 16 := by have := H.out; omega
  have hz13 : (13 : Int) ≤ s.size := by omega
  have hz10 : (10 : Int) ≤ s.size := by omega
  have hq : ∀ W, Calls Tryd.prog 21 #[.string (s.extract 0 10)] W fun e w' => e = .returned (.tuple #[.int .i64 (rdV (List.take 10 s.data.toList)), .int .i64 (rdE (List.take 10 s.data.toList))]) ∧ Below W.heap.size W w' := by
    intro W
    have := rRead_any (s.extract 0 10) W (by simp; omega)
    have e : (s.extract 0 10).data.toList = List.take 10 s.data.toList := by simp
    rw [e] at this
    exact this
  have HQ := Lib.hid hq; clear hq
  go_enter Tryd.func23, Tryd.ntmps23
  go_wp2_with (go_at_call 21; refine (HQ.out _).mono ?_; rintro e w1 ⟨rfl, hb1⟩; have HB := Lib.hid hb1; clear hb1)
  go_quiet ((go_at_call 51; exact Calls.quiet_of_same (rNumber_any _ _ (by first | (simp; done) | (simp; omega)))))
  have e1 : (s.extract 11 13).data.toList = List.take 2 (List.drop 11 s.data.toList) := by simp
  have e2 : (s.extract 14 s.size).data.toList = List.drop 14 s.data.toList := by simp; exact List.take_of_length_le (by simp)
  have hT : ∀ (b : Bool) (V X Y : Int), isT (List.take 10 s.data.toList) = b → rdV (List.take 10 s.data.toList) = V → Cv.numL (s.extract 11 13).data.toList = X → Cv.numL (s.extract 14 s.size).data.toList = Y →
      rtV s.data.toList = (if b = true ∧ 0 ≤ X ∧ X ≤ 23 ∧ 0 ≤ Y ∧ Y ≤ 59 ∧ (s[10].toNat : Int) = 32 ∧ (s[13].toNat : Int) = 58 then V * 1440 + X * 60 + Y else 0) ∧ rtE s.data.toList = (if b = true ∧ 0 ≤ X ∧ X ≤ 23 ∧ 0 ≤ Y ∧ Y ≤ 59 ∧ (s[10].toNat : Int) = 32 ∧ (s[13].toNat : Int) = 58 then 0 else 11) := by
    rintro b V X Y rfl rfl rfl rfl
    rw [e1, e2]
    have b1 : ((s[10].toNat : Int) = 32) ↔ (s.data.toList.getD 10 0 == 32) = true := by
      rw [getD_at s 10 h4, beq_iff_eq, ← UInt8.toNat_inj]; exact ⟨fun h => by simpa using Int.ofNat.inj h, fun h => by rw [h]; rfl⟩
    have b2 : ((s[13].toNat : Int) = 58) ↔ (s.data.toList.getD 13 0 == 58) = true := by
      rw [getD_at s 13 h7, beq_iff_eq, ← UInt8.toNat_inj]; exact ⟨fun h => by simpa using Int.ofNat.inj h, fun h => by rw [h]; rfl⟩
    have : isTT s.data.toList = true ↔ (isT (List.take 10 s.data.toList) = true ∧ 0 ≤ Go.Proofs.YtmlniggmknjneaaDoor.hT s.data.toList ∧ Go.Proofs.YtmlniggmknjneaaDoor.hT s.data.toList ≤ 23 ∧ 0 ≤ miT s.data.toList ∧ miT s.data.toList ≤ 59 ∧ (s[10].toNat : Int) = 32 ∧ (s[13].toNat : Int) = 58) := by
      rw [b1, b2]
      unfold isTT
      rw [decide_eq_true (by have := H.out; simpa using this)]
      simp only [Bool.and_eq_true, decide_eq_true_eq, Bool.true_and]
      constructor
      · rintro ⟨⟨⟨x1, x2⟩, x3⟩, x4, x5, x6, x7⟩; exact ⟨x3, x4, x5, x6, x7, x1, x2⟩
      · rintro ⟨x3, x4, x5, x6, x7, x1, x2⟩; exact ⟨⟨⟨x1, x2⟩, x3⟩, x4, x5, x6, x7⟩
    rw [rtV, rtE]
    simp only [this]
    exact ⟨rfl, rfl⟩
  have nb := numL_bd
  have HT := Lib.hid hT; clear hT e1 e2
  generalize hX : Cv.numL (s.extract 11 13).data.toList = X
  generalize hY : Cv.numL (s.extract 14 s.size).data.toList = Y
  have bX : -1 ≤ X := by rw [← hX]; exact nb _
  have bY : -1 ≤ Y := by rw [← hY]; exact nb _
  have xX : X ≤ 99999 := by rw [← hX]; exact numL_lt _ (by simp; omega)
  have xY : Y ≤ 99999 := by rw [← hY]; exact numL_lt _ (by simp; omega)
  clear nb
  by_cases hi : isT (List.take 10 s.data.toList) = true
  · have hV := (rd_yes hi).1
    have hE := (rd_yes hi).2
    have hb := Cv.num_bd _ _ _ (isT_num hi)
    rw [← hV] at hb
    rw [hE]
    generalize hv : rdV (List.take 10 s.data.toList) = V at hb ⊢
    have hr := HT.out true V X Y hi hv hX hY
    simp only [true_and] at hr
    clear hX hY hv hV hE hi
    obtain ⟨b0, b1⟩ := hb
    by_cases c1 : (s[10].toNat : Int) = 32
    · have c1b : (((s[10].toNat : Nat) : Int) != 32) = false := by rw [c1]; rfl
      by_cases c2 : (s[13].toNat : Int) = 58
      · have c2b : (((s[13].toNat : Nat) : Int) != 58) = false := by rw [c2]; rfl
        simp only [c1, c2, and_true] at hr
        have HR := Lib.hid hr; clear hr c1 c2
        go_wp2
        all_goals
          go_ret2
          exact ⟨ret_two (by rw [HR.out.1]; split <;> omega) (by rw [HR.out.2]; split <;> omega), HB.out.trans (below_drewN (Below.refl _ _) nq)⟩
      · have c2b : (((s[13].toNat : Nat) : Int) != 58) = true := bne_iff_ne.2 c2
        simp only [c2, and_false, if_false] at hr
        have HR := Lib.hid hr; clear hr c1 c2
        go_wp2
        all_goals
          go_ret2
          exact ⟨ret_two HR.out.1.symm HR.out.2.symm, HB.out.trans (below_drewN (Below.refl _ _) nq)⟩
    · have c1b : (((s[10].toNat : Nat) : Int) != 32) = true := bne_iff_ne.2 c1
      simp only [c1, false_and, and_false, if_false] at hr
      have HR := Lib.hid hr; clear hr c1
      go_wp2
      all_goals
        go_ret2
        exact ⟨ret_two HR.out.1.symm HR.out.2.symm, HB.out.trans (below_drewN (Below.refl _ _) nq)⟩
  · have hi' : isT (List.take 10 s.data.toList) = false := by simpa using hi
    have hE := (rd_no hi').2
    rw [hE]
    have HR := Lib.hid (HT.out _ _ X Y hi' rfl hX hY)
    clear hX hY hE hi hi'
    go_wp2
    go_ret2
    exact ⟨ret_two (by rw [HR.out.1]; simp) (by rw [HR.out.2]; simp), HB.out.trans (below_drewN (Below.refl _ _) nq)⟩
theorem rReadTime_any (s : ByteArray) (w : World) (hs : s.size ≤ 9223372036854775807) :
    Calls Tryd.prog 23 #[.string s] w fun e w' => e = .returned (.tuple #[.int .i64 (rtV s.data.toList), .int .i64 (rtE s.data.toList)]) ∧ Below w.heap.size w w' := by
  by_cases h : s.size = 16
  · exact rReadTime_ten s w h
  · refine (rReadTime_len s w h hs).mono ?_
    rintro e w' ⟨rfl, rfl⟩
    have hi : isTT s.data.toList = false := by
      unfold isTT
      rw [decide_eq_false (by simpa using h)]; simp
    exact ⟨ret_two (rt_no hi).1.symm (rt_no hi).2.symm, Below.refl _ _⟩

set_option maxHeartbeats 1000000 in
theorem reads_any (s : ByteArray) (w : World) (hs : s.size ≤ 9223372036854775807) (hw : Rdy w) :
    Calls Tryd.prog 4 #[.string s] w fun e w' => e = .returned (.bool true) ∧ Below w.heap.size w w' := by
  have R0 := Lib.hid hw; clear hw
  go_enter Tryd.func4, Tryd.ntmps4
  go_wp2_with (first
    | (go_at_call 20; refine (read_any s _ hs R0.out.tab).mono ?_; rintro e w1 ⟨rfl, hb1⟩; have R1 := Lib.hid (R0.out.below hb1); have B1 := Lib.hid hb1; clear hb1)
    | (go_at_call 21; refine (rRead_any s _ hs).mono ?_; rintro e w2 ⟨rfl, hb2⟩; have R2 := Lib.hid (R1.out.below hb2); have B2 := Lib.hid (B1.out.trans (hb2.mono B1.out.size)); clear hb2)
    | (go_at_call 22; refine (readTime_any s _ hs R2.out.tab).mono ?_; rintro e w3 ⟨rfl, hb3⟩; have R3 := Lib.hid (R2.out.below hb3); have B3 := Lib.hid (B2.out.trans (hb3.mono B2.out.size)); clear hb3)
    | (go_at_call 23; refine (rReadTime_any s _ hs).mono ?_; rintro e w4 ⟨rfl, hb4⟩; have R4 := Lib.hid (R3.out.below hb4); have B4 := Lib.hid (B3.out.trans (hb4.mono B3.out.size)); clear hb4)
    | (go_at_call 19; refine (awake_any _ R4.out).mono ?_; rintro e w5 ⟨rfl, hb5⟩; have B5 := Lib.hid (B4.out.trans (hb5.mono B4.out.size)); clear hb5))
  go_ret
  exact ⟨rfl, B5.out⟩
theorem walk_civilReads (s : ByteArray) (hs : s.size ≤ maxLen) (w : World) (hw : Rdy w) :
    Calls Tryd.prog 4 #[.string s] w fun e w' => e = .returned (.bool true) ∧ Below w.heap.size w w' :=
  reads_any s w (by unfold maxLen at hs; exact hs) hw

end Go.Proofs.YtmlniggmknjneaaDoor
