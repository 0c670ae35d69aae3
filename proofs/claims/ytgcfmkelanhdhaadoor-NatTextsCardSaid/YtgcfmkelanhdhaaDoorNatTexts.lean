/-
  The walk of the law NatTexts.
-/
import Derived.Test.YtgcfmkelanhdhaaDoorNatRef10
namespace Go.Proofs.YtgcfmkelanhdhaaDoor
open Go.RowKit
set_option linter.unusedVariables false

theorem row_dg' {w : World} {a : Option Addr} {len cap : Nat} {zs : List Int} (h : IsRow .u32 w a len cap zs) : Na.Dg (zs.take len) := by
  intro x hx
  obtain ⟨i, hi, rfl⟩ := List.getElem_of_mem hx
  have := u32_bd (row_bd h i hi)
  rw [List.getD_eq_getElem?_getD, List.getElem?_eq_getElem hi] at this
  simp only [Option.getD_some] at this
  omega
def PostX (z E : Int) (W : World) (e : Ending) (w' : World) : Prop :=
  ∃ A c l, e = .returned (.tuple #[.slice A l.length c, .int .i64 E]) ∧ Num w' A l z ∧ Below W.heap.size W w'
theorem post_num {z : Int} {W : World} {e : Ending} {w' : World} (h : PostNumE z W e w') : PostX z 0 W e w' := h
theorem post_nil {E : Int} {W : World} {e : Ending} {w' : World} (h : e = .returned (.tuple #[.slice none 0 0, .int .i64 E]) ∧ W = w') : PostX 0 E W e w' := by
  obtain ⟨rfl, rfl⟩ := h
  exact ⟨none, 0, [], rfl, num_nil _, Below.refl _ _⟩
theorem pow_fit2 (A : Option Addr) (ca n : Nat) (l : List Int) (x : Int) (m : Nat) (w : World) (hr : Num w A l x) (hn : n ≤ 100) (hb : Bd x m) (hm : m * n + 1 ≤ 1024) :
    Calls Tryd.prog 27 #[.slice A l.length ca, .int .i64 n] w (PostNumE (pw x n) w) := pow_fit A ca n l x _ w hr (by omega) rfl ((hb.pw n).fit hm)
/-- a text, by the program and by the reference -/
theorem text_pair (A : Option Addr) (ca : Nat) (l : List Int) (w : World) (hr : RdK .u32 w A l) (hd : Na.Dg l) (hl : l.length ≤ 40) : ∃ (T : ByteArray) (E : Int), ∀ W, Below w.heap.size w W →
    Calls Tryd.prog 25 #[.slice A l.length ca] W (fun e w' => e = .returned (.tuple #[.string T, .int .i64 E]) ∧ Below W.heap.size W w') ∧
    Calls Tryd.prog 28 #[.slice A l.length ca] W (fun e w' => e = .returned (.tuple #[.string T, .int .i64 E]) ∧ Below W.heap.size W w') := by
  cases hg : Na.rgt l with
  | false =>
    refine ⟨⟨#[]⟩, 2, fun W hb => ⟨(text_no A ca l W (hr.below hb) (by omega) hg).mono ?_, (rtext_no A ca l W (hr.below hb) (by omega) hg).mono ?_⟩⟩
    · rintro e w' ⟨rfl, rfl⟩; exact ⟨rfl, Below.refl _ _⟩
    · rintro e w' ⟨rfl, rfl⟩; exact ⟨rfl, Below.refl _ _⟩
  | true =>
    have hn : ∀ W, Below w.heap.size w W → Num W A l (Na.V l) := fun W hb => ⟨hr.below hb, ((Na.rgt_iff hd).1 hg).1, by omega, rfl⟩
    exact ⟨_, 0, fun W hb => ⟨text_any A ca l _ W (hn W hb), rtext_any A ca l _ W (hn W hb) hl⟩⟩
theorem read_pair (s : ByteArray) (hs : s.size ≤ 400) : ∃ (z E : Int), ∀ W,
    Calls Tryd.prog 26 #[.string s] W (PostX z E W) ∧ Calls Tryd.prog 29 #[.string s] W (PostX z E W) := by
  cases hT : Na.isT s.data.toList with
  | false =>
    refine ⟨0, 30, fun W => ⟨(read_no s W (by omega) hT).mono fun e w' h => post_nil h, (rread_any s W hs).mono fun e w' h => ?_⟩⟩
    rcases h with ⟨h1, -⟩ | ⟨-, rfl, h2⟩
    · rw [hT] at h1; cases h1
    · exact ⟨none, 0, [], rfl, num_nil _, h2⟩
  | true =>
    have hb := dn_bp ((Na.isT_iff _).1 hT).1 (show s.data.toList.length ≤ 400 by simpa using hs)
    have hf : ((Na.dn s.data.toList : Nat) : Int) < Na.Bp 1024 := by
      rw [← bp32]
      exact Int.lt_of_lt_of_le hb (Nb.Bp_le (by omega))
    refine ⟨Na.dn s.data.toList, 0, fun W => ⟨(read_yes s W (by omega) hT).mono fun e w' h => ?_, (rread_any s W hs).mono fun e w' h => ?_⟩⟩
    · rcases h with ⟨-, h⟩ | ⟨h1, -⟩
      · exact h
      · exact absurd hf h1
    · rcases h with ⟨-, h⟩ | ⟨h1, -⟩
      · exact h
      · rw [hT] at h1; cases h1
theorem pow_pair (A : Option Addr) (ca : Nat) (l : List Int) (n : Int) (w : World) (hr : RdK .u32 w A l) (hd : Na.Dg l) (hl : l.length ≤ 3) (hn : n ≤ 30) : ∃ (z E : Int), ∀ W, Below w.heap.size w W →
    Calls Tryd.prog 27 #[.slice A l.length ca, .int .i64 n] W (PostX z E W) ∧ Calls Tryd.prog 30 #[.slice A l.length ca, .int .i64 n] W (PostX z E W) := by
  by_cases hno : Na.rgt l = false ∨ n < 0
  · exact ⟨0, 2, fun W hb => ⟨(pow_no A ca l n W (hr.below hb) (by omega) hno).mono fun e w' h => post_nil h, (rpow_no A ca l n W (hr.below hb) (by omega) hno).mono fun e w' h => post_nil h⟩⟩
  · have hg : Na.rgt l = true := by
      cases e : Na.rgt l with
      | true => rfl
      | false => exact absurd (.inl e) hno
    obtain ⟨m, rfl⟩ : ∃ m : Nat, n = (m : Int) := ⟨n.toNat, by omega⟩
    have hnum : ∀ W, Below w.heap.size w W → Num W A l (Na.V l) := fun W hb => ⟨hr.below hb, ((Na.rgt_iff hd).1 hg).1, by omega, rfl⟩
    have hbd : Bd (Na.V l) 3 := ⟨Na.V_nonneg hd, by have := Na.V_lt hd; have h2 := Na.Bp_le hl; omega⟩
    exact ⟨pw (Na.V l) m, 0, fun W hb => ⟨pow_fit2 A ca m l _ 3 W (hnum W hb) (by omega) hbd (by omega), rpow_any A ca m l _ W (hnum W hb) hl (by omega)⟩⟩
theorem sameT2 {A B : Option Addr} {ca cb : Nat} {l m : List Int} {z : Int} {w : World} (hr : Num w A l z) (hs : Num w B m z) :
    Calls Tryd.prog 20 #[.slice A l.length ca, .slice B m.length cb] w fun e w' => e = .returned (.bool true) ∧ Below w.heap.size w w' := sameT A B ca cb l m z z w hr hs rfl
set_option maxRecDepth 100000 in
set_option maxHeartbeats 8000000 in
theorem natTexts_any (A B : Option Addr) (ca cb : Nat) (l m : List Int) (s : ByteArray) (n : Int) (w : World) (hr : RdK .u32 w A l) (hd : Na.Dg l) (hs : RdK .u32 w B m) (hdm : Na.Dg m) (hl : l.length ≤ 9223372036854775807) (hm : m.length ≤ 9223372036854775807) (hsz : s.size ≤ 9223372036854775807) :
    Calls Tryd.prog 13 #[.slice A l.length ca, .string s, .slice B m.length cb, .int .i64 n] w fun e w' => e = .returned (.bool true) ∧ Below w.heap.size w w' := by
  by_cases h1 : l.length ≤ 40
  · by_cases h2 : s.size ≤ 400
    · by_cases h3 : m.length ≤ 3
      · by_cases h4 : n ≤ 30
        · obtain ⟨T, E, ht⟩ := text_pair A ca l w hr hd h1
          obtain ⟨z, F, hrd⟩ := read_pair s h2
          obtain ⟨y, G, hp⟩ := pow_pair B cb m n w hs hdm h3 h4
          have HT := Lib.hid ht; have HR := Lib.hid hrd; have HP := Lib.hid hp
          have B0 := Lib.hid (Below.refl w.heap.size w)
          have i1 : (l.length : Int) ≤ 40 := by omega
          have i2 : (s.size : Int) ≤ 400 := by omega
          have i3 : (m.length : Int) ≤ 3 := by omega
          clear ht hrd hp hr hd hs hdm h1 h2 h3
          go_enter Tryd.func13, Tryd.ntmps13
          go_wp2_with (first
            | (go_at_call 25; (with_reducible refine ((HT.out w B0.out).1).mono ?_); rintro e x1 ⟨rfl, hb⟩; have B1 := Lib.hid hb; clear hb)
            | (go_at_call 28; (with_reducible refine ((HT.out x1 B1.out).2).mono ?_); rintro e x2 ⟨rfl, hb⟩; have B2 := Lib.hid (B1.out.trans (hb.mono B1.out.size)); clear hb)
            | (go_at_call 26; (with_reducible refine ((HR.out x2).1).mono ?_); rintro e x3 ⟨A3, c3, l3, rfl, h, hb⟩; have B3 := Lib.hid (B2.out.trans (hb.mono B2.out.size)); have Nb3 := Lib.hid h; clear h hb)
            | (go_at_call 29; (with_reducible refine ((HR.out x3).2).mono ?_); rintro e x4 ⟨A4, c4, l4, rfl, h, hb⟩; have B4 := Lib.hid (B3.out.trans (hb.mono B3.out.size)); have Nb4 := Lib.hid (Nb3.out.below hb); have Nc4 := Lib.hid h; clear h hb)
            | (go_at_call 27; (with_reducible refine ((HP.out x4 B4.out).1).mono ?_); rintro e x5 ⟨A5, c5, l5, rfl, h, hb⟩; have B5 := Lib.hid (B4.out.trans (hb.mono B4.out.size)); have Nb5 := Lib.hid (Nb4.out.below hb); have Nc5 := Lib.hid (Nc4.out.below hb); have Nx5 := Lib.hid h; clear h hb)
            | (go_at_call 30; (with_reducible refine ((HP.out x5 B5.out).2).mono ?_); rintro e x6 ⟨A6, c6, l6, rfl, h, hb⟩; have B6 := Lib.hid (B5.out.trans (hb.mono B5.out.size)); have Nb6 := Lib.hid (Nb5.out.below hb); have Nc6 := Lib.hid (Nc5.out.below hb); have Nx6 := Lib.hid (Nx5.out.below hb); have Ny6 := Lib.hid h; clear h hb)
            | (go_at_call 20; (with_reducible refine (sameT2 Nb6.out Nc6.out).mono ?_); rintro e x7 ⟨rfl, hb⟩; have B7 := Lib.hid (B6.out.trans (hb.mono B6.out.size)); have Nx7 := Lib.hid (Nx6.out.below hb); have Ny7 := Lib.hid (Ny6.out.below hb); clear hb)
            | (go_at_call 20; (with_reducible refine (sameT2 Nx7.out Ny7.out).mono ?_); rintro e x8 ⟨rfl, hb⟩; have B8 := Lib.hid (B7.out.trans (hb.mono B7.out.size)); clear hb))
          go_ret
          exact ⟨rfl, B8.out⟩
        · have i1 : (l.length : Int) ≤ 40 := by omega
          have i2 : (s.size : Int) ≤ 400 := by omega
          have i3 : (m.length : Int) ≤ 3 := by omega
          have i4 : 30 < n := by omega
          clear hr hd hs hdm h1 h2 h3 h4
          go_enter Tryd.func13, Tryd.ntmps13
          go_wp2_with fail
          go_ret
          exact ⟨rfl, Below.refl _ _⟩
      · have i1 : (l.length : Int) ≤ 40 := by omega
        have i2 : (s.size : Int) ≤ 400 := by omega
        have i3 : (3 : Int) < (m.length : Int) := by omega
        clear hr hd hs hdm h1 h2 h3
        go_enter Tryd.func13, Tryd.ntmps13
        go_wp2_with fail
        go_ret
        exact ⟨rfl, Below.refl _ _⟩
    · have i1 : (l.length : Int) ≤ 40 := by omega
      have i2 : (400 : Int) < (s.size : Int) := by omega
      clear hr hd hs hdm h1 h2
      go_enter Tryd.func13, Tryd.ntmps13
      go_wp2_with fail
      go_ret
      exact ⟨rfl, Below.refl _ _⟩
  · have i1 : (40 : Int) < (l.length : Int) := by omega
    clear hr hd hs hdm h1
    go_enter Tryd.func13, Tryd.ntmps13
    go_wp2_with fail
    go_ret
    exact ⟨rfl, Below.refl _ _⟩
set_option maxRecDepth 100000 in
set_option maxHeartbeats 8000000 in
theorem walk_natTexts (w : World) (A0 : Option Addr) (len0 cap0 : Nat) (z0 : List Int) (w0 : IsRow .u32 w A0 len0 cap0 z0) (a1 : ByteArray) (w1 : a1.size ≤ maxLen) (A2 : Option Addr) (len2 cap2 : Nat) (z2 : List Int) (w2 : IsRow .u32 w A2 len2 cap2 z2) (a3 : Int) (w3 : (Lit.int .i64 a3).wf = true) (hw : Rdy w) :
    Calls Tryd.prog 3 #[.slice A0 len0 cap0, .string a1, .slice A2 len2 cap2, .int .i64 a3] w fun e w' => e = .returned (.bool true) ∧ Below w.heap.size w w' := by
  have AW := Lib.hid (awake_any w)
  obtain ⟨e0, r0⟩ := row_rd w0
  obtain ⟨e2, r2⟩ := row_rd w2
  have k0 := row_len w0
  have k2 := row_len w2
  have hN : ∀ W, Below w.heap.size w W → Calls Tryd.prog 13 #[.slice A0 len0 cap0, .string a1, .slice A2 len2 cap2, .int .i64 a3] W fun e w' => e = .returned (.bool true) ∧ Below W.heap.size W w' := by
    intro W hb
    have := natTexts_any A0 A2 cap0 cap2 (z0.take len0) (z2.take len2) a1 a3 W (r0.below hb) (row_dg' w0) (r2.below hb) (row_dg' w2) (by omega) (by omega) (by unfold maxLen at w1; omega)
    rwa [e0, e2] at this
  have HN := Lib.hid hN
  clear hN w0 w1 w2 w3 hw e0 r0 e2 r2 k0 k2
  go_enter Tryd.func3, Tryd.ntmps3
  go_wp2_with (first
    | (go_at_call 12; (with_reducible refine (AW.out).mono ?_); rintro e x1 ⟨rfl, hb⟩; have B1 := Lib.hid hb; clear hb)
    | (go_at_call 13; (with_reducible refine (HN.out x1 B1.out).mono ?_); rintro e x2 ⟨rfl, hb⟩; have B2 := Lib.hid (B1.out.trans (hb.mono B1.out.size)); clear hb))
  go_ret
  exact ⟨rfl, B2.out⟩

end Go.Proofs.YtgcfmkelanhdhaaDoor
