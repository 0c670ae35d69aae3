/-
  The examples of nat's chapter hold: awake answers true.
-/
import Derived.Test.YtgcfmkelanhdhaaDoorNatParse
namespace Go.Proofs.YtgcfmkelanhdhaaDoor
open Go.RowKit
set_option linter.unusedVariables false

theorem pow_no (A : Option Addr) (ca : Nat) (l : List Int) (n : Int) (w : World) (hr : RdK .u32 w A l) (hl : l.length ≤ 9223372036854775807) (h : Na.rgt l = false ∨ n < 0) :
    Calls Tryd.prog 27 #[.slice A l.length ca, .int .i64 n] w fun e w' => e = .returned (.tuple #[.slice none 0 0, .int .i64 2]) ∧ w = w' := by
  have hq := right_any A ca l w hr hl
  rcases (show Na.rgt l = false ∨ Na.rgt l = true ∧ n < 0 by cases e : Na.rgt l <;> simp_all) with e | ⟨e, h2⟩
  all_goals
    rw [e] at hq
    have HQ := Lib.hid hq; clear hq hr e h
    go_enter Tryd.func27, Tryd.ntmps27
    go_wp2_with (go_at_call 18; refine HQ.out.mono ?_; rintro e w' ⟨rfl, rfl⟩)
    go_ret2
    exact ⟨rfl, rfl⟩
theorem read_no (s : ByteArray) (w : World) (hs : s.size ≤ 9223372036854775807) (hT : Na.isT s.data.toList = false) :
    Calls Tryd.prog 26 #[.string s] w fun e w' => e = .returned (.tuple #[.slice none 0 0, .int .i64 30]) ∧ w = w' := by
  have ht := isText_any s w hs
  rw [hT] at ht
  have HT := Lib.hid ht; clear ht hT
  go_enter Tryd.func26, Tryd.ntmps26
  go_wp2_with (go_at_call 47; (with_reducible refine HT.out.mono ?_); rintro e w' ⟨rfl, rfl⟩)
  go_ret2
  exact ⟨rfl, rfl⟩
theorem read_long (s : ByteArray) (w : World) (hs : s.size ≤ 9223372036854775807) (hs2 : 9865 < s.size) (hT : Na.isT s.data.toList = true) :
    Calls Tryd.prog 26 #[.string s] w fun e w' => e = .returned (.tuple #[.slice none 0 0, .int .i64 3]) ∧ w = w' := by
  have ht := isText_any s w hs
  rw [hT] at ht
  have HT := Lib.hid ht; clear ht hT
  have i0 : (9865 : Int) < (s.size : Int) := by omega
  go_enter Tryd.func26, Tryd.ntmps26
  go_wp2_with (go_at_call 47; (with_reducible refine HT.out.mono ?_); rintro e w' ⟨rfl, rfl⟩)
  go_ret2
  exact ⟨rfl, rfl⟩

/-- a number that is written out -/
theorem num_lit (W : World) (zs : List Int) (z : Int) (cs : Array Value) (hcs : cs = (zs.map (Value.int .u32)).toArray) (hz : Na.Can zs) (hl : zs.length ≤ 1024) (hv : Na.V zs = z) :
    Num (W.alloc (.cells cs 48)) (some ⟨W.heap.size, 0, none⟩) zs z := by
  subst hcs
  exact ⟨rdk_new .u32 W zs 48, hz, hl, hv⟩
theorem can_of {l : List Int} (h : l.all (fun x => decide (0 ≤ x ∧ x < 4294967296)) = true) (h2 : Na.trm l = l) : Na.Can l := by
  refine ⟨fun x hx => ?_, h2⟩
  have := List.all_eq_true.1 h x hx
  simpa using this
theorem same_lit (A : Option Addr) (ca n : Nat) (l zs : List Int) (z : Int) (cs : Array Value) (w : World) (hr : Num w A l z) (hcs : cs = (zs.map (Value.int .u32)).toArray) (hz : Na.Can zs) (hn : zs.length = n) (hl : n ≤ 1024) (hv : Na.V zs = z) :
    Calls Tryd.prog 20 #[.slice A l.length ca, .slice (some ⟨w.heap.size, 0, none⟩) n n] (w.alloc (.cells cs 48)) fun e w' => e = .returned (.bool true) ∧ Below w.heap.size w w' := by
  have hb := (Below.refl w.heap.size w).alloc (Nat.le_refl _) (.cells cs 48)
  have := sameN_any A (some ⟨w.heap.size, 0, none⟩) ca n l zs z z _ (hr.below hb) (num_lit w zs z cs hcs hz (by omega) hv)
  rw [hn] at this
  refine this.mono ?_
  rintro e w' ⟨rfl, h⟩
  exact ⟨ret_bool (by simp), hb.trans (h.mono hb.size)⟩
theorem text_is (A : Option Addr) (ca : Nat) (l : List Int) (x : Int) (L : List UInt8) (bs : Array UInt8) (w : World) (hr : Num w A l x) (hbs : bs = L.toArray) (h : Na.isT L = true) (hx : x.toNat = Na.dn L) :
    Calls Tryd.prog 25 #[.slice A l.length ca] w fun e w' => e = .returned (.tuple #[.string ⟨bs⟩, .int .i64 0]) ∧ Below w.heap.size w w' := by
  refine (text_any A ca l x w hr).mono ?_
  rintro e w' ⟨rfl, hb⟩
  refine ⟨ret_si ?_ rfl, hb⟩
  rw [hbs, Na.isT_is h, hx]
theorem pow_fit (A : Option Addr) (ca n : Nat) (l : List Int) (x z : Int) (w : World) (hr : Num w A l x) (hn : n ≤ 9223372036854775807) (hz : pw x n = z) (hf : z < Na.Bp 1024) :
    Calls Tryd.prog 27 #[.slice A l.length ca, .int .i64 n] w (PostNumE z w) := by
  subst hz
  refine (pow_any A ca n l x w hr hn).mono ?_
  rintro e w' (⟨-, k⟩ | ⟨k, -⟩)
  · exact k
  · exact absurd hf k
theorem fit_of {z : Int} (k : Nat) (hk : k ≤ 1024) (h : z < Na.Bp k) : z < Na.Bp 1024 := by
  have := Na.Bp_le hk
  omega

theorem right_50 (w : World) : Calls Tryd.prog 18 #[.slice (some ⟨w.heap.size, 0, none⟩) 2 2] (w.alloc (.cells #[.int .u32 5, .int .u32 0] 48)) fun e w' => e = .returned (.bool false) ∧ w.alloc (.cells #[.int .u32 5, .int .u32 0] 48) = w' :=
  right_any (some ⟨w.heap.size, 0, none⟩) 2 [5, 0] _ (rdk_new .u32 w [5, 0] 48) (by simp)
/-- nothing is asked of the listed variables -/
def Rdy (w : World) : Prop := True
theorem rdy_of {W : World} (h : True) : Rdy W := h

set_option maxRecDepth 100000 in
set_option maxHeartbeats 8000000 in
theorem awake_any (w : World) : Calls Tryd.prog 12 #[] w fun e w' => e = .returned (.bool true) ∧ Below w.heap.size w w' := by
  have z1 : Num w none [] 0 := ⟨RdK.nil _ _ _, Na.Can.nil, by simp, rfl⟩
  have O1 := Lib.hid (fun W => of_any 4294967296 W (by omega) (by omega))
  have O2 := Lib.hid (fun W => of_any 10 W (by omega) (by omega))
  have O3 := Lib.hid (fun W => of_any 1 W (by omega) (by omega))
  have O4 := Lib.hid (fun W => of_any 2 W (by omega) (by omega))
  have M1 := Lib.hid (fun A c l W (h : Num W A l 4294967296) => show Calls Tryd.prog 16 #[.slice A l.length c, .slice A l.length c] W (PostNumE 18446744073709551616 W) from mul_fit A A c c l l 4294967296 4294967296 W h h (fit_of 3 (by omega) (by decide)))
  have T1 := Lib.hid (fun A c l W (h : Num W A l 18446744073709551616) => text_is A c l _ [49, 56, 52, 52, 54, 55, 52, 52, 48, 55, 51, 55, 48, 57, 53, 53, 49, 54, 49, 54] #[49, 56, 52, 52, 54, 55, 52, 52, 48, 55, 51, 55, 48, 57, 53, 53, 49, 54, 49, 54] W h rfl (by decide) (by decide))
  have T2 := Lib.hid (fun A c l W (h : Num W A l (18446744073709551616 / 10)) => text_is A c l _ [49, 56, 52, 52, 54, 55, 52, 52, 48, 55, 51, 55, 48, 57, 53, 53, 49, 54, 49] #[49, 56, 52, 52, 54, 55, 52, 52, 48, 55, 51, 55, 48, 57, 53, 53, 49, 54, 49] W h rfl (by decide) (by decide))
  have T3 := Lib.hid (fun A c l W (h : Num W A l 100000000000000000000) => text_is A c l _ [49, 48, 48, 48, 48, 48, 48, 48, 48, 48, 48, 48, 48, 48, 48, 48, 48, 48, 48, 48, 48] #[49, 48, 48, 48, 48, 48, 48, 48, 48, 48, 48, 48, 48, 48, 48, 48, 48, 48, 48, 48, 48] W h rfl (by decide) (by decide))
  have P1 := Lib.hid (fun A c l W (h : Num W A l 10) => show Calls Tryd.prog 27 #[.slice A l.length c, .int .i64 20] W (PostNumE 100000000000000000000 W) from pow_fit A c 20 l 10 _ W h (by omega) (by decide) (fit_of 3 (by omega) (by decide)))
  have P2 := Lib.hid (fun W => show Calls Tryd.prog 27 #[.slice none 0 0, .int .i64 0] W (PostNumE 1 W) from pow_fit none 0 0 [] 0 _ W ⟨RdK.nil _ _ _, Na.Can.nil, by simp, rfl⟩ (by omega) rfl (fit_of 1 (by omega) (by decide)))
  have R1 := Lib.hid (fun W => read_no ⟨#[48, 48, 55]⟩ W (by decide) (by decide))
  clear z1
  go_enter Tryd.func12, Tryd.ntmps12
  go_wp2_with (first
    | (go_at_call 22; (with_reducible refine (O1.out _).mono ?_); rintro e w1 ⟨A1, c1, l1, rfl, h, hb⟩; have B1 := Lib.hid hb; have N1 := Lib.hid h; clear h hb)
    | (go_at_call 16; (with_reducible refine (M1.out A1 c1 l1 w1 N1.out).mono ?_); rintro e w2 ⟨A2, c2, l2, rfl, h, hb⟩; have B2 := Lib.hid (B1.out.trans (hb.mono B1.out.size)); have N2 := Lib.hid (And.intro (N1.out.below hb) h); clear h hb)
    | (go_at_call 25; (with_reducible refine (T1.out A2 c2 l2 w2 N2.out.2).mono ?_); rintro e w3 ⟨rfl, hb⟩; have B3 := Lib.hid (B2.out.trans (hb.mono B2.out.size)); have N3 := Lib.hid (And.intro (N2.out.1.below hb) (N2.out.2.below hb)); clear hb)
    | (go_at_call 22; (with_reducible refine (O2.out w3).mono ?_); rintro e w4 ⟨A4, c4, l4, rfl, h, hb⟩; have B4 := Lib.hid (B3.out.trans (hb.mono B3.out.size)); have N4 := Lib.hid (And.intro (N3.out.1.below hb) (And.intro (N3.out.2.below hb) h)); clear h hb)
    | (go_at_call 15; (with_reducible refine (divmod_yes A2 A4 c2 c4 l2 l4 _ _ w4 N4.out.2.1 N4.out.2.2 (by decide)).mono ?_); rintro e w5 ⟨A5, c5, l5, A6, c6, l6, rfl, h, h', hb⟩; have B5 := Lib.hid (B4.out.trans (hb.mono B4.out.size)); have N5 := Lib.hid (And.intro (N4.out.1.below hb) (And.intro (N4.out.2.1.below hb) (And.intro h h'))); clear h h' hb)
    | (go_at_call 25; (with_reducible refine (T2.out A5 c5 l5 w5 N5.out.2.2.1).mono ?_); rintro e w6 ⟨rfl, hb⟩; have B6 := Lib.hid (B5.out.trans (hb.mono B5.out.size)); have N6 := Lib.hid (And.intro (N5.out.1.below hb) (And.intro (N5.out.2.1.below hb) (N5.out.2.2.2.below hb))); clear hb)
    | (go_at_call 22; (with_reducible refine (O3.out w6).mono ?_); rintro e w7 ⟨A7, c7, l7, rfl, h, hb⟩; have B7 := Lib.hid (B6.out.trans (hb.mono B6.out.size)); have N7 := Lib.hid (And.intro (N6.out.1.below hb) (And.intro (N6.out.2.1.below hb) (And.intro (N6.out.2.2.below hb) h))); clear h hb)
    | (go_at_call 22; (with_reducible refine (O4.out w7).mono ?_); rintro e w8 ⟨A8, c8, l8, rfl, h, hb⟩; have B8 := Lib.hid (B7.out.trans (hb.mono B7.out.size)); have N8 := Lib.hid (And.intro (N7.out.1.below hb) (And.intro (N7.out.2.1.below hb) (And.intro (N7.out.2.2.1.below hb) (And.intro (N7.out.2.2.2.below hb) h)))); clear h hb)
    | (go_at_call 21; (with_reducible refine (sub_less A7 A8 c7 c8 l7 l8 1 2 w8 N8.out.2.2.2.1 N8.out.2.2.2.2 (by decide)).mono ?_); rintro e w9 ⟨rfl, hb⟩; have B9 := Lib.hid (B8.out.trans (hb.mono B8.out.size)); have N9 := Lib.hid (And.intro (N8.out.1.below hb) (And.intro (N8.out.2.1.below hb) (N8.out.2.2.1.below hb))); clear hb)
    | (go_at_call 20; (with_reducible refine (same_lit A1 c1 2 l1 [0, 1] 4294967296 #[.int .u32 0, .int .u32 1] w9 N9.out.1 rfl (can_of (by decide) (by decide)) rfl (by decide) (by decide)).mono ?_); rintro e w10 ⟨rfl, hb⟩; have B10 := Lib.hid (B9.out.trans (hb.mono B9.out.size)); have N10 := Lib.hid (And.intro (N9.out.2.1.below hb) (N9.out.2.2.below hb)); clear hb)
    | (go_at_call 20; (with_reducible refine (same_lit A2 c2 3 l2 [0, 0, 1] 18446744073709551616 #[.int .u32 0, .int .u32 0, .int .u32 1] w10 N10.out.1 rfl (can_of (by decide) (by decide)) rfl (by decide) (by decide)).mono ?_); rintro e w11 ⟨rfl, hb⟩; have B11 := Lib.hid (B10.out.trans (hb.mono B10.out.size)); have N11 := Lib.hid (N10.out.2.below hb); clear hb)
    | (go_at_call 20; (with_reducible refine (same_lit A6 c6 1 l6 [6] (18446744073709551616 % 10) #[.int .u32 6] w11 N11.out rfl (can_of (by decide) (by decide)) rfl (by decide) (by decide)).mono ?_); rintro e w12 ⟨rfl, hb⟩; have B12 := Lib.hid (B11.out.trans (hb.mono B11.out.size)); clear hb)
    | (go_at_call 22; (with_reducible refine (O2.out w12).mono ?_); rintro e w13 ⟨A13, c13, l13, rfl, h, hb⟩; have B13 := Lib.hid (B12.out.trans (hb.mono B12.out.size)); have N13 := Lib.hid h; clear h hb)
    | (go_at_call 27; (with_reducible refine (P1.out A13 c13 l13 w13 N13.out).mono ?_); rintro e w14 ⟨A14, c14, l14, rfl, h, hb⟩; have B14 := Lib.hid (B13.out.trans (hb.mono B13.out.size)); have N14 := Lib.hid h; clear h hb)
    | (go_at_call 25; (with_reducible refine (T3.out A14 c14 l14 w14 N14.out).mono ?_); rintro e w15 ⟨rfl, hb⟩; have B15 := Lib.hid (B14.out.trans (hb.mono B14.out.size)); clear hb)
    | (go_at_call 27; (with_reducible refine (P2.out w15).mono ?_); rintro e w16 ⟨A16, c16, l16, rfl, h, hb⟩; have B16 := Lib.hid (B15.out.trans (hb.mono B15.out.size)); have N16 := Lib.hid h; clear h hb)
    | (go_at_call 26; (with_reducible refine (R1.out w16).mono ?_); rintro e w17 ⟨rfl, rfl⟩)
    | (go_at_call 20; (with_reducible refine (same_lit A16 c16 1 l16 [1] 1 #[.int .u32 1] w16 N16.out rfl (can_of (by decide) (by decide)) rfl (by decide) (by decide)).mono ?_); rintro e w18 ⟨rfl, hb⟩; have B18 := Lib.hid (B16.out.trans (hb.mono B16.out.size)); clear hb)
    | (go_at_call 18; (with_reducible refine (right_50 w18).mono ?_); rintro e w19 ⟨rfl, rfl⟩)
    | fail)
  go_ret
  exact ⟨rfl, B18.out.alloc B18.out.size _⟩

end Go.Proofs.YtgcfmkelanhdhaaDoor
