/-
  The walk of the law CivilSmall.
-/
import Derived.Test.YtmlniggmknjneaaDoorCivWorks
import Derived.Test.YtmlniggmknjneaaDoorCivReads
import Derived.BigRegion
import Derived.Deep.RegionHeld3
namespace Go.Proofs.YtmlniggmknjneaaDoor
open Go.RowKit
set_option linter.unusedVariables false

/-- a block of numbers -/
structure Ints (w : World) (b n : Nat) : Prop where
  lt : b < w.heap.size
  cells : ∀ j, j < n → ∃ z : Int, w.cell? ⟨b, j, none⟩ = some (.int .i64 z) ∧ -9223372036854775808 ≤ z ∧ z ≤ 9223372036854775807
theorem Ints.below {w w1 : World} {b n : Nat} (h : Ints w b n) (hb : Below w.heap.size w w1) : Ints w1 b n :=
  ⟨by have := hb.size; have := h.lt; omega, fun j hj => by obtain ⟨z, hz, h1⟩ := h.cells j hj; exact ⟨z, (bcell hb b j h.lt).trans hz, h1⟩⟩
theorem Ints.new (W : World) (zs : List Int) (t : TypeId) (h0 : 0 < zs.length) (h : ∀ z ∈ zs, -9223372036854775808 ≤ z ∧ z ≤ 9223372036854775807) : Ints (W.alloc (.cells (zs.map (Value.int .i64)).toArray t)) W.heap.size zs.length := by
  refine ⟨?_, fun j hj => ⟨zs[j], new_cell W _ t j _ (by simp [hj]), h _ (List.getElem_mem hj)⟩⟩
  exact new_lt W (.int .i64 zs[0]) _ t (by simp [h0])

/-- a block of short strings -/
structure Strs (w : World) (b n : Nat) : Prop where
  lt : b < w.heap.size
  cells : ∀ j, j < n → ∃ s : ByteArray, w.cell? ⟨b, j, none⟩ = some (.string s) ∧ s.size ≤ 16
theorem Strs.below {w w1 : World} {b n : Nat} (h : Strs w b n) (hb : Below w.heap.size w w1) : Strs w1 b n :=
  ⟨by have := hb.size; have := h.lt; omega, fun j hj => by obtain ⟨z, hz, h1⟩ := h.cells j hj; exact ⟨z, (bcell hb b j h.lt).trans hz, h1⟩⟩
theorem Strs.new (W : World) (zs : List ByteArray) (t : TypeId) (h0 : 0 < zs.length) (h : ∀ z ∈ zs, z.size ≤ 16) : Strs (W.alloc (.cells (zs.map Value.string).toArray t)) W.heap.size zs.length := by
  refine ⟨?_, fun j hj => ⟨zs[j], new_cell W _ t j _ (by simp [hj]), h _ (List.getElem_mem hj)⟩⟩
  exact new_lt W (.string zs[0]) _ t (by simp [h0])
structure SmallS (b : Nat) (w V : World) : Prop where
  strs : Strs V b 2
  bel : Below w.heap.size w V
theorem SmallS.next {b : Nat} {w V W : World} (hb : Below V.heap.size V W) (h : SmallS b w V) : SmallS b w W := ⟨h.strs.below hb, h.bel.trans (hb.mono h.bel.size)⟩
theorem SmallS.drew {b : Nat} {w V : World} (h : SmallS b w V) : SmallS b w V.drew := h.next (Below.refl _ _).drew
theorem conv_byte (W V : World) (c : Nat) (h : c < 256) (hV : V.cell? ⟨W.heap.size, 0, none⟩ = some (.int .u8 (c : Int))) : (convert 37 9 (.slice (some ⟨W.heap.size, 0, none⟩) 1 1)).run Tryd.prog V = .ok (.string ⟨#[UInt8.ofNat c]⟩) V := by
  refine run_convert_bytes_back (P := Tryd.prog) _ 37 9 5 ⟨W.heap.size, 0, none⟩ 1 [UInt8.ofNat c] Tryd.underlying37 Tryd.underlying5 Tryd.underlying9 (fun j hj => ?_)
  obtain rfl : j = 0 := by simpa using hj
  simp only [List.getElem_cons_zero]
  have e : ((UInt8.ofNat c).toNat : Int) = (c : Int) := by simp [UInt8.toNat_ofNat']; omega
  rw [e]
  exact hV
theorem rd_new (W : World) (zs : List Int) (t : TypeId) : Rd (W.alloc (.cells (zs.map (Value.int .i64)).toArray t)) (some ⟨W.heap.size, 0, none⟩) zs := by
  intro h0
  have hn := Nat.zero_add
  refine ⟨W.heap.size, 0, rfl, new_lt W (.int .i64 zs[0]) _ t (by simp [h0]), fun i hi => ?_⟩
  rw [Nat.zero_add]
  refine new_cell W _ t i _ ?_
  simp [hi, List.getD_eq_getElem?_getD]

set_option maxRecDepth 100000 in
set_option maxHeartbeats 4000000 in
/-- CivilSmall, given what lists answers -/
theorem small_of (hL : ∀ W, Rdy W → Calls Tryd.prog 25 #[] W fun e w' => e = .returned (.bool true) ∧ Below W.heap.size W w') (w : World) (hw : Rdy w) :
    Calls Tryd.prog 6 #[] w fun e w' => e = .returned (.bool true) ∧ Below w.heap.size w w' := by
  have R0 := Lib.hid hw; clear hw
  have HLL := Lib.hid hL; clear hL
  go_enter Tryd.func6, Tryd.ntmps6
  go_wp2_with fail
  go_loopw [1] (fun y wr => ∃ k : Int, 2000 ≤ k ∧ k ≤ 4002 ∧ y = .int .i64 k ∧ Hid (Below w.heap.size w wr)) (fun y _ => (4002 - intOf y).toNat)
  case atStart => exact ⟨2000, by omega, by omega, rfl, Lib.hid (Below.refl _ _)⟩
  case round =>
    obtain ⟨k, k0, k1, rfl, HB⟩ := hrel
    by_cases hk : k ≤ 4001
    · go_wp2_with fail
      obtain ⟨wo, hwo⟩ : ∃ wo : World, wo = wr := ⟨_, rfl⟩
      rw [← hwo] at HB ⊢
      clear hwo
      go_loopw [2] (fun y wr => ∃ m : Int, 0 ≤ m ∧ m ≤ 14 ∧ y = .int .i64 m ∧ Hid (Below w.heap.size w wr)) (fun y _ => (14 - intOf y).toNat)
      case atStart => exact ⟨0, by omega, by omega, rfl, HB⟩
      case round =>
        obtain ⟨m, m0, m1, rfl, HB1⟩ := hrel
        by_cases hm : m ≤ 13
        · go_wp2_with fail
          have hI : Ints (wr.alloc (.cells #[.int .i64 0, .int .i64 1, .int .i64 28, .int .i64 29, .int .i64 30, .int .i64 31, .int .i64 32] 3)) wr.heap.size 7 := Ints.new wr [0, 1, 28, 29, 30, 31, 32] 3 (by simp) (by intro z hz; simp at hz; omega)
          have HI := Lib.hid hI; clear hI
          have hB2 := HB1.out.alloc HB1.out.size (.cells #[.int .i64 0, .int .i64 1, .int .i64 28, .int .i64 29, .int .i64 30, .int .i64 31, .int .i64 32] 3)
          have HB2 := Lib.hid hB2; clear hB2
          generalize wr.heap.size = b at *
          generalize World.alloc wr _ = w2 at *
          go_loopw [26] (fun y wr => ∃ j : Nat, j ≤ 7 ∧ y = .int .i64 j ∧ Hid (Ints wr b 7) ∧ Hid (Below w.heap.size w wr)) (fun y _ => 7 - (intOf y).toNat)
          case atStart => exact ⟨0, by omega, rfl, HI, HB2⟩
          case round =>
            obtain ⟨j, hj, rfl, HI3, HB3⟩ := hrel
            by_cases hj7 : j < 7
            · obtain ⟨z, hz, -⟩ := HI3.out.cells j hj7
              go_wp2_with (go_at_call 3; refine (tells_any _ _ _ _ _ _ (R0.out.below HB3.out)).mono ?_; rintro e w4 ⟨rfl, hb⟩; have HI4 := Lib.hid (HI3.out.below hb); have HB4 := Lib.hid (HB3.out.trans (hb.mono HB3.out.size)); clear hb)
              all_goals
                refine ⟨⟨j + 1, by omega, by go_num, ?_⟩, by simp [intOf]; omega⟩
                first
                  | exact ⟨HI4, HB4⟩
                  | exact ⟨HI3, HB3⟩
            · go_wp2_with fail
              exact ⟨⟨m + 1, by omega, by omega, rfl, HB3⟩, by simp [intOf]; omega⟩
        · go_wp2_with fail
          exact ⟨⟨k + 1, by omega, by omega, rfl, HB1⟩, by simp [intOf]; omega⟩
    · go_wp2_with fail
      have hI : Ints (wr.alloc (.cells #[.int .i64 (-1), .int .i64 0, .int .i64 1, .int .i64 1439, .int .i64 1440, .int .i64 730483, .int .i64 730484, .int .i64 730485, .int .i64 1051898399, .int .i64 1051898400, .int .i64 (-9223372036854775808), .int .i64 9223372036854775807] 3)) wr.heap.size 12 := Ints.new wr [-1, 0, 1, 1439, 1440, 730483, 730484, 730485, 1051898399, 1051898400, -9223372036854775808, 9223372036854775807] 3 (by simp) (by intro z hz; simp at hz; omega)
      have HI := Lib.hid hI; clear hI
      have hB2 := HB.out.alloc HB.out.size (.cells #[.int .i64 (-1), .int .i64 0, .int .i64 1, .int .i64 1439, .int .i64 1440, .int .i64 730483, .int .i64 730484, .int .i64 730485, .int .i64 1051898399, .int .i64 1051898400, .int .i64 (-9223372036854775808), .int .i64 9223372036854775807] 3)
      have HB2 := Lib.hid hB2; clear hB2
      generalize wr.heap.size = b at *
      generalize World.alloc wr _ = w2 at *
      clear HB k0 k1 hk
      go_loopw [50] (fun y wr => ∃ i : Nat, i ≤ 12 ∧ y = .int .i64 i ∧ Hid (Ints wr b 12) ∧ Hid (Below w.heap.size w wr)) (fun y _ => 12 - (intOf y).toNat)
      case atStart => exact ⟨0, by omega, rfl, HI, HB2⟩
      case round =>
        obtain ⟨i, hi, rfl, HI3, HB3⟩ := hrel
        by_cases hi2 : i < 12
        · obtain ⟨x, hx, x0, x1⟩ := HI3.out.cells i hi2
          have hi3 : decide ((i : Int) < 12) = true := decide_eq_true (by omega)
          go_wp2_with fail
          clear hx
          go_loopw [56] (fun y wr => ∃ j : Nat, j ≤ 12 ∧ y = .int .i64 j ∧ Hid (Ints wr b 12) ∧ Hid (Below w.heap.size w wr)) (fun y _ => 12 - (intOf y).toNat)
          case atStart => exact ⟨0, by omega, rfl, HI3, HB3⟩
          case round =>
            obtain ⟨j, hj, rfl, HI4, HB4⟩ := hrel
            by_cases hj2 : j < 12
            · obtain ⟨y, hy, y0, y1⟩ := HI4.out.cells j hj2
              go_wp2_with fail
              refine (lawDate_any x y wr (R0.out.below HB4.out)).mono ?_
              rintro e w5 ⟨rfl, hb⟩
              have HI5 := Lib.hid (HI4.out.below hb)
              have HB5 := Lib.hid (HB4.out.trans (hb.mono HB4.out.size))
              clear hb hy
              go_wp2_with fail
              refine (tells_any x y x y x w5 (R0.out.below HB5.out)).mono ?_
              rintro e w6 ⟨rfl, hb⟩
              have HI6 := Lib.hid (HI5.out.below hb)
              have HB6 := Lib.hid (HB5.out.trans (hb.mono HB5.out.size))
              clear hb
              go_wp2_with fail
              refine (works_law none 0 [] x y 0 101 1231 w6 (R0.out.below HB6.out) (Rd.nil _ _) (fun _ => ⟨rfl, rfl⟩) x1 (by omega) (by omega) (by omega) (by omega) (by omega)).mono ?_
              rintro e w7 ⟨rfl, hb⟩
              have HI7 := Lib.hid (HI6.out.below hb)
              have HB7 := Lib.hid (HB6.out.trans (hb.mono HB6.out.size))
              clear hb
              go_wp2_with fail
              have hbn := HB7.out.alloc HB7.out.size (.cells #[.int .i64 0, .int .i64 1] 3)
              have hIn := HI7.out.below ((Below.refl w7.heap.size w7).alloc (Nat.le_refl _) (.cells #[.int .i64 0, .int .i64 1] 3))
              refine (works_law (some ⟨w7.heap.size, 0, none⟩) 2 [0, 1] x x y 228 301 (w7.alloc (.cells #[.int .i64 0, .int .i64 1] 3)) (R0.out.below hbn) (rd_new w7 [0, 1] 3) (fun h => by cases h) x1 y1 (by omega) (by omega) (by omega) (by omega)).mono ?_
              rintro e w8 ⟨rfl, hb⟩
              have HI8 := Lib.hid (hIn.below hb)
              have HB8 := Lib.hid (hbn.trans (hb.mono hbn.size))
              clear hb hIn hbn
              go_wp2_with fail
              exact ⟨⟨j + 1, by omega, by go_num, HI8, HB8⟩, by simp [intOf]; omega⟩
            · go_wp2_with fail
              exact ⟨⟨i + 1, by omega, by go_num, HI4, HB4⟩, by simp [intOf]; omega⟩
        · go_wp2_with fail
          have hS : Strs (wr.alloc (.cells #[.string ⟨#[50, 48, 48, 52, 45, 48, 50, 45, 50, 57]⟩, .string ⟨#[52, 48, 48, 48, 45, 49, 50, 45, 51, 49, 32, 50, 51, 58, 53, 57]⟩] 9)) wr.heap.size 2 := Strs.new wr [⟨#[50, 48, 48, 52, 45, 48, 50, 45, 50, 57]⟩, ⟨#[52, 48, 48, 48, 45, 49, 50, 45, 51, 49, 32, 50, 51, 58, 53, 57]⟩] 9 (by simp) (by intro z hz; simp at hz; rcases hz with rfl | rfl <;> decide)
          have HS := Lib.hid hS; clear hS
          have hB5 := HB3.out.alloc HB3.out.size (.cells #[.string ⟨#[50, 48, 48, 52, 45, 48, 50, 45, 50, 57]⟩, .string ⟨#[52, 48, 48, 48, 45, 49, 50, 45, 51, 49, 32, 50, 51, 58, 53, 57]⟩] 9)
          have HB5 := Lib.hid hB5; clear hB5
          generalize wr.heap.size = b2 at *
          generalize World.alloc wr _ = w3 at *
          clear HI3 HB3 HI HB2
          go_loopw [91] (fun y wr => ∃ j : Nat, j ≤ 2 ∧ y = .int .i64 j ∧ Hid (Strs wr b2 2) ∧ Hid (Below w.heap.size w wr)) (fun y _ => 2 - (intOf y).toNat)
          case atStart => exact ⟨0, by omega, rfl, HS, HB5⟩
          case round =>
            obtain ⟨j, hj, rfl, HS3, HB6⟩ := hrel
            by_cases hj2 : j < 2
            · obtain ⟨s, hs, hs16⟩ := HS3.out.cells j hj2
              have hj3 : decide ((j : Int) < 2) = true := decide_eq_true (by omega)
              go_wp2_with fail
              clear hs
              go_loopw [12] (fun y wr => ∃ q : Nat, q ≤ s.size ∧ y = .int .i64 q ∧ Hid (Strs wr b2 2) ∧ Hid (Below w.heap.size w wr)) (fun y _ => s.size - (intOf y).toNat)
              case atStart => exact ⟨0, by omega, rfl, HS3, HB6⟩
              case round =>
                obtain ⟨q, hq, rfl, HS7, HB7⟩ := hrel
                by_cases hq2 : q < s.size
                · have hq3 : decide ((q : Int) < (s.size : Int)) = true := decide_eq_true (by omega)
                  have hq4 : decide (q < s.size) = true := decide_eq_true hq2
                  go_wp2_with fail
                  obtain ⟨wo, hwo⟩ : ∃ wo : World, wo = wr := ⟨_, rfl⟩
                  rw [← hwo] at HS7 HB7 ⊢
                  clear hwo
                  go_loopw [13] (fun y wr => ∃ c : Nat, c ≤ 256 ∧ y = .int .i64 c ∧ Hid (Strs wr b2 2) ∧ Hid (Below w.heap.size w wr)) (fun y _ => 256 - (intOf y).toNat)
                  case atStart => exact ⟨0, by omega, rfl, HS7, HB7⟩
                  case round =>
                    obtain ⟨c, hc, rfl, HS8, HB8⟩ := hrel
                    by_cases hc2 : c < 256
                    · have hcv := conv_byte wr (wr.alloc (.cells #[.int .u8 (c : Int)] 5)).drew c hc2 (by go_simp)
                      have hcw : IntKind.u8.wrap (c : Int) = (c : Int) := by simp [IntKind.wrap, IntKind.bits, IntKind.signed]; omega
                      have hq5 : (q : Int) + 1 ≤ (s.size : Int) := by omega
                      go_wp2_with fail
                      go_region
                      have hB9 := (HB8.out.alloc HB8.out.size (.cells #[.int .u8 (c : Int)] 5)).drew
                      have hS9 := HS8.out.below (((Below.refl wr.heap.size wr).alloc (Nat.le_refl _) (.cells #[.int .u8 (c : Int)] 5)).drew)
                      have HB9 := Lib.hid hB9; have HS9 := Lib.hid hS9; clear hB9 hS9 hcv hcw
                      have hsz : (s.extract 0 q ++ ⟨#[UInt8.ofNat c]⟩ ++ s.extract (q + 1) s.size).size ≤ 9223372036854775807 := by
                        simp [ByteArray.size_append, ByteArray.size_extract]
                        have : (ByteArray.size ⟨#[UInt8.ofNat c]⟩) = 1 := rfl
                        omega
                      generalize (s.extract 0 q ++ ⟨#[UInt8.ofNat c]⟩ ++ s.extract (q + 1) s.size) = x at *
                      generalize World.drew (World.alloc wr _) = w9 at *
                      go_wp2_with fail
                      refine (reads_any x w9 hsz (R0.out.below HB9.out)).mono ?_
                      rintro e w10 ⟨rfl, hb⟩
                      have HS10 := Lib.hid (HS9.out.below hb)
                      have HB10 := Lib.hid (HB9.out.trans (hb.mono HB9.out.size))
                      clear hb
                      go_wp2_with fail
                      exact ⟨⟨c + 1, by omega, by go_num, HS10, HB10⟩, by simp [intOf]; omega⟩
                    · go_wp2_with fail
                      have hq5 : (q : Int) + 1 ≤ (s.size : Int) := by omega
                      have hS0 : SmallS b2 w wr := ⟨HS8.out, HB8.out⟩
                      have hz1 : (s.extract 0 q).size ≤ 9223372036854775807 := by simp [ByteArray.size_extract]; omega
                      have hz2 : (s.extract 0 q ++ s.extract (q + 1) s.size).size ≤ 9223372036854775807 := by simp [ByteArray.size_append, ByteArray.size_extract]; omega
                      have hz3 : (s.extract 0 q ++ ⟨#[32]⟩ ++ s.extract q s.size).size ≤ 9223372036854775807 := by
                        simp [ByteArray.size_append, ByteArray.size_extract]
                        have : (ByteArray.size ⟨#[32]⟩) = 1 := rfl
                        omega
                      have k0 : (0 : Int) ≤ (q : Int) := by omega
                      have k1 : (q : Int) ≤ (s.size : Int) := by omega
                      have k2 : (0 : Int) ≤ (q : Int) + 1 := by omega
                      have k3 : ((q : Int) + 1).toNat = q + 1 := by omega
                      have k4 : IntKind.i64.wrap ((q : Int) + 1) = (q : Int) + 1 := IntWalk.i64_in _ (by omega)
                      have g1 : ¬ 9223372036854775807 < q + (s.size - (q + 1)) := by omega
                      have g2 : ¬ 9223372036854775807 < q + 1 := by omega
                      have g3 : ¬ 9223372036854775807 < q + 1 + (s.size - q) := by omega
                      have C1 := Lib.hid (show ∀ W, SmallS b2 w W → Calls Tryd.prog 4 #[.string (s.extract 0 q)] W fun e w' => e = .returned (.bool true) ∧ Below W.heap.size W w' from fun W h => reads_any _ _ hz1 (R0.out.below h.bel))
                      have C2 := Lib.hid (show ∀ W, SmallS b2 w W → Calls Tryd.prog 4 #[.string (s.extract 0 q ++ s.extract (q + 1) s.size)] W fun e w' => e = .returned (.bool true) ∧ Below W.heap.size W w' from fun W h => reads_any _ _ hz2 (R0.out.below h.bel))
                      have C3 := Lib.hid (show ∀ W, SmallS b2 w W → Calls Tryd.prog 4 #[.string (s.extract 0 q ++ ⟨#[32]⟩ ++ s.extract q s.size)] W fun e w' => e = .returned (.bool true) ∧ Below W.heap.size W w' from fun W h => reads_any _ _ hz3 (R0.out.below h.bel))
                      clear hz1 hz2 hz3
                      go_region_held3 (fun w' => SmallS b2 w w') (first | exact hS0.drew | exact SmallS.next (by assumption) (by assumption))
                        (first
                          | (go_at_call 4; (with_reducible refine (C1.out _ (by assumption)).mono ?_); rintro e w' ⟨rfl, hb⟩)
                          | (go_at_call 4; (with_reducible refine (C2.out _ (by assumption)).mono ?_); rintro e w' ⟨rfl, hb⟩)
                          | (go_at_call 4; (with_reducible refine (C3.out _ (by assumption)).mono ?_); rintro e w' ⟨rfl, hb⟩))
                      have hh : SmallS b2 w w' := by assumption
                      have HS9 := Lib.hid hh.strs
                      have HB9 := Lib.hid hh.bel
                      clear hh C1 C2 C3 g1 g2 g3 k0 k1 k2 k3 k4
                      go_wp2_with fail
                      exact ⟨⟨q + 1, by omega, by go_num, HS9, HB9⟩, by simp [intOf]; omega⟩
                · go_wp2_with fail
                  exact ⟨⟨j + 1, by omega, by go_num, HS7, HB7⟩, by simp [intOf]; omega⟩
            · go_wp2_with fail
              clear HS3 HS HB5
              go_loopw [15] (fun y wr => ∃ n : Int, -1 ≤ n ∧ n ≤ 1301 ∧ y = .int .i64 n ∧ Hid (Below w.heap.size w wr)) (fun y _ => (1301 - intOf y).toNat)
              case atStart => exact ⟨-1, by omega, by omega, rfl, HB6⟩
              case round =>
                obtain ⟨n, n0, n1, rfl, HB7⟩ := hrel
                by_cases hn : n ≤ 1300
                · go_wp2_with fail
                  refine (works_law none 0 [] 1154 1154 0 n 229 wr (R0.out.below HB7.out) (Rd.nil _ _) (fun _ => ⟨rfl, rfl⟩) (by omega) (by omega) (by omega) (by omega) (by omega) (by omega)).mono ?_
                  rintro e w7 ⟨rfl, hb⟩
                  have HB8 := Lib.hid (HB7.out.trans (hb.mono HB7.out.size))
                  clear hb
                  go_wp2_with fail
                  refine (works_law none 0 [] 1153 1154 0 229 n w7 (R0.out.below HB8.out) (Rd.nil _ _) (fun _ => ⟨rfl, rfl⟩) (by omega) (by omega) (by omega) (by omega) (by omega) (by omega)).mono ?_
                  rintro e w8 ⟨rfl, hb⟩
                  have HB9 := Lib.hid (HB8.out.trans (hb.mono HB8.out.size))
                  clear hb
                  go_wp2_with fail
                  exact ⟨⟨n + 1, by omega, by omega, rfl, HB9⟩, by simp [intOf]; omega⟩
                · go_wp2_with fail
                  refine (HLL.out wr (R0.out.below HB7.out)).mono ?_
                  rintro e w8 ⟨rfl, hb⟩
                  have HB9 := Lib.hid (HB7.out.trans (hb.mono HB7.out.size))
                  clear hb
                  go_wp2_with fail
                  go_ret
                  exact ⟨rfl, HB9.out⟩

end Go.Proofs.YtmlniggmknjneaaDoor
