/-
  The examples of the chapter.
-/
import Derived.Test.YtioncjnjhmnlaaaLexLaw
namespace Go.Proofs.Ytioncjnjhmnlaaa
open Go.RowKit Lx
set_option linter.unusedVariables false
set_option linter.unusedSimpArgs false

theorem strs_new (W : World) (l : List ByteArray) : RdW (W.alloc (.cells (l.map Value.string).toArray 9)) 0 (some ⟨W.heap.size, 0, none⟩) l := by
  intro h0
  refine ⟨W.heap.size, 0, rfl, Nat.zero_le _, by simp, fun i hi => ?_⟩
  rw [Nat.zero_add]
  refine new_cell W _ _ i _ ?_
  simp [hi, List.getD_eq_getElem?_getD]
theorem hits_new (W : World) (l : List (Int × Int)) : RdH (W.alloc (.cells (hitC l).toArray 38)) (some ⟨W.heap.size, 0, none⟩) l := by
  intro h0
  refine ⟨W.heap.size, 0, rfl, by simp, fun i hi => ?_⟩
  obtain ⟨q1, q2⟩ := hitC_at l i hi
  rw [show 0 + i * 2 = 2 * i by omega]
  exact ⟨new_cell W _ _ _ _ (by simpa using q1), new_cell W _ _ _ _ (by simpa using q2)⟩
abbrev ws0 : List ByteArray := [⟨#[77, 65, 73, 78]⟩, ⟨#[77, 65, 73, 78, 69]⟩, ⟨#[77, 73, 78, 69]⟩, ⟨#[82, 79, 65, 68]⟩]
theorem aw_e0 : errNew ws0 = 0 := by decide +kernel
theorem aw_e1 : errNew [⟨#[65]⟩, ⟨#[]⟩] = 2 := by decide +kernel
theorem aw_e2 : errNew [⟨#[65]⟩, ⟨#[66]⟩, ⟨#[65]⟩] = 70 := by decide +kernel
theorem aw_h0 : HL c1s ws0 ⟨#[77, 65, 73, 78, 69]⟩ 1 ws0.length = [(0, 1), (1, 0), (2, 1)] := by decide +kernel
theorem aw_n0 : nearOf c1s ws0 ⟨#[77, 65, 73, 78, 69]⟩ 1 = [(1, 0), (0, 1), (2, 1)] := (nearOf_eq (by rw [aw_h0]; exact List.Perm.swap _ _ _) (by unfold InH; simp only [hcmp_lt]; decide)).symm
theorem aw_h1 : HL c1s ws0 ⟨#[77, 65, 78, 73]⟩ 1 ws0.length = [(0, 1)] := by decide +kernel
theorem aw_n1 : nearOf c1s ws0 ⟨#[77, 65, 78, 73]⟩ 1 = [(0, 1)] := (nearOf_eq (by rw [aw_h1]) (by unfold InH; simp only [hcmp_lt]; decide)).symm
theorem aw_h2 : HL c1s ws0 ⟨#[77, 65, 73, 78, 83]⟩ 2 ws0.length = [(0, 1), (1, 1), (2, 2)] := by decide +kernel
theorem aw_n2 : nearOf c1s ws0 ⟨#[77, 65, 73, 78, 83]⟩ 2 = [(0, 1), (1, 1), (2, 2)] := (nearOf_eq (by rw [aw_h2]) (by unfold InH; simp only [hcmp_lt]; decide)).symm
theorem aw_h3 : HL c1s ws0 ⟨#[88]⟩ 0 ws0.length = [] := by decide +kernel
theorem aw_n3 : nearOf c1s ws0 ⟨#[88]⟩ 0 = [] := (nearOf_eq (by rw [aw_h3]) (by unfold InH; simp only [hcmp_lt]; decide)).symm
theorem aw_b : bestOf (nearOf c1s ws0 ⟨#[77, 65, 73, 78, 83]⟩ 2) = [(0, 1), (1, 1)] := by rw [aw_n2]; decide
theorem aw_f : fnd (txs ws0) (tx ⟨#[82, 79, 65, 68]⟩) = some 3 := by decide +kernel
theorem aw_p : ints (pre (txs ws0) (tx ⟨#[77, 65]⟩)) = [0, 1] := by decide +kernel
theorem aw_new (W : World) : Calls Try.prog 10 #[.slice (some ⟨W.heap.size, 0, none⟩) 4 4] (W.alloc (.cells #[.string ⟨#[77, 65, 73, 78]⟩, .string ⟨#[77, 65, 73, 78, 69]⟩, .string ⟨#[77, 73, 78, 69]⟩, .string ⟨#[82, 79, 65, 68]⟩] 9)) fun e w' => ∃ x, e = .returned (.tuple #[.pointer (some ⟨x, 0, none⟩), .int .i64 0]) ∧ LexO w' (W.heap.size + 1) x ws0 ∧ Below W.heap.size W w' := by
  refine (new_any (some ⟨W.heap.size, 0, none⟩) 4 0 ws0 _ (strs_new W ws0) (by decide)).mono ?_
  rintro e w' ⟨hb, ⟨-, x, rfl, hx⟩ | ⟨h, -⟩⟩
  · refine ⟨x, rfl, by simpa using hx, (below_new W _).trans (hb.mono (by simp))⟩
  · exact absurd aw_e0 h
theorem aw_new2 (W : World) : Calls Try.prog 10 #[.slice (some ⟨W.heap.size, 0, none⟩) 2 2] (W.alloc (.cells #[.string ⟨#[65]⟩, .string ⟨#[]⟩] 9)) fun e w' => e = .returned (.tuple #[.pointer none, .int .i64 2]) ∧ Below W.heap.size W w' := by
  refine (new_any (some ⟨W.heap.size, 0, none⟩) 2 0 [⟨#[65]⟩, ⟨#[]⟩] _ (strs_new W [⟨#[65]⟩, ⟨#[]⟩]) (by decide)).mono ?_
  rintro e w' ⟨hb, ⟨h, -⟩ | ⟨-, rfl⟩⟩
  · rw [aw_e1] at h; cases h
  · exact ⟨by rw [aw_e1]; rfl, (below_new W _).trans (hb.mono (by simp))⟩
theorem aw_new3 (W : World) : Calls Try.prog 10 #[.slice (some ⟨W.heap.size, 0, none⟩) 3 3] (W.alloc (.cells #[.string ⟨#[65]⟩, .string ⟨#[66]⟩, .string ⟨#[65]⟩] 9)) fun e w' => e = .returned (.tuple #[.pointer none, .int .i64 70]) ∧ Below W.heap.size W w' := by
  refine (new_any (some ⟨W.heap.size, 0, none⟩) 3 0 [⟨#[65]⟩, ⟨#[66]⟩, ⟨#[65]⟩] _ (strs_new W [⟨#[65]⟩, ⟨#[66]⟩, ⟨#[65]⟩]) (by decide)).mono ?_
  rintro e w' ⟨hb, ⟨h, -⟩ | ⟨-, rfl⟩⟩
  · rw [aw_e2] at h; cases h
  · exact ⟨by rw [aw_e2]; rfl, (below_new W _).trans (hb.mono (by simp))⟩
theorem aw_near0 (V : World) (b x : Nat) (h : LexO V b x ws0) : Calls Try.prog 11 #[.pointer (some ⟨x, 0, none⟩), .string ⟨#[77, 65, 73, 78, 69]⟩, .agg #[.int .i64 1, .int .i64 1, .int .i64 1, .int .i64 1], .int .i64 1] V fun e w' => ∃ A cp, e = .returned (.tuple #[.slice A 3 cp, .int .i64 0]) ∧ RdH w' A [(1, 0), (0, 1), (2, 1)] ∧ Below V.heap.size V w' := by
  refine Calls.mono (near_ok b x c1s ws0 ⟨#[77, 65, 73, 78, 69]⟩ 1 V h (by decide) (by decide)) ?_
  rintro e w' ⟨A, n, cp, rfl, ho, hb⟩
  rw [aw_n0] at ho
  obtain ⟨A', cp', e1, -, -, hr⟩ := ho.shape
  cases e1
  exact ⟨A, cp, rfl, hr, hb⟩
theorem aw_near1 (V : World) (b x : Nat) (h : LexO V b x ws0) : Calls Try.prog 11 #[.pointer (some ⟨x, 0, none⟩), .string ⟨#[77, 65, 78, 73]⟩, .agg #[.int .i64 1, .int .i64 1, .int .i64 1, .int .i64 1], .int .i64 1] V fun e w' => ∃ A cp, e = .returned (.tuple #[.slice A 1 cp, .int .i64 0]) ∧ RdH w' A [(0, 1)] ∧ Below V.heap.size V w' := by
  refine Calls.mono (near_ok b x c1s ws0 ⟨#[77, 65, 78, 73]⟩ 1 V h (by decide) (by decide)) ?_
  rintro e w' ⟨A, n, cp, rfl, ho, hb⟩
  rw [aw_n1] at ho
  obtain ⟨A', cp', e1, -, -, hr⟩ := ho.shape
  cases e1
  exact ⟨A, cp, rfl, hr, hb⟩
theorem aw_near3 (V : World) (b x : Nat) (h : LexO V b x ws0) : Calls Try.prog 11 #[.pointer (some ⟨x, 0, none⟩), .string ⟨#[88]⟩, .agg #[.int .i64 1, .int .i64 1, .int .i64 1, .int .i64 1], .int .i64 0] V fun e w' => ∃ A cp, e = .returned (.tuple #[.slice A 0 cp, .int .i64 0]) ∧ RdH w' A [] ∧ Below V.heap.size V w' := by
  refine Calls.mono (near_ok b x c1s ws0 ⟨#[88]⟩ 0 V h (by decide) (by decide)) ?_
  rintro e w' ⟨A, n, cp, rfl, ho, hb⟩
  rw [aw_n3] at ho
  obtain ⟨A', cp', e1, -, -, hr⟩ := ho.shape
  cases e1
  exact ⟨A, cp, rfl, hr, hb⟩
theorem aw_best (V : World) (b x : Nat) (h : LexO V b x ws0) : Calls Try.prog 12 #[.pointer (some ⟨x, 0, none⟩), .string ⟨#[77, 65, 73, 78, 83]⟩, .agg #[.int .i64 1, .int .i64 1, .int .i64 1, .int .i64 1], .int .i64 2] V fun e w' => ∃ A cp, e = .returned (.tuple #[.slice A 2 cp, .int .i64 0]) ∧ RdH w' A [(0, 1), (1, 1)] ∧ Below V.heap.size V w' := by
  refine Calls.mono (best_ok b x c1s ws0 ⟨#[77, 65, 73, 78, 83]⟩ 2 V h (by decide) (by decide)) ?_
  rintro e w' ⟨A, cp, rfl, hr, -, -, hb⟩
  rw [aw_b] at hr ⊢
  exact ⟨A, cp, rfl, hr, hb⟩
theorem aw_same0 (V : World) (A : Option Addr) (cp : Nat) (h : RdH V A [(1, 0), (0, 1), (2, 1)]) : Calls Try.prog 14 #[.slice A 3 cp, .slice (some ⟨V.heap.size, 0, none⟩) 3 3] (V.alloc (.cells #[.int .i64 1, .int .i64 0, .int .i64 0, .int .i64 1, .int .i64 2, .int .i64 1] 38)) fun e w' => e = .returned (.bool true) ∧ Below V.heap.size V w' := by
  refine (same_any A (some ⟨V.heap.size, 0, none⟩) 3 3 cp 3 [(1, 0), (0, 1), (2, 1)] [(1, 0), (0, 1), (2, 1)] _ rfl rfl (by decide) (by decide) (h.below (below_new V _)) (hits_new V [(1, 0), (0, 1), (2, 1)])).mono ?_
  rintro e w' ⟨rfl, hb⟩
  exact ⟨rfl, (below_new V _).trans (hb.mono (by simp))⟩
theorem aw_same1 (V : World) (A : Option Addr) (cp : Nat) (h : RdH V A [(0, 1)]) : Calls Try.prog 14 #[.slice A 1 cp, .slice (some ⟨V.heap.size, 0, none⟩) 1 1] (V.alloc (.cells #[.int .i64 0, .int .i64 1] 38)) fun e w' => e = .returned (.bool true) ∧ Below V.heap.size V w' := by
  refine (same_any A (some ⟨V.heap.size, 0, none⟩) 1 1 cp 1 [(0, 1)] [(0, 1)] _ rfl rfl (by decide) (by decide) (h.below (below_new V _)) (hits_new V [(0, 1)])).mono ?_
  rintro e w' ⟨rfl, hb⟩
  exact ⟨rfl, (below_new V _).trans (hb.mono (by simp))⟩
theorem aw_same2 (V : World) (A : Option Addr) (cp : Nat) (h : RdH V A [(0, 1), (1, 1)]) : Calls Try.prog 14 #[.slice A 2 cp, .slice (some ⟨V.heap.size, 0, none⟩) 2 2] (V.alloc (.cells #[.int .i64 0, .int .i64 1, .int .i64 1, .int .i64 1] 38)) fun e w' => e = .returned (.bool true) ∧ Below V.heap.size V w' := by
  refine (same_any A (some ⟨V.heap.size, 0, none⟩) 2 2 cp 2 [(0, 1), (1, 1)] [(0, 1), (1, 1)] _ rfl rfl (by decide) (by decide) (h.below (below_new V _)) (hits_new V [(0, 1), (1, 1)])).mono ?_
  rintro e w' ⟨rfl, hb⟩
  exact ⟨rfl, (below_new V _).trans (hb.mono (by simp))⟩
theorem aw_find (V : World) (b x : Nat) (h : LexO V b x ws0) : Calls Try.prog 15 #[.pointer (some ⟨x, 0, none⟩), .string ⟨#[82, 79, 65, 68]⟩] V fun e w' => e = .returned (.tuple #[.int .i64 3, .bool true]) ∧ Below V.heap.size V w' := by
  refine (find_any b x ws0 ⟨#[82, 79, 65, 68]⟩ V h (by decide)).mono ?_
  rintro e w' ⟨rfl, hb⟩
  exact ⟨by rw [aw_f]; rfl, hb⟩
theorem aw_prefix (V : World) (b x : Nat) (h : LexO V b x ws0) : Calls Try.prog 19 #[.pointer (some ⟨x, 0, none⟩), .string ⟨#[77, 65]⟩] V fun e w' => ∃ A cp, e = .returned (.slice A 2 cp) ∧ Rd w' A [0, 1] ∧ Below V.heap.size V w' := by
  refine (prefix_any b x ws0 ⟨#[77, 65]⟩ V h (by decide)).mono ?_
  rintro e w' ⟨A, n, c, rfl, ho, hb⟩
  rw [aw_p] at ho
  obtain ⟨A', cp', e1, -, hr⟩ := ho.rd
  cases e1
  exact ⟨A, c, rfl, hr, hb⟩
theorem aw_ints (V : World) (A : Option Addr) (cp : Nat) (h : Rd V A [0, 1]) : Calls Try.prog 18 #[.slice A 2 cp, .slice (some ⟨V.heap.size, 0, none⟩) 2 2] (V.alloc (.cells #[.int .i64 0, .int .i64 1] 3)) fun e w' => e = .returned (.bool true) ∧ Below V.heap.size V w' := by
  refine (same_yes A (some ⟨V.heap.size, 0, none⟩) 2 cp 2 [0, 1] _ (h.below (below_new V _)) (rd_new V [0, 1] _) (by decide)).mono ?_
  rintro e w' ⟨rfl, hb⟩
  exact ⟨rfl, (below_new V _).trans (hb.mono (by simp))⟩
set_option maxRecDepth 100000 in
set_option maxHeartbeats 8000000 in
theorem awake_any (w : World) : Calls Try.prog 7 #[] w (PostB true w) := by
  have on := fun V => ones_any V
  unfold cstV c1s at on
  have ON := Lib.hid on
  clear on
  go_enter Try.func7, Try.ntmps7
  go_wp2_with (first
    | (go_at_call 10; (with_reducible refine (aw_new _).mono ?_); rintro e V0 ⟨x, rfl, hx, hb⟩; have LX := Lib.hid hx; have HB := Lib.hid hb; clear hx hb)
    | (go_at_call 20; (with_reducible refine (ON.out _).mono ?_); rintro e V1 ⟨rfl, hb⟩; have LX := Lib.hid (LX.out.below hb); have HB := Lib.hid (HB.out.trans (hb.mono HB.out.size)); (first | (have R0 := Lib.hid (R0.out.below hb)) | skip); (first | (have R1 := Lib.hid (R1.out.below hb)) | skip); (first | (have R2 := Lib.hid (R2.out.below hb)) | skip); (first | (have R3 := Lib.hid (R3.out.below hb)) | skip); (first | (have R4 := Lib.hid (R4.out.below hb)) | skip); clear hb)
    | (go_at_call 11; (with_reducible refine (aw_near0 _ _ _ LX.out).mono ?_); rintro e V2 ⟨A0, cp0, rfl, hr, hb⟩; have LX := Lib.hid (LX.out.below hb); have HB := Lib.hid (HB.out.trans (hb.mono HB.out.size)); (first | (have R0 := Lib.hid (R0.out.below hb)) | skip); (first | (have R1 := Lib.hid (R1.out.below hb)) | skip); (first | (have R2 := Lib.hid (R2.out.below hb)) | skip); (first | (have R3 := Lib.hid (R3.out.below hb)) | skip); (first | (have R4 := Lib.hid (R4.out.below hb)) | skip); have R0 := Lib.hid hr; clear hb hr)
    | (go_at_call 11; (with_reducible refine (aw_near1 _ _ _ LX.out).mono ?_); rintro e V2 ⟨A1, cp1, rfl, hr, hb⟩; have LX := Lib.hid (LX.out.below hb); have HB := Lib.hid (HB.out.trans (hb.mono HB.out.size)); (first | (have R0 := Lib.hid (R0.out.below hb)) | skip); (first | (have R1 := Lib.hid (R1.out.below hb)) | skip); (first | (have R2 := Lib.hid (R2.out.below hb)) | skip); (first | (have R3 := Lib.hid (R3.out.below hb)) | skip); (first | (have R4 := Lib.hid (R4.out.below hb)) | skip); have R1 := Lib.hid hr; clear hb hr)
    | (go_at_call 11; (with_reducible refine (aw_near3 _ _ _ LX.out).mono ?_); rintro e V2 ⟨A3, cp3, rfl, hr, hb⟩; have LX := Lib.hid (LX.out.below hb); have HB := Lib.hid (HB.out.trans (hb.mono HB.out.size)); (first | (have R0 := Lib.hid (R0.out.below hb)) | skip); (first | (have R1 := Lib.hid (R1.out.below hb)) | skip); (first | (have R2 := Lib.hid (R2.out.below hb)) | skip); (first | (have R3 := Lib.hid (R3.out.below hb)) | skip); (first | (have R4 := Lib.hid (R4.out.below hb)) | skip); have R3 := Lib.hid hr; clear hb hr)
    | (go_at_call 12; (with_reducible refine (aw_best _ _ _ LX.out).mono ?_); rintro e V2 ⟨A2, cp2, rfl, hr, hb⟩; have LX := Lib.hid (LX.out.below hb); have HB := Lib.hid (HB.out.trans (hb.mono HB.out.size)); (first | (have R0 := Lib.hid (R0.out.below hb)) | skip); (first | (have R1 := Lib.hid (R1.out.below hb)) | skip); (first | (have R2 := Lib.hid (R2.out.below hb)) | skip); (first | (have R3 := Lib.hid (R3.out.below hb)) | skip); (first | (have R4 := Lib.hid (R4.out.below hb)) | skip); have R2 := Lib.hid hr; clear hb hr)
    | (go_at_call 14; (with_reducible refine (aw_same0 _ _ _ R0.out).mono ?_); rintro e V2 ⟨rfl, hb⟩; have LX := Lib.hid (LX.out.below hb); have HB := Lib.hid (HB.out.trans (hb.mono HB.out.size)); (first | (have R0 := Lib.hid (R0.out.below hb)) | skip); (first | (have R1 := Lib.hid (R1.out.below hb)) | skip); (first | (have R2 := Lib.hid (R2.out.below hb)) | skip); (first | (have R3 := Lib.hid (R3.out.below hb)) | skip); (first | (have R4 := Lib.hid (R4.out.below hb)) | skip); clear hb)
    | (go_at_call 14; (with_reducible refine (aw_same1 _ _ _ R1.out).mono ?_); rintro e V2 ⟨rfl, hb⟩; have LX := Lib.hid (LX.out.below hb); have HB := Lib.hid (HB.out.trans (hb.mono HB.out.size)); (first | (have R0 := Lib.hid (R0.out.below hb)) | skip); (first | (have R1 := Lib.hid (R1.out.below hb)) | skip); (first | (have R2 := Lib.hid (R2.out.below hb)) | skip); (first | (have R3 := Lib.hid (R3.out.below hb)) | skip); (first | (have R4 := Lib.hid (R4.out.below hb)) | skip); clear hb)
    | (go_at_call 14; (with_reducible refine (aw_same2 _ _ _ R2.out).mono ?_); rintro e V2 ⟨rfl, hb⟩; have LX := Lib.hid (LX.out.below hb); have HB := Lib.hid (HB.out.trans (hb.mono HB.out.size)); (first | (have R0 := Lib.hid (R0.out.below hb)) | skip); (first | (have R1 := Lib.hid (R1.out.below hb)) | skip); (first | (have R2 := Lib.hid (R2.out.below hb)) | skip); (first | (have R3 := Lib.hid (R3.out.below hb)) | skip); (first | (have R4 := Lib.hid (R4.out.below hb)) | skip); clear hb)
    | (go_at_call 15; (with_reducible refine (aw_find _ _ _ LX.out).mono ?_); rintro e V2 ⟨rfl, hb⟩; have LX := Lib.hid (LX.out.below hb); have HB := Lib.hid (HB.out.trans (hb.mono HB.out.size)); (first | (have R0 := Lib.hid (R0.out.below hb)) | skip); (first | (have R1 := Lib.hid (R1.out.below hb)) | skip); (first | (have R2 := Lib.hid (R2.out.below hb)) | skip); (first | (have R3 := Lib.hid (R3.out.below hb)) | skip); (first | (have R4 := Lib.hid (R4.out.below hb)) | skip); clear hb)
    | (go_at_call 10; (with_reducible refine (aw_new2 _).mono ?_); rintro e V2 ⟨rfl, hb⟩; have LX := Lib.hid (LX.out.below hb); have HB := Lib.hid (HB.out.trans (hb.mono HB.out.size)); (first | (have R0 := Lib.hid (R0.out.below hb)) | skip); (first | (have R1 := Lib.hid (R1.out.below hb)) | skip); (first | (have R2 := Lib.hid (R2.out.below hb)) | skip); (first | (have R3 := Lib.hid (R3.out.below hb)) | skip); (first | (have R4 := Lib.hid (R4.out.below hb)) | skip); clear hb)
    | (go_at_call 10; (with_reducible refine (aw_new3 _).mono ?_); rintro e V2 ⟨rfl, hb⟩; have LX := Lib.hid (LX.out.below hb); have HB := Lib.hid (HB.out.trans (hb.mono HB.out.size)); (first | (have R0 := Lib.hid (R0.out.below hb)) | skip); (first | (have R1 := Lib.hid (R1.out.below hb)) | skip); (first | (have R2 := Lib.hid (R2.out.below hb)) | skip); (first | (have R3 := Lib.hid (R3.out.below hb)) | skip); (first | (have R4 := Lib.hid (R4.out.below hb)) | skip); clear hb)
    | (go_at_call 19; (with_reducible refine (aw_prefix _ _ _ LX.out).mono ?_); rintro e V2 ⟨A4, cp4, rfl, hr, hb⟩; have LX := Lib.hid (LX.out.below hb); have HB := Lib.hid (HB.out.trans (hb.mono HB.out.size)); (first | (have R0 := Lib.hid (R0.out.below hb)) | skip); (first | (have R1 := Lib.hid (R1.out.below hb)) | skip); (first | (have R2 := Lib.hid (R2.out.below hb)) | skip); (first | (have R3 := Lib.hid (R3.out.below hb)) | skip); (first | (have R4 := Lib.hid (R4.out.below hb)) | skip); have R4 := Lib.hid hr; clear hb hr)
    | (go_at_call 18; (with_reducible refine (aw_ints _ _ _ R4.out).mono ?_); rintro e V2 ⟨rfl, hb⟩; have LX := Lib.hid (LX.out.below hb); have HB := Lib.hid (HB.out.trans (hb.mono HB.out.size)); (first | (have R0 := Lib.hid (R0.out.below hb)) | skip); (first | (have R1 := Lib.hid (R1.out.below hb)) | skip); (first | (have R2 := Lib.hid (R2.out.below hb)) | skip); (first | (have R3 := Lib.hid (R3.out.below hb)) | skip); (first | (have R4 := Lib.hid (R4.out.below hb)) | skip); clear hb))
  go_ret
  exact ⟨rfl, HB.out⟩
end Go.Proofs.Ytioncjnjhmnlaaa
