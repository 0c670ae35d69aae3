/-
  EditTells at any arguments.
-/
import Derived.Test.YthojojjdamchpaaEdiRefPath
import Derived.Test.YthojojjdamchpaaEdiAwake
import Derived.Test.YthojojjdamchpaaEdiJoin0
import Derived.Deep.RegionHeld3
import Derived.BigQuiet
namespace Go.Proofs.Ythojojjdamchpaa
open Go.RowKit Go.Shelf
set_option linter.unusedVariables false
set_option linter.unusedSimpArgs false

set_option maxRecDepth 100000 in
theorem costsF_any (c : Ed.Cst) (w : World) : Calls Try.prog 13 #[cstV c] w fun e w' => e = .returned (cstV c) ∧ Below w.heap.size w w' := by
  unfold cstV
  go_enter Try.func13, Try.ntmps13
  go_wp2
  have hb := (below_new w (.cells #[.int .i64 c.ins, .int .i64 c.del, .int .i64 c.chg, .int .i64 c.swp] 23)).alloc (below_new w _).size (.cells #[.int .i64 c.ins, .int .i64 c.del, .int .i64 c.chg, .int .i64 c.swp] 41)
  have hh := heap_alloc_new (w.alloc (.cells #[.int .i64 c.ins, .int .i64 c.del, .int .i64 c.chg, .int .i64 c.swp] 23)) (.cells #[.int .i64 c.ins, .int .i64 c.del, .int .i64 c.chg, .int .i64 c.swp] 41)
  refine bodyPost_ret (results_cell_row (fn := Try.f13) (p := 2) (ty := 41) rfl _ _ (w.heap.size + 1) 41 _ (0, 0) _ (by first | rfl | simp) (by simpa using hh) Try.underlying41 rfl (by kernel_rfl)) rfl ⟨rfl, by first | exact hb | simpa using hb⟩
theorem ownO_len {base e : Nat} {w : World} {A : Option Addr} {n c : Nat} {l : List (Nat × Nat)} (h : OwnO base e w A n c l) : n ≤ 9223372036854775807 := by
  rcases h.2.2 with ⟨hv, h2⟩ | ⟨g, cap, cur, hv, h4, h5, h6, h7, h8⟩
  · omega
  · unfold maxLen at h7; omega
/-- what is kept along tells: both boxes -/
structure LB (w W : World) (q r : Nat) (c : Ed.Cst) : Prop where
  bel : Below w.heap.size w W
  cb : CB W q c
  cr : CB W r c
theorem LB.next {w W W' : World} {q r : Nat} {c : Ed.Cst} (h : LB w W q r c) (hb : Below W.heap.size W W') : LB w W' q r c := ⟨h.bel.trans (hb.mono h.bel.size), h.cb.below hb, h.cr.below hb⟩
set_option maxRecDepth 100000 in
set_option maxHeartbeats 16000000 in
theorem tells_any (a b : ByteArray) (c : Ed.Cst) (most : Int) (w : World) :
    Calls Try.prog 5 #[.string a, .string b, cstV c, .int .i64 most] w (PostB true w) := by
  obtain ⟨W1, hW1, hb1, hq1, hcb⟩ := cbox w c
  have cs := fun V => costsF_any c V
  have ds := fun V => distance_any c a b V
  have rd := fun V => refDist_any a b c V
  have rt := fun V => right_any c V
  have rf := fun V => rightF_any c V
  have wi := fun V => within_any c a b most V
  have pt := fun V => path_any c a b V
  have rp := fun V => refPath_any a b c V
  have hwb : (errOf c a b = 0 ∧ distOf c a b ≤ most ∧ withinD c a b most = distOf c a b ∧ withinB c a b most = true) ∨ (errOf c a b = 0 ∧ ¬ distOf c a b ≤ most ∧ withinD c a b most = 0 ∧ withinB c a b most = false) ∨ (errOf c a b ≠ 0 ∧ withinD c a b most = 0 ∧ withinB c a b most = false) := by
    by_cases he : errOf c a b = 0
    · have hd : distOf c a b = Ed.D c (tx a) (tx b) := if_pos he
      by_cases h : Ed.D c (tx a) (tx b) ≤ most
      · left; rw [hd]; exact ⟨he, h, withinD_yes he h⟩
      · right; left; rw [hd]; exact ⟨he, h, withinD_no h⟩
    · right; right
      exact ⟨he, if_neg fun x => he x.1, decide_eq_false fun x => he x.1⟩
  unfold PostD at ds
  unfold PostW at wi
  unfold PostP at pt
  unfold PostR at rp
  unfold PostB
  have hdr : (if errOf c a b = 0 then Ed.D c (tx a) (tx b) else 0) = distOf c a b := rfl
  simp only [hdr] at rd
  obtain ⟨D, hD⟩ : ∃ D, distOf c a b = D := ⟨_, rfl⟩
  obtain ⟨E, hE⟩ : ∃ E, errOf c a b = E := ⟨_, rfl⟩
  obtain ⟨wD, hwD⟩ : ∃ D, withinD c a b most = D := ⟨_, rfl⟩
  obtain ⟨wB, hwB⟩ : ∃ D, withinB c a b most = D := ⟨_, rfl⟩
  obtain ⟨L, hL⟩ : ∃ L, pathOf c a b = L := ⟨_, rfl⟩
  obtain ⟨ok, hok⟩ : ∃ D, decide c.ok = D := ⟨_, rfl⟩
  simp only [hD, hE, hwD, hwB, hL, hok] at ds rd rt rf wi pt rp hwb
  clear hdr hD hE hwD hwB hL hok
  unfold cstV at cs ds rd rt rf wi pt rp ⊢
  have CS := Lib.hid cs; have DS := Lib.hid ds; have RD := Lib.hid rd; have RT := Lib.hid rt; have RF := Lib.hid rf; have WI := Lib.hid wi; have PT := Lib.hid pt; have RP := Lib.hid rp
  have L0 := Lib.hid (show LS w W1 w.heap.size c from ⟨hb1, hcb⟩)
  obtain ⟨q0, q1, q2, q3⟩ := hcb
  clear cs ds rd rt rf wi pt rp hb1 hq1
  have dd : (D != D) = false := by simp
  have ee : (E != E) = false := by simp
  have oo : (ok != ok) = false := by simp
  have hcase : ∃ (f0 lm : Bool), (E == 0) = f0 ∧ (E != 0) = !f0 ∧ decide (D ≤ most) = lm ∧ decide (most < D) = !lm ∧ ((f0 = true ∧ lm = true ∧ wD = D ∧ wB = true) ∨ (f0 = true ∧ lm = false ∧ wD = 0 ∧ wB = false) ∨ (f0 = false ∧ wD = 0 ∧ wB = false)) := by
    rcases hwb with ⟨h1, h2, h3, h4⟩ | ⟨h1, h2, h3, h4⟩ | ⟨h1, h3, h4⟩
    · exact ⟨true, true, by simp [h1], by simp [h1], decide_eq_true h2, decide_eq_false (by omega), .inl ⟨rfl, rfl, h3, h4⟩⟩
    · exact ⟨true, false, by simp [h1], by simp [h1], decide_eq_false h2, decide_eq_true (by omega), .inr (.inl ⟨rfl, rfl, h3, h4⟩)⟩
    · refine ⟨false, decide (D ≤ most), by simp [h1], by simp [h1], rfl, ?_, .inr (.inr ⟨rfl, h3, h4⟩)⟩
      by_cases h : D ≤ most
      · rw [decide_eq_true h]; exact decide_eq_false (by omega)
      · rw [decide_eq_false h]; exact decide_eq_true (by omega)
  have HCS := Lib.hid hcase
  clear hcase hwb
  go_enter Try.func5, Try.ntmps5
  go_wp2_with fail
  rw [← hW1]
  clear hW1
  go_wp2_with (first
    | (go_at_call 13; (with_reducible refine (CS.out _).mono ?_); rintro e VC ⟨rfl, hb⟩; have L1 := Lib.hid (L0.out.next hb); have LX := Lib.hid (show LB w (VC.alloc (.cells #[.int .i64 c.ins, .int .i64 c.del, .int .i64 c.chg, .int .i64 c.swp] 41)) w.heap.size VC.heap.size c from ⟨L1.out.bel.trans ((below_new VC _).mono L1.out.bel.size), L1.out.cb.below (below_new VC _), ⟨cell_of_row _ _ 0 _ _ _ (heap_alloc_new VC _), cell_of_row _ _ 1 _ _ _ (heap_alloc_new VC _), cell_of_row _ _ 2 _ _ _ (heap_alloc_new VC _), cell_of_row _ _ 3 _ _ _ (heap_alloc_new VC _)⟩⟩); clear hb q0 q1 q2 q3; obtain ⟨q0, q1, q2, q3⟩ := LX.out.cb; obtain ⟨r0, r1, r2, r3⟩ := LX.out.cr)
    | (go_at_call 8; (with_reducible refine (DS.out _).mono ?_); rintro e V ⟨rfl, hb⟩; have LX := Lib.hid (LX.out.next hb); (first | (have RL := Lib.hid (RL.out.below hb)) | skip); clear q0 q1 q2 q3 r0 r1 r2 r3; obtain ⟨q0, q1, q2, q3⟩ := LX.out.cb; obtain ⟨r0, r1, r2, r3⟩ := LX.out.cr; clear hb)
    | (go_at_call 14; (with_reducible refine (RD.out _).mono ?_); rintro e V4 ⟨rfl, hb⟩; have LX := Lib.hid (LX.out.next hb); (first | (have RL := Lib.hid (RL.out.below hb)) | skip); clear q0 q1 q2 q3 r0 r1 r2 r3; obtain ⟨q0, q1, q2, q3⟩ := LX.out.cb; obtain ⟨r0, r1, r2, r3⟩ := LX.out.cr; clear hb))
  have hbd : Below V4.heap.size V4 V4.drew := below_drewN (Below.refl _ _) 1
  have LD := Lib.hid (LX.out.next hbd)
  obtain ⟨y0, y1, y2, y3⟩ := LD.out.cb
  obtain ⟨s0, s1, s2, s3⟩ := LD.out.cr
  clear hbd LX L0 L1
  have LX := LD
  clear LD
  go_region_held3 (fun W => (W.cell? ⟨w.heap.size, 0, none⟩ = some (.int .i64 c.ins) ∧ W.cell? ⟨w.heap.size, 1, none⟩ = some (.int .i64 c.del) ∧ W.cell? ⟨w.heap.size, 2, none⟩ = some (.int .i64 c.chg) ∧ W.cell? ⟨w.heap.size, 3, none⟩ = some (.int .i64 c.swp)) ∧ W.cell? ⟨VC.heap.size, 0, none⟩ = some (.int .i64 c.ins) ∧ W.cell? ⟨VC.heap.size, 1, none⟩ = some (.int .i64 c.del) ∧ W.cell? ⟨VC.heap.size, 2, none⟩ = some (.int .i64 c.chg) ∧ W.cell? ⟨VC.heap.size, 3, none⟩ = some (.int .i64 c.swp))
    (first | exact ⟨⟨q0, q1, q2, q3⟩, r0, r1, r2, r3⟩ | exact ⟨⟨y0, y1, y2, y3⟩, s0, s1, s2, s3⟩)
    (first
      | (go_at_call 15; (with_reducible refine (RT.out _).mono ?_); rintro e V5 ⟨rfl, hb⟩; have LX := Lib.hid (LX.out.next hb); (first | (have RL := Lib.hid (RL.out.below hb)) | skip); clear q0 q1 q2 q3 r0 r1 r2 r3; obtain ⟨q0, q1, q2, q3⟩ := LX.out.cb; obtain ⟨r0, r1, r2, r3⟩ := LX.out.cr; clear hb)
      | (go_at_call 16; (with_reducible refine (RF.out _).mono ?_); rintro e V6 ⟨rfl, hb⟩; have LX := Lib.hid (LX.out.next hb); (first | (have RL := Lib.hid (RL.out.below hb)) | skip); clear q0 q1 q2 q3 r0 r1 r2 r3; obtain ⟨q0, q1, q2, q3⟩ := LX.out.cb; obtain ⟨r0, r1, r2, r3⟩ := LX.out.cr; clear hb))
  obtain ⟨f0, lm, e1, e2, e3, e4, hcc⟩ := HCS.out
  clear y0 y1 y2 y3 s0 s1 s2 s3 HCS
  rcases hcc with ⟨rfl, rfl, rfl, rfl⟩ | ⟨rfl, rfl, rfl, rfl⟩ | ⟨rfl, rfl, rfl⟩
  all_goals
    simp only [Bool.not_true, Bool.not_false] at e2 e4
    try cases lm
  all_goals
    go_wp2_with (first
      | (go_at_call 11; (with_reducible refine (WI.out _).mono ?_); rintro e V7 ⟨rfl, hb⟩; have LX := Lib.hid (LX.out.next hb); (first | (have RL := Lib.hid (RL.out.below hb)) | skip); clear q0 q1 q2 q3 r0 r1 r2 r3; obtain ⟨q0, q1, q2, q3⟩ := LX.out.cb; obtain ⟨r0, r1, r2, r3⟩ := LX.out.cr; clear hb)
      | (go_at_call 9; (with_reducible refine (PT.out _).mono ?_); rintro e V8 ⟨A1, n1, k1, rfl, ho, hb⟩; have hln := ownO_len ho; obtain rfl : n1 = L.length := ho.1.symm; have LX := Lib.hid (LX.out.next hb); (first | (have RL := Lib.hid (RL.out.below hb)) | skip); clear q0 q1 q2 q3 r0 r1 r2 r3; obtain ⟨q0, q1, q2, q3⟩ := LX.out.cb; obtain ⟨r0, r1, r2, r3⟩ := LX.out.cr; have RL := Lib.hid ho.rd; clear hb ho)
      | (go_at_call 17; (with_reducible refine (RP.out _).mono ?_); rintro e V9 ⟨A2, n2, k2, rfl, ho, hb⟩; obtain rfl : n2 = L.length := ho.1.symm; have LX := Lib.hid (LX.out.next hb); (first | (have RL := Lib.hid (RL.out.below hb)) | skip); clear q0 q1 q2 q3 r0 r1 r2 r3; obtain ⟨q0, q1, q2, q3⟩ := LX.out.cb; obtain ⟨r0, r1, r2, r3⟩ := LX.out.cr; have RK := Lib.hid ho.rd; clear hb ho))
    have hli : (L.length : Int) ≤ 9223372036854775807 := by omega
    go_loopw [18] (fun j18 wr => ∃ k : Nat, k ≤ L.length ∧ j18 = .int .i64 (k : Int) ∧ Hid (Below V9.heap.size V9 wr)) (fun j18 _ => L.length - (intOf j18).toNat)
    case atStart => exact ⟨0, Nat.zero_le _, rfl, Lib.hid (Below.refl _ _)⟩
    case round =>
      obtain ⟨k, hk, rfl, BX⟩ := hrel
      by_cases hkt : k < L.length
      · have hki : (k : Int) < (L.length : Int) := by omega
        obtain ⟨b1, f1, rfl, -, g1⟩ := (RL.out.below BX.out) (by omega)
        obtain ⟨b2, f2, rfl, -, g2⟩ := (RK.out.below BX.out) (by omega)
        obtain ⟨z0, z1⟩ := g1 k hkt
        obtain ⟨z2, z3⟩ := g2 k hkt
        obtain ⟨kk, hkk⟩ : ∃ kk, (L[k]).1 = kk := ⟨_, rfl⟩
        obtain ⟨yy, hyy⟩ : ∃ yy, (L[k]).2 = yy := ⟨_, rfl⟩
        rw [hkk] at z0 z2
        rw [hyy] at z1 z3
        rw [← Nat.add_assoc] at z1 z3
        have n1 : ((kk : Int) != (kk : Int)) = false := by simp
        have n2 : ((yy : Int) != (yy : Int)) = false := by simp
        clear g1 g2 hkk hyy
        go_wp2
        go_quiet (fail)
        go_wp2
        go_roundw
        case rel => exact ⟨k + 1, by omega, by go_num, Lib.hid (below_drewN BX.out _)⟩
        case measure => simp [intOf] <;> omega
      · obtain rfl : k = L.length := by omega
        have hki : decide ((L.length : Int) < (L.length : Int)) = false := decide_eq_false (by omega)
        go_wp2
        go_ret
        exact ⟨rfl, LX.out.bel.trans (BX.out.mono LX.out.bel.size)⟩
set_option maxRecDepth 100000 in
set_option maxHeartbeats 4000000 in
theorem walk_editTells (a : ByteArray) (_wa : a.size ≤ maxLen) (b : ByteArray) (_wb : b.size ≤ maxLen) (c : Ed.Cst) (most : Int) (_wm : (Lit.int .i64 most).wf = true) (w : World) :
    Calls Try.prog 3 #[.string a, .string b, .agg #[.int .i64 c.ins, .int .i64 c.del, .int .i64 c.chg, .int .i64 c.swp], .int .i64 most] w (PostB true w) := by
  have aw := fun V => awake_any V
  have te := fun V => tells_any a b c most V
  unfold PostB at aw te ⊢
  unfold cstV at te
  have AW := Lib.hid aw; have TE := Lib.hid te
  obtain ⟨W1, hW1, hb1, hq1, hcb⟩ := cbox w c
  have L0 := Lib.hid (show LS w W1 w.heap.size c from ⟨hb1, hcb⟩)
  obtain ⟨q0, q1, q2, q3⟩ := hcb
  clear aw te hb1 hq1
  by_cases h1 : 130 < a.size
  · have g1 : decide ((130 : Int) < (a.size : Int)) = true := decide_eq_true (by omega)
    go_enter Try.func3, Try.ntmps3
    go_wp2_with fail
    rw [← hW1]
    clear hW1
    go_wp2_with (go_at_call 4; (with_reducible refine (AW.out _).mono ?_); rintro e V ⟨rfl, hb⟩; have L1 := Lib.hid (L0.out.next hb); clear hb q0 q1 q2 q3)
    go_ret
    exact ⟨rfl, L1.out.bel⟩
  · have g1 : decide ((130 : Int) < (a.size : Int)) = false := decide_eq_false (by omega)
    by_cases h2 : 130 < b.size
    · have g2 : decide ((130 : Int) < (b.size : Int)) = true := decide_eq_true (by omega)
      go_enter Try.func3, Try.ntmps3
      go_wp2_with fail
      rw [← hW1]
      clear hW1
      go_wp2_with (go_at_call 4; (with_reducible refine (AW.out _).mono ?_); rintro e V ⟨rfl, hb⟩; have L1 := Lib.hid (L0.out.next hb); clear hb q0 q1 q2 q3)
      go_ret
      exact ⟨rfl, L1.out.bel⟩
    · have g2 : decide ((130 : Int) < (b.size : Int)) = false := decide_eq_false (by omega)
      go_enter Try.func3, Try.ntmps3
      go_wp2_with fail
      rw [← hW1]
      clear hW1
      go_wp2_with (first
        | (go_at_call 5; (with_reducible refine (TE.out _).mono ?_); rintro e V ⟨rfl, hb⟩; have L1 := Lib.hid (L0.out.next hb); clear hb q0 q1 q2 q3)
        | (go_at_call 4; (with_reducible refine (AW.out _).mono ?_); rintro e V2 ⟨rfl, hb⟩; have L2 := Lib.hid (L1.out.next hb); clear hb))
      go_ret
      exact ⟨rfl, L2.out.bel⟩
end Go.Proofs.Ythojojjdamchpaa
