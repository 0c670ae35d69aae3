/-
  The law's digits.
-/
import Derived.Test.YtcponhdeffnndaaGreatDoorTokNumb
namespace Tk
theorem dgF_le : ∀ f n, (dgF f n).length ≤ f
  | 0, _ => by simp [dgF]
  | f + 1, n => by
    unfold dgF
    split
    · simp
    · have := dgF_le f (n / 10); simp; omega
theorem dg_le (n : Nat) : (dg n).length ≤ 7 := dgF_le 7 n
end Tk
namespace Go.Proofs.YtcponhdeffnndaaGreatDoor
open Go.RowKit
set_option linter.unusedVariables false
set_option linter.unusedSimpArgs false

theorem digits_pad : True := trivial
theorem conv_one8 (g : Nat) (V : World) (c : Nat) (h : c < 256) (hV : V.cell? ⟨g, 0, none⟩ = some (.int .u8 (c : Int))) : (convert 35 9 (.slice (some ⟨g, 0, none⟩) 1 1)).run Tryz.prog V = .ok (.string ⟨#[UInt8.ofNat c]⟩) V := by
  refine run_convert_bytes_back (P := Tryz.prog) _ 35 9 5 ⟨g, 0, none⟩ 1 [UInt8.ofNat c] Tryz.underlying35 Tryz.underlying5 Tryz.underlying9 (fun j hj => ?_)
  obtain rfl : j = 0 := by simpa using hj
  show V.cell? ⟨g, 0, none⟩ = _
  rw [hV]
  simp [Nat.mod_eq_of_lt h]
set_option maxRecDepth 100000 in
set_option maxHeartbeats 1000000 in
theorem digits_small (n : Nat) (hn : n < 10) (w : World) : Calls Tryz.prog 35 #[.int .i64 n] w (PostStr (Tk.dg n) w) := by
  rw [Tk.dg_small n hn]
  have hlt : (n : Int) < 10 := by omega
  obtain ⟨D, hD⟩ : ∃ D : ByteArray, D = ⟨#[UInt8.ofNat (48 + n)]⟩ := ⟨_, rfl⟩
  have hc2 := conv_one8 w.heap.size (w.alloc (.cells #[.int .u8 ((48 + n : Nat) : Int)] 5)) (48 + n) (by omega) (cell_of_row _ _ 0 _ _ _ (heap_alloc_new w _))
  rw [← hD] at hc2
  push_cast at hc2
  have HD := Lib.hid hD
  clear hD
  go_enter Tryz.func35, Tryz.ntmps35
  go_wp2
  go_ret
  exact ⟨by rw [HD.out]; rfl, below_new w _⟩
set_option maxRecDepth 100000 in
set_option maxHeartbeats 2000000 in
theorem digits_great (n : Nat) (hn : ¬ n < 10) (h7 : n < 10000000) (ih : ∀ V, Calls Tryz.prog 35 #[.int .i64 ((n / 10 : Nat) : Int)] V (PostStr (Tk.dg (n / 10)) V)) (w : World) :
    Calls Tryz.prog 35 #[.int .i64 n] w (PostStr (Tk.dg n) w) := by
  rw [Tk.dg_great n hn h7]
  have hlt : ¬ (n : Int) < 10 := by omega
  obtain ⟨d, hd⟩ : ∃ d, n / 10 = d := ⟨_, rfl⟩
  obtain ⟨r, hr⟩ : ∃ r, n % 10 = r := ⟨_, rfl⟩
  have hr9 : r ≤ 9 := by omega
  have hd9 : d ≤ 1000000 := by omega
  have hd9b : (d : Int) ≤ 1000000 := by omega
  have hwr : IntKind.i64.wrap (d : Int) = d := by rw [IntKind.wrap_i64]; omega
  have hwr2 : IntKind.i64.wrap (48 + (r : Int)) = 48 + (r : Int) := by rw [IntKind.wrap_i64]; omega
  have hwr3 : IntKind.u8.wrap (48 + (r : Int)) = 48 + (r : Int) := by rw [IntKind.wrap_u8]; omega
  have t1 : (n : Int).tdiv 10 = d := by rw [Int.tdiv_eq_ediv_of_nonneg (by omega)]; omega
  have t2 : (n : Int) / 10 = d := by omega
  have t3 : (n : Int).tmod 10 = r := by rw [Int.tmod_eq_emod_of_nonneg (by omega)]; omega
  have t4 : (n : Int) % 10 = r := by omega
  rw [hd] at ih ⊢
  rw [hr]
  obtain ⟨F, hF⟩ : ∃ F : ByteArray, F = ⟨(Tk.dg d).toArray⟩ := ⟨_, rfl⟩
  unfold PostStr at ih
  rw [← hF] at ih
  have hsz : F.size ≤ 7 := by rw [hF]; show Array.size _ ≤ 7; simp; exact Tk.dg_le d
  obtain ⟨D, hD⟩ : ∃ D : ByteArray, D = ⟨#[UInt8.ofNat (48 + r)]⟩ := ⟨_, rfl⟩
  have hcv : ∀ (g : Nat) (V : World), V.cell? ⟨g, 0, none⟩ = some (.int .u8 (48 + (r : Int))) → (convert 35 9 (.slice (some ⟨g, 0, none⟩) 1 1)).run Tryz.prog V = .ok (.string D) V := fun g V h => by
    rw [hD]; exact conv_one8 g V (48 + r) (by omega) (by rw [h]; push_cast; rfl)
  have hDs : D.size = 1 := by rw [hD]; rfl
  have hsum : ¬ 9223372036854775807 < F.size + 1 := by omega
  have IH := Lib.hid ih; have HD := Lib.hid hD; have HF := Lib.hid hF; have HCV := Lib.hid hcv; have HSM := Lib.hid hsum
  have hcv0 := fun X : World => hcv X.heap.size (X.alloc (.cells #[.int .u8 (48 + (r : Int))] 5)) (cell_of_row _ _ 0 _ _ _ (heap_alloc_new X _))
  have hcv1 := hcv w.heap.size (w.alloc (.cells #[.int .u8 (48 + (r : Int))] 5)).drew (cell_of_row _ _ 0 _ _ _ (heap_alloc_new w _))
  have HA0 := Lib.hid (show (w.alloc (.cells #[.int .u8 (48 + (r : Int))] 5)).drew.cell? ⟨w.heap.size, 0, none⟩ = some (.int .u8 (48 + (r : Int))) from cell_of_row _ _ 0 _ _ _ (heap_alloc_new w _))
  have HB1 := Lib.hid (show Below w.heap.size w (w.alloc (.cells #[.int .u8 (48 + (r : Int))] 5)).drew from (below_new w _).drew)
  have HB0 := Lib.hid (show Below w.heap.size w w.drew from (Below.refl _ _).drew)
  clear ih hD hF hcv hd hr h7
  go_enter Tryz.func35, Tryz.ntmps35
  go_wp2
  go_region_with (first
    | (go_at_call 35; (with_reducible refine (IH.out _).mono ?_); rintro e V ⟨rfl, hb⟩; have BV := Lib.hid (show Below w.heap.size w V from by first | exact below_next HB0.out hb | exact below_next HB1.out hb); first | (have hcw := HCV.out _ V (cell_keep HA0.out hb)) | skip; clear hb))
  all_goals go_wp2
  all_goals go_ret
  all_goals refine ⟨?_, by first | exact BV.out | exact below_next BV.out (below_new _ _)⟩
  all_goals show Ending.returned (.string (F ++ D)) = _
  all_goals rw [HF.out, HD.out]
  all_goals exact congrArg (fun x => Ending.returned (.string x)) (cat_of (Tk.dg d) [UInt8.ofNat (48 + r)])
theorem digits_any (n : Nat) (h7 : n < 10000000) (w : World) : Calls Tryz.prog 35 #[.int .i64 n] w (PostStr (Tk.dg n) w) := by
  induction n using Nat.strongRecOn generalizing w with
  | _ n ih =>
    by_cases h : n < 10
    · exact digits_small n h w
    · exact digits_great n h h7 (fun V => ih (n / 10) (by omega) (by omega) V) w
end Go.Proofs.YtcponhdeffnndaaGreatDoor
