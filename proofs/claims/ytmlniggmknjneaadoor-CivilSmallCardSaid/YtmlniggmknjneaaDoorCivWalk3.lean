/-
  The walks of civil's functions over holidays: what is in front of a day; working days; working days between.
-/
import Derived.Test.YtmlniggmknjneaaDoorCivWalk2
import Derived.Test.YtmlniggmknjneaaDoorShelf
import Derived.Laws.EntriesVeiled
namespace Go.Proofs.YtmlniggmknjneaaDoor
open Go.RowKit
set_option linter.unusedVariables false

theorem right_parts {zs : List Int} (h : Cv.rightB zs = true) : zs.length ≤ 1000 ∧ Cv.rgt (-1) zs = true := by
  simpa [Cv.rightB] using h
theorem right_nn {zs : List Int} (h : Cv.rightB zs = true) : ∀ k, k < zs.length → 0 ≤ zs.getD k 0 ∧ zs.getD k 0 ≤ 730484 := by
  intro k hk
  have := Cv.rgt_mem _ _ (right_parts h).2 (zs.getD k 0) (by rw [List.getD_eq_getElem?_getD, List.getElem?_eq_getElem hk]; exact List.getElem_mem hk)
  omega

/-- what the closure that counts in front of a day has captured: the place of the closure that counts holidays, which has captured the place of the holidays -/
structure Front (w : World) (q p : Addr) (A : Option Addr) (cap : Nat) (zs : List Int) : Prop where
  fn : w.cell? q = some (.func (.func 76) #[] #[.pointer (some p)])
  sl : w.cell? p = some (.slice A zs.length cap)
  rd : Rd w A zs

set_option maxHeartbeats 400000 in
theorem wif_any (day : Int) (q p : Addr) (A : Option Addr) (cap : Nat) (zs : List Int) (w : World) (hf : Front w q p A cap zs) (hl : Cv.rightB zs = true) (h0 : 0 ≤ day) (h1 : day ≤ 1000000) :
    Calls Tryd.prog 77 #[.int .i64 day, .pointer (some q)] w fun e w' => e = .returned (.int .i64 (Cv.wif zs day)) ∧ w = w' := by
  have h3 := (right_parts hl).1
  have hn := fun k hk => (right_nn hl k hk).1
  have Hn := Lib.hid hn; clear hn
  have Hd := hf.rd
  have HD := Lib.hid Hd; clear Hd
  have fn := hf.fn
  have sl := hf.sl
  have hb := Cv.hcnt_bd day zs
  clear hl hf
  go_enter Tryd.func77, Tryd.ntmps77
  go_wp2_with (go_at_call 76; refine (hif_any _ _ _ _ _ _ sl HD.out h3 Hn.out).mono ?_; rintro e w' ⟨rfl, rfl⟩)
  go_ret
  exact ⟨rfl, rfl⟩

theorem bcell {W w1 : World} (hb : Below W.heap.size W w1) : ∀ b o, b < W.heap.size → w1.cell? ⟨b, o, none⟩ = W.cell? ⟨b, o, none⟩ :=
  fun b o h => hb.cell (p := ⟨b, o, none⟩) h
theorem Rd.below {W w1 : World} {A : Option Addr} {zs : List Int} (h : Rd W A zs) (hb : Below W.heap.size W w1) : Rd w1 A zs := by
  intro h0
  obtain ⟨b, off, e, hlt, hc⟩ := h h0
  exact ⟨b, off, e, by have := hb.size; omega, fun i hi => (bcell hb b _ hlt).trans (hc i hi)⟩
theorem Tab.below {W w1 : World} (h : Tab W) (hb : Below W.heap.size W w1) (h0 : 0 < W.heap.size) : Tab w1 :=
  fun k hk => (bcell hb 0 k h0).trans (h k hk)
theorem Tab.size {W : World} (h : Tab W) : 0 < W.heap.size := World.block_lt_of_cell? W ⟨0, 0, none⟩ (h 0 (by omega))

def FrontP (A : Option Addr) (cap : Nat) (zs : List Int) (W : World) (e : Ending) (w' : World) : Prop :=
  ∃ q p, e = .returned (.func (.func 77) #[] #[.pointer (some q)]) ∧ Front w' q p A cap zs ∧ Below W.heap.size W w'

set_option maxHeartbeats 400000 in
theorem front_any (A : Option Addr) (cap : Nat) (zs : List Int) (w : World) (hr : Rd w A zs) :
    Calls Tryd.prog 63 #[.slice A zs.length cap] w (FrontP A cap zs w) := by
  have Hr := Lib.hid hr; clear hr
  go_enter Tryd.func63, Tryd.ntmps63
  go_wp2
  go_ret
  have hb : Below w.heap.size w ((w.alloc (Obj.cells #[Value.slice A zs.length cap] 34)).alloc (Obj.cells #[Value.func (Fn.func 76) #[] #[Value.pointer (some { block := w.heap.size, off := 0 })]] 48)) :=
    ((Below.refl _ _).alloc (Nat.le_refl _) _).alloc (by simp) _
  exact ⟨⟨w.heap.size + 1, 0, none⟩, ⟨w.heap.size, 0, none⟩, rfl, ⟨by go_simp, by go_simp, Hr.out.below hb⟩, hb⟩

set_option maxHeartbeats 400000 in
theorem between_no (a b : Int) (A : Option Addr) (cap : Nat) (zs : List Int) (w : World) (hr : Rd w A zs) (hl : zs.length ≤ 9223372036854775807) (h : ¬ (Cv.rightB zs = true ∧ 0 ≤ a ∧ a ≤ b)) :
    Calls Tryd.prog 34 #[.int .i64 a, .int .i64 b, .slice A zs.length cap] w fun e w' => e = .returned (.tuple #[.int .i64 0, .int .i64 2]) ∧ w = w' := by
  have Hr := Lib.hid hr; clear hr
  by_cases h1 : Cv.rightB zs = true
  · have h2 : ¬ (0 ≤ a ∧ a ≤ b) := fun x => h ⟨h1, x.1, x.2⟩
    clear h
    by_cases h3 : a < 0
    · clear h2
      go_enter Tryd.func34, Tryd.ntmps34
      go_wp2_with (go_at_call 40; refine (right_any _ _ _ _ Hr.out hl).mono ?_; rintro e w' ⟨rfl, rfl⟩)
      go_ret2
      exact ⟨rfl, rfl⟩
    · have h4 : b < a := by omega
      clear h2
      go_enter Tryd.func34, Tryd.ntmps34
      go_wp2_with (go_at_call 40; refine (right_any _ _ _ _ Hr.out hl).mono ?_; rintro e w' ⟨rfl, rfl⟩)
      go_ret2
      exact ⟨rfl, rfl⟩
  · have h1 : Cv.rightB zs = false := by simpa using h1
    clear h
    go_enter Tryd.func34, Tryd.ntmps34
    go_wp2_with (go_at_call 40; refine (right_any _ _ _ _ Hr.out hl).mono ?_; rintro e w' ⟨rfl, rfl⟩)
    go_ret2
    exact ⟨rfl, rfl⟩
set_option maxHeartbeats 400000 in
theorem between_long (a b : Int) (A : Option Addr) (cap : Nat) (zs : List Int) (w : World) (hr : Rd w A zs) (h1 : Cv.rightB zs = true) (h2 : 0 ≤ a) (h3 : a ≤ b) (h4 : 730484 < b) :
    Calls Tryd.prog 34 #[.int .i64 a, .int .i64 b, .slice A zs.length cap] w fun e w' => e = .returned (.tuple #[.int .i64 0, .int .i64 3]) ∧ w = w' := by
  have Hr := Lib.hid hr; clear hr
  have hl := (right_parts h1).1
  go_enter Tryd.func34, Tryd.ntmps34
  go_wp2_with (go_at_call 40; refine (right_any _ _ _ _ Hr.out (by omega)).mono ?_; rintro e w' ⟨rfl, rfl⟩)
  go_ret2
  exact ⟨rfl, rfl⟩
set_option maxHeartbeats 400000 in
theorem between_yes (a b : Int) (A : Option Addr) (cap : Nat) (zs : List Int) (w : World) (hr : Rd w A zs) (h1 : Cv.rightB zs = true) (h2 : 0 ≤ a) (h3 : a ≤ b) (h4 : b ≤ 730484) :
    Calls Tryd.prog 34 #[.int .i64 a, .int .i64 b, .slice A zs.length cap] w fun e w' => e = .returned (.tuple #[.int .i64 (Cv.wif zs b - Cv.wif zs a), .int .i64 0]) ∧ Below w.heap.size w w' := by
  have Hr := Lib.hid hr; clear hr
  have hl := (right_parts h1).1
  have H1 := Lib.hid h1
  have b1 := Cv.wif_bd zs a h2
  have b2 := Cv.wif_bd zs b (by omega)
  go_enter Tryd.func34, Tryd.ntmps34
  go_wp2_with (first
    | (go_at_call 40; refine (right_any _ _ _ _ Hr.out (by omega)).mono ?_; rintro e w' ⟨rfl, rfl⟩)
    | (go_at_call 63; refine (front_any _ _ _ _ Hr.out).mono ?_; rintro e w1 ⟨q, p, rfl, hF, hb⟩; have HF := Lib.hid hF; clear hF; have HB := Lib.hid hb; clear hb)
    | (go_at_call 77; refine (wif_any _ _ _ _ _ _ _ HF.out H1.out (by omega) (by omega)).mono ?_; rintro e w' ⟨rfl, rfl⟩))
  go_ret2
  exact ⟨rfl, HB.out⟩

set_option maxHeartbeats 400000 in
theorem works_no (d : Int) (A : Option Addr) (cap : Nat) (zs : List Int) (w : World) (hr : Rd w A zs) (hl : zs.length ≤ 9223372036854775807) (h1 : Cv.rightB zs = false) :
    Calls Tryd.prog 35 #[.int .i64 d, .slice A zs.length cap] w fun e w' => e = .returned (.tuple #[.bool false, .int .i64 2]) ∧ w = w' := by
  have Hr := Lib.hid hr; clear hr
  go_enter Tryd.func35, Tryd.ntmps35
  go_wp2_with (go_at_call 40; refine (right_any _ _ _ _ Hr.out hl).mono ?_; rintro e w' ⟨rfl, rfl⟩)
  go_ret2
  exact ⟨rfl, rfl⟩
set_option maxHeartbeats 400000 in
theorem works_out (d : Int) (A : Option Addr) (cap : Nat) (zs : List Int) (w : World) (hr : Rd w A zs) (h1 : Cv.rightB zs = true) (h : ¬ (0 ≤ d ∧ d ≤ 730484)) :
    Calls Tryd.prog 35 #[.int .i64 d, .slice A zs.length cap] w fun e w' => e = .returned (.tuple #[.bool false, .int .i64 (erD d)]) ∧ w = w' := by
  have Hr := Lib.hid hr; clear hr
  have hl := (right_parts h1).1
  have he : (erD d != 0) = true := by unfold erD; (repeat' split) <;> first | rfl | omega
  have H := Lib.hid h; clear h
  go_enter Tryd.func35, Tryd.ntmps35
  go_wp2_with (first
    | (go_at_call 40; refine (right_any _ _ _ _ Hr.out (by omega)).mono ?_; rintro e w' ⟨rfl, rfl⟩)
    | (go_at_call 60; refine (checkDay_any _ _).mono ?_; rintro e w' ⟨rfl, rfl⟩))
  go_ret2
  exact ⟨rfl, rfl⟩

def SearchP (d : Int) (zs : List Int) (W : World) (e : Ending) (w' : World) : Prop :=
  ∃ n : Int, e = .returned (.tuple #[.int .i64 n, .bool (zs.contains d)]) ∧ Below W.heap.size W w'
theorem bs_any (d : Int) (A : Option Addr) (cap : Nat) (zs : List Int) (w : World) (hr : Rd w A zs) (h1 : Cv.rightB zs = true) :
    Calls Tryd.prog 64 #[.slice A zs.length cap, .int .i64 d] w (SearchP d zs w) := by
  have hl := (right_parts h1).1
  rcases zs with _ | ⟨z, t⟩
  · refine (Tryd.slices_BinarySearch_int_empty A cap d w).mono ?_
    rintro e w' ⟨rfl, rfl⟩
    exact ⟨0, rfl, Below.refl _ _⟩
  · obtain ⟨b, off, rfl, hb, hc⟩ := hr (by simp)
    refine (Tryd.slices_BinarySearch_int b off (z :: t).length cap (z :: t) d w (Nat.le_refl _) (by omega) hc (by rw [List.take_length]; exact Cv.rgt_sorted _ _ (right_parts h1).2)).mono ?_
    rintro e w' ⟨rfl, q, rfl⟩
    rw [List.take_length]
    exact ⟨_, rfl, below_drewN (Below.refl _ _) q⟩

set_option maxHeartbeats 400000 in
theorem works_yes (d : Int) (A : Option Addr) (cap : Nat) (zs : List Int) (w : World) (hr : Rd w A zs) (h1 : Cv.rightB zs = true) (h2 : 0 ≤ d) (h3 : d ≤ 730484) :
    Calls Tryd.prog 35 #[.int .i64 d, .slice A zs.length cap] w fun e w' => e = .returned (.tuple #[.bool (Cv.isW zs d), .int .i64 0]) ∧ Below w.heap.size w w' := by
  have Hr := Lib.hid hr; clear hr
  have hl := (right_parts h1).1
  have he : erD d = 0 := by unfold erD; (repeat' split) <;> omega
  have H1 := Lib.hid h1
  have hv : Cv.isW zs d = (decide (d % 7 < 5) && !zs.contains d) := rfl
  have Hv := Lib.hid hv; clear hv
  by_cases h5 : d % 7 < 5
  all_goals
    go_enter Tryd.func35, Tryd.ntmps35
    go_wp2_with (first
      | (go_at_call 40; refine (right_any _ _ _ _ Hr.out (by omega)).mono ?_; rintro e w' ⟨rfl, rfl⟩)
      | (go_at_call 60; refine (checkDay_any _ _).mono ?_; rintro e w' ⟨rfl, rfl⟩)
      | (go_at_call 64; refine (bs_any _ _ _ _ _ Hr.out H1.out).mono ?_; rintro e w1 ⟨n, rfl, hb⟩; have HB := Lib.hid hb; clear hb; generalize zs.contains d = c at *))
    all_goals
      go_ret2
      exact ⟨ret_bi (by rw [Hv.out]; first | (rw [decide_eq_true h5]; rfl) | (rw [decide_eq_false (by omega)]; rfl)) rfl, HB.out⟩

end Go.Proofs.YtmlniggmknjneaaDoor
