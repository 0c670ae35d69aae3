/-
  The walk of a step's effect.
-/
import Derived.Test.YthojojjdamchpaaEdiOps
namespace Go.Proofs.Ythojojjdamchpaa
open Go.RowKit Go.Shelf
set_option linter.unusedVariables false
set_option linter.unusedSimpArgs false

def PostEff (o : Nat × Nat) (s : ByteArray) (w : World) (e : Ending) (w' : World) : Prop :=
  ∃ (t : Nat) (S : ByteArray), e = .returned (.tuple #[.int .i64 t, .string S, .bool (Ed.eff o (tx s)).isSome]) ∧ (∀ r u, Ed.eff o (tx s) = some (r, u) → t ≤ s.size ∧ r = (tx s).drop t ∧ S = ⟨u.toArray⟩) ∧ Below w.heap.size w w'
theorem conv_1 (W V : World) (y : Nat) (h : y < 256) (hV : V.cell? ⟨W.heap.size, 0, none⟩ = some (.int .u8 (y : Int))) : (convert 53 9 (.slice (some ⟨W.heap.size, 0, none⟩) 1 1)).run Try.prog V = .ok (.string ⟨[UInt8.ofNat y].toArray⟩) V := by
  refine run_convert_bytes_back (P := Try.prog) _ 53 9 5 ⟨W.heap.size, 0, none⟩ 1 [UInt8.ofNat y] Try.underlying53 Try.underlying5 Try.underlying9 (fun j hj => ?_)
  obtain rfl : j = 0 := by simpa using hj
  simp only [List.getElem_cons_zero]
  have e : ((UInt8.ofNat y).toNat : Int) = (y : Int) := by simp [UInt8.toNat_ofNat']; omega
  rw [e]
  exact hV
theorem conv_2 (W V : World) (x y : UInt8) (hV : V.cell? ⟨W.heap.size, 0, none⟩ = some (.int .u8 x.toNat)) (hV2 : V.cell? ⟨W.heap.size, 1, none⟩ = some (.int .u8 y.toNat)) : (convert 53 9 (.slice (some ⟨W.heap.size, 0, none⟩) 2 2)).run Try.prog V = .ok (.string ⟨[x, y].toArray⟩) V := by
  refine run_convert_bytes_back (P := Try.prog) _ 53 9 5 ⟨W.heap.size, 0, none⟩ 2 [x, y] Try.underlying53 Try.underlying5 Try.underlying9 (fun j hj => ?_)
  have h : j = 0 ∨ j = 1 := by simp at hj; omega
  rcases h with rfl | rfl
  · exact hV
  · exact hV2
theorem op_new (w : World) (k y : Int) : (w.alloc (.cells #[.int .u8 k, .int .u8 y] 51)).cell? ⟨w.heap.size, 0, none⟩ = some (.int .u8 k) ∧ (w.alloc (.cells #[.int .u8 k, .int .u8 y] 51)).cell? ⟨w.heap.size, 1, none⟩ = some (.int .u8 y) :=
  ⟨cell_of_row _ _ 0 _ _ _ (heap_alloc_new w _), cell_of_row _ _ 1 _ _ _ (heap_alloc_new w _)⟩
theorem list_some (s : ByteArray) (h : 0 < s.size) : (s.toList == []) = false := by
  rw [ByteArray.toList_eq]
  have hl : s.data.toList.length = s.size := by simp
  cases hc : s.data.toList with
  | nil => rw [hc] at hl; simp at hl; omega
  | cons x l => rfl
theorem size_zero (s : ByteArray) (h : s.size = 0) : s = ⟨#[]⟩ := by
  apply ByteArray.ext
  apply Array.eq_empty_of_size_eq_zero
  exact h
theorem tx_cons (s : ByteArray) (h : 0 < s.size) : tx s = s[0] :: (tx s).drop 1 := by
  have := tx_drop s 0 h
  rwa [List.drop_zero] at this
set_option maxHeartbeats 2000000 in
theorem eff_ins (y : Nat) (hy : y < 256) (s : ByteArray) (w : World) : Calls Try.prog 23 #[opV (5, y), .string s] w (PostEff (5, y) s w) := by
  unfold opV
  obtain ⟨W, hW⟩ : ∃ W, W = w.alloc (.cells #[.int .u8 5, .int .u8 y] 51) := ⟨_, rfl⟩
  obtain ⟨o0, o1⟩ := op_new w 5 y
  rw [← hW] at o0 o1
  have hb1 : Below w.heap.size w W := by rw [hW]; exact below_new w _
  have o2 := fun o => cell_keep o1 (below_new W o)
  have hcv := conv_1 W (W.alloc (.cells #[.int .u8 (y : Int)] 5)).drew y hy (by go_simp)
  have HB := Lib.hid hb1
  clear hb1
  go_enter Try.func23, Try.ntmps23
  go_wp2_with fail
  try rw [← hW]
  clear hW
  go_region
  go_wp2
  refine bodyPost_ret (results_tmp3 rfl _ _ _) rfl ?_
  exact ⟨0, _, rfl, fun r u h => (by
    have h : some (tx s, [UInt8.ofNat y]) = some (r, u) := h
    cases h; exact ⟨Nat.zero_le _, rfl, rfl⟩), (HB.out.alloc HB.out.size _).drew⟩

set_option maxHeartbeats 2000000 in
theorem eff_none (k y : Nat) (hk : k ≠ 5) (w : World) : Calls Try.prog 23 #[opV (k, y), .string ⟨#[]⟩] w (PostEff (k, y) ⟨#[]⟩ w) := by
  have he : Ed.eff (k, y) (tx ⟨#[]⟩) = none := by unfold Ed.eff; rw [if_neg hk]; rfl
  have hk5 : ((k : Int) == 5) = false := by rw [beq_eq_false_iff_ne]; omega
  unfold opV
  obtain ⟨W, hW⟩ : ∃ W, W = w.alloc (.cells #[.int .u8 k, .int .u8 y] 51) := ⟨_, rfl⟩
  obtain ⟨o0, o1⟩ := op_new w k y
  rw [← hW] at o0 o1
  have hb1 : Below w.heap.size w W := by rw [hW]; exact below_new w _
  have HB := Lib.hid hb1; have HE := Lib.hid he
  clear hb1 he hW hk
  go_enter Try.func23, Try.ntmps23
  go_wp2
  refine bodyPost_ret (results_tmp3 rfl _ _ _) rfl ?_
  exact ⟨0, ⟨#[]⟩, by rw [HE.out]; rfl, fun r u h => (by rw [HE.out] at h; cases h), below_new w _⟩

set_option maxHeartbeats 2000000 in
theorem eff_chg (y : Nat) (hy : y < 256) (s : ByteArray) (hs : 0 < s.size) (hx : s[0].toNat ≠ y) (w : World) : Calls Try.prog 23 #[opV (2, y), .string s] w (PostEff (2, y) s w) := by
  have hp2 : (0 : Int) < s.size := by omega
  have hse := list_some s hs
  have htc := tx_cons s hs
  have he : Ed.eff (2, y) (tx s) = some ((tx s).drop 1, [UInt8.ofNat y]) := by
    obtain ⟨l, hl⟩ : ∃ l, (tx s).drop 1 = l := ⟨_, rfl⟩
    rw [hl] at htc
    try rw [hl]
    rw [htc]; show (if s[0].toNat = y then none else some (l, [UInt8.ofNat y])) = _
    rw [if_neg hx]
  obtain ⟨x, hxx⟩ : ∃ x, s[0] = x := ⟨_, rfl⟩
  rw [hxx] at hx
  have hq : ((x.toNat : Int) != (y : Int)) = true := by rw [bne_iff_ne]; omega
  unfold opV
  obtain ⟨W, hW⟩ : ∃ W, W = w.alloc (.cells #[.int .u8 2, .int .u8 y] 51) := ⟨_, rfl⟩
  obtain ⟨o0, o1⟩ := op_new w 2 y
  rw [← hW] at o0 o1
  have hb1 : Below w.heap.size w W := by rw [hW]; exact below_new w _
  have o2 := fun o => cell_keep o1 (below_new W o)
  have hcv := conv_1 W (W.alloc (.cells #[.int .u8 (y : Int)] 5)).drew y hy (by go_simp)
  have HB := Lib.hid hb1; have HE := Lib.hid he; have HS := Lib.hid hs
  clear hb1 he htc hx
  go_enter Try.func23, Try.ntmps23
  go_wp2_with fail
  try rw [← hW]
  clear hW
  go_region
  go_wp2
  refine bodyPost_ret (results_tmp3 rfl _ _ _) rfl ?_
  exact ⟨1, _, by rw [HE.out]; rfl, fun r u h => (by
    rw [HE.out] at h
    cases h; exact ⟨HS.out, rfl, rfl⟩), (HB.out.alloc HB.out.size _).drew⟩

set_option maxHeartbeats 2000000 in
theorem eff_chg_no (y : Nat) (hy : y < 256) (s : ByteArray) (hs : 0 < s.size) (hx : s[0].toNat = y) (w : World) : Calls Try.prog 23 #[opV (2, y), .string s] w (PostEff (2, y) s w) := by
  have hp2 : (0 : Int) < s.size := by omega
  have hse := list_some s hs
  have htc := tx_cons s hs
  have he : Ed.eff (2, y) (tx s) = none := by
    obtain ⟨l, hl⟩ : ∃ l, (tx s).drop 1 = l := ⟨_, rfl⟩
    rw [hl] at htc
    try rw [hl]
    rw [htc]; show (if s[0].toNat = y then none else some (l, [UInt8.ofNat y])) = _
    rw [if_pos hx]
  obtain ⟨x, hxx⟩ : ∃ x, s[0] = x := ⟨_, rfl⟩
  rw [hxx] at hx
  have hq : ((x.toNat : Int) != (y : Int)) = false := by simp [hx]
  unfold opV
  obtain ⟨W, hW⟩ : ∃ W, W = w.alloc (.cells #[.int .u8 2, .int .u8 y] 51) := ⟨_, rfl⟩
  obtain ⟨o0, o1⟩ := op_new w 2 y
  rw [← hW] at o0 o1
  have hb1 : Below w.heap.size w W := by rw [hW]; exact below_new w _
  have o2 := fun o => cell_keep o1 (below_new W o)
  have hcv := conv_1 W (W.alloc (.cells #[.int .u8 (y : Int)] 5)).drew y hy (by go_simp)
  have HB := Lib.hid hb1; have HE := Lib.hid he; have HS := Lib.hid hs
  clear hb1 he htc hx
  go_enter Try.func23, Try.ntmps23
  go_wp2_with fail
  try rw [← hW]
  clear hW
  go_region
  go_wp2
  refine bodyPost_ret (results_tmp3 rfl _ _ _) rfl ?_
  exact ⟨1, _, by rw [HE.out]; rfl, fun r u h => (by rw [HE.out] at h; cases h), (HB.out.alloc HB.out.size _).drew⟩

set_option maxHeartbeats 2000000 in
theorem eff_byte (k y : Nat) (hk : k ≠ 5) (hk2 : k ≠ 2) (hy : y ≠ 0) (s : ByteArray) (hs : 0 < s.size) (w : World) : Calls Try.prog 23 #[opV (k, y), .string s] w (PostEff (k, y) s w) := by
  have hp2 : (0 : Int) < s.size := by omega
  have hse := list_some s hs
  have htc := tx_cons s hs
  have he : Ed.eff (k, y) (tx s) = none := by
    rw [htc]; unfold Ed.eff; rw [if_neg hk]; simp only; rw [if_neg hk2, if_pos hy]
  have hk5 : ((k : Int) == 5) = false := by rw [beq_eq_false_iff_ne]; omega
  have hk6 : ((k : Int) == 2) = false := by rw [beq_eq_false_iff_ne]; omega
  have hy2 : ((y : Int) != 0) = true := by rw [bne_iff_ne]; omega
  unfold opV
  obtain ⟨W, hW⟩ : ∃ W, W = w.alloc (.cells #[.int .u8 k, .int .u8 y] 51) := ⟨_, rfl⟩
  obtain ⟨o0, o1⟩ := op_new w k y
  rw [← hW] at o0 o1
  have hb1 : Below w.heap.size w W := by rw [hW]; exact below_new w _
  have HB := Lib.hid hb1; have HE := Lib.hid he
  clear hb1 he hW hk hk2 hy htc
  go_enter Try.func23, Try.ntmps23
  go_wp2
  refine bodyPost_ret (results_tmp3 rfl _ _ _) rfl ?_
  exact ⟨0, ⟨#[]⟩, by rw [HE.out]; rfl, fun r u h => (by rw [HE.out] at h; cases h), below_new w _⟩

set_option maxHeartbeats 2000000 in
theorem eff_keep (s : ByteArray) (hs : 0 < s.size) (w : World) : Calls Try.prog 23 #[opV (1, 0), .string s] w (PostEff (1, 0) s w) := by
  have hp2 : (0 : Int) < s.size := by omega
  have hse := list_some s hs
  have htc := tx_cons s hs
  have he : Ed.eff (1, 0) (tx s) = some ((tx s).drop 1, [s[0]]) := by rw [htc]; rfl
  have hx1 : s.extract 0 1 = ⟨[s[0]].toArray⟩ := by
    apply ByteArray.ext; apply Array.ext'
    have h2 := tx_cons s hs
    unfold tx at h2
    simp only [ByteArray.data_extract, Array.toList_extract, List.extract_eq_take_drop, List.drop_zero, Nat.sub_zero]
    rw [h2]; rfl
  have hi1 : (1 : Int) ≤ s.size := by omega
  unfold opV
  obtain ⟨W, hW⟩ : ∃ W, W = w.alloc (.cells #[.int .u8 1, .int .u8 0] 51) := ⟨_, rfl⟩
  obtain ⟨o0, o1⟩ := op_new w 1 0
  rw [← hW] at o0 o1
  have hb1 : Below w.heap.size w W := by rw [hW]; exact below_new w _
  have HB := Lib.hid hb1; have HE := Lib.hid he; have HS := Lib.hid hs; have HX := Lib.hid hx1
  clear hb1 he htc hx1
  go_enter Try.func23, Try.ntmps23
  go_wp2_with fail
  try rw [← hW]
  clear hW
  go_region
  go_wp2
  refine bodyPost_ret (results_tmp3 rfl _ _ _) rfl ?_
  exact ⟨1, _, by rw [HE.out]; rfl, fun r u h => (by
    rw [HE.out] at h
    cases h; exact ⟨HS.out, rfl, HX.out⟩), HB.out.drew⟩

set_option maxHeartbeats 2000000 in
theorem eff_del (s : ByteArray) (hs : 0 < s.size) (w : World) : Calls Try.prog 23 #[opV (4, 0), .string s] w (PostEff (4, 0) s w) := by
  have hp2 : (0 : Int) < s.size := by omega
  have hse := list_some s hs
  have htc := tx_cons s hs
  have he : Ed.eff (4, 0) (tx s) = some ((tx s).drop 1, []) := by rw [htc]; rfl
  unfold opV
  obtain ⟨W, hW⟩ : ∃ W, W = w.alloc (.cells #[.int .u8 4, .int .u8 0] 51) := ⟨_, rfl⟩
  obtain ⟨o0, o1⟩ := op_new w 4 0
  rw [← hW] at o0 o1
  have hb1 : Below w.heap.size w W := by rw [hW]; exact below_new w _
  have HB := Lib.hid hb1; have HE := Lib.hid he; have HS := Lib.hid hs
  clear hb1 he htc hW
  go_enter Try.func23, Try.ntmps23
  go_wp2
  refine bodyPost_ret (results_tmp3 rfl _ _ _) rfl ?_
  exact ⟨1, _, by rw [HE.out]; rfl, fun r u h => (by
    rw [HE.out] at h
    cases h; exact ⟨HS.out, rfl, rfl⟩), below_new w _⟩

set_option maxHeartbeats 2000000 in
theorem eff_swap (s : ByteArray) (hs : 1 < s.size) (hx : s[0] ≠ s[1]) (w : World) : Calls Try.prog 23 #[opV (3, 0), .string s] w (PostEff (3, 0) s w) := by
  have hs1 : 0 < s.size := by omega
  have hp2 : (0 : Int) < s.size := by omega
  have hse := list_some s hs1
  have htc := tx_cons s hs1
  have hp3 : (1 : Int) < s.size := by omega
  have ht2 := tx_drop s 1 hs
  have he : Ed.eff (3, 0) (tx s) = some ((tx s).drop 2, [s[1], s[0]]) := by
    obtain ⟨l, hl⟩ : ∃ l, (tx s).drop 2 = l := ⟨_, rfl⟩
    have ht2 : (tx s).drop 1 = s[1] :: l := by rw [← hl]; exact ht2
    rw [ht2] at htc
    try rw [hl]
    rw [htc]; show (if s[0] = s[1] then none else some (l, [s[1], s[0]])) = _
    rw [if_neg hx]
  obtain ⟨x, hxx⟩ : ∃ x, s[0] = x := ⟨_, rfl⟩
  obtain ⟨z, hzz⟩ : ∃ z, s[1] = z := ⟨_, rfl⟩
  rw [hxx, hzz] at hx
  try rw [hxx, hzz] at he
  have hq : ((x.toNat : Int) != (z.toNat : Int)) = true := by rw [u8_bne]; simp [hx]
  unfold opV
  obtain ⟨W, hW⟩ : ∃ W, W = w.alloc (.cells #[.int .u8 3, .int .u8 0] 51) := ⟨_, rfl⟩
  obtain ⟨o0, o1⟩ := op_new w 3 0
  rw [← hW] at o0 o1
  have hb1 : Below w.heap.size w W := by rw [hW]; exact below_new w _
  have hcv := conv_2 W (W.alloc (.cells #[.int .u8 z.toNat, .int .u8 x.toNat] 5)).drew z x (by go_simp) (by go_simp)
  have HB := Lib.hid hb1; have HE := Lib.hid he; have HS := Lib.hid hs
  clear hb1 he htc hx ht2
  go_enter Try.func23, Try.ntmps23
  go_wp2_with fail
  try rw [← hW]
  clear hW
  go_region
  go_wp2
  refine bodyPost_ret (results_tmp3 rfl _ _ _) rfl ?_
  exact ⟨2, _, by rw [HE.out]; rfl, fun r u h => (by
    rw [HE.out] at h
    cases h; exact ⟨HS.out, rfl, rfl⟩), (HB.out.alloc HB.out.size _).drew⟩

set_option maxHeartbeats 2000000 in
theorem eff_swap_no (s : ByteArray) (hs : 1 < s.size) (hx : s[0] = s[1]) (w : World) : Calls Try.prog 23 #[opV (3, 0), .string s] w (PostEff (3, 0) s w) := by
  have hs1 : 0 < s.size := by omega
  have hp2 : (0 : Int) < s.size := by omega
  have hse := list_some s hs1
  have htc := tx_cons s hs1
  have hp3 : (1 : Int) < s.size := by omega
  have ht2 := tx_drop s 1 hs
  have he : Ed.eff (3, 0) (tx s) = none := by
    obtain ⟨l, hl⟩ : ∃ l, (tx s).drop 2 = l := ⟨_, rfl⟩
    have ht2 : (tx s).drop 1 = s[1] :: l := by rw [← hl]; exact ht2
    rw [ht2] at htc
    try rw [hl]
    rw [htc]; show (if s[0] = s[1] then none else some (l, [s[1], s[0]])) = _
    rw [if_pos hx]
  obtain ⟨x, hxx⟩ : ∃ x, s[0] = x := ⟨_, rfl⟩
  obtain ⟨z, hzz⟩ : ∃ z, s[1] = z := ⟨_, rfl⟩
  rw [hxx, hzz] at hx
  try rw [hxx, hzz] at he
  have hq : ((x.toNat : Int) != (z.toNat : Int)) = false := by rw [u8_bne]; simp [hx]
  unfold opV
  obtain ⟨W, hW⟩ : ∃ W, W = w.alloc (.cells #[.int .u8 3, .int .u8 0] 51) := ⟨_, rfl⟩
  obtain ⟨o0, o1⟩ := op_new w 3 0
  rw [← hW] at o0 o1
  have hb1 : Below w.heap.size w W := by rw [hW]; exact below_new w _
  have hcv := conv_2 W (W.alloc (.cells #[.int .u8 z.toNat, .int .u8 x.toNat] 5)).drew z x (by go_simp) (by go_simp)
  have HB := Lib.hid hb1; have HE := Lib.hid he; have HS := Lib.hid hs
  clear hb1 he htc hx ht2
  go_enter Try.func23, Try.ntmps23
  go_wp2_with fail
  try rw [← hW]
  clear hW
  go_region
  go_wp2
  refine bodyPost_ret (results_tmp3 rfl _ _ _) rfl ?_
  exact ⟨2, _, by rw [HE.out]; rfl, fun r u h => (by rw [HE.out] at h; cases h), (HB.out.alloc HB.out.size _).drew⟩

set_option maxHeartbeats 2000000 in
theorem eff_swap_one (s : ByteArray) (hs : s.size = 1) (w : World) : Calls Try.prog 23 #[opV (3, 0), .string s] w (PostEff (3, 0) s w) := by
  have hs1 : 0 < s.size := by omega
  have hp2 : (0 : Int) < s.size := by omega
  have hse := list_some s hs1
  have htc := tx_cons s hs1
  have ht2 := tx_end s 1 (by omega)
  have he : Ed.eff (3, 0) (tx s) = none := by rw [htc, ht2]; rfl
  have hp3 : decide ((1 : Int) < (s.size : Int)) = false := decide_eq_false (by omega)
  unfold opV
  obtain ⟨W, hW⟩ : ∃ W, W = w.alloc (.cells #[.int .u8 3, .int .u8 0] 51) := ⟨_, rfl⟩
  obtain ⟨o0, o1⟩ := op_new w 3 0
  rw [← hW] at o0 o1
  have hb1 : Below w.heap.size w W := by rw [hW]; exact below_new w _
  have HB := Lib.hid hb1; have HE := Lib.hid he
  clear hb1 he htc ht2 hW
  go_enter Try.func23, Try.ntmps23
  go_wp2
  refine bodyPost_ret (results_tmp3 rfl _ _ _) rfl ?_
  exact ⟨0, ⟨#[]⟩, by rw [HE.out]; rfl, fun r u h => (by rw [HE.out] at h; cases h), below_new w _⟩

set_option maxHeartbeats 2000000 in
theorem eff_other (k : Nat) (h1 : k ≠ 1) (h2 : k ≠ 2) (h3 : k ≠ 3) (h4 : k ≠ 4) (h5 : k ≠ 5) (s : ByteArray) (hs : 0 < s.size) (w : World) : Calls Try.prog 23 #[opV (k, 0), .string s] w (PostEff (k, 0) s w) := by
  have hp2 : (0 : Int) < s.size := by omega
  have hse := list_some s hs
  have htc := tx_cons s hs
  have he : Ed.eff (k, 0) (tx s) = none := by
    rw [htc]; unfold Ed.eff; rw [if_neg h5]; simp only; rw [if_neg h2, if_neg (by simp), if_neg h1, if_neg h4, if_neg h3]
  have g1 : ((k : Int) == 1) = false := by rw [beq_eq_false_iff_ne]; omega
  have g2 : ((k : Int) == 2) = false := by rw [beq_eq_false_iff_ne]; omega
  have g3 : ((k : Int) == 3) = false := by rw [beq_eq_false_iff_ne]; omega
  have g4 : ((k : Int) == 4) = false := by rw [beq_eq_false_iff_ne]; omega
  have g5 : ((k : Int) == 5) = false := by rw [beq_eq_false_iff_ne]; omega
  unfold opV
  obtain ⟨W, hW⟩ : ∃ W, W = w.alloc (.cells #[.int .u8 k, .int .u8 0] 51) := ⟨_, rfl⟩
  obtain ⟨o0, o1⟩ := op_new w k 0
  rw [← hW] at o0 o1
  have hb1 : Below w.heap.size w W := by rw [hW]; exact below_new w _
  have HB := Lib.hid hb1; have HE := Lib.hid he
  clear hb1 he hW htc h1 h2 h3 h4 h5
  go_enter Try.func23, Try.ntmps23
  go_wp2
  refine bodyPost_ret (results_tmp3 rfl _ _ _) rfl ?_
  exact ⟨0, ⟨#[]⟩, by rw [HE.out]; rfl, fun r u h => (by rw [HE.out] at h; cases h), below_new w _⟩

theorem effect_any (k y : Nat) (hy : y < 256) (s : ByteArray) (w : World) : Calls Try.prog 23 #[opV (k, y), .string s] w (PostEff (k, y) s w) := by
  by_cases h5 : k = 5
  · subst h5; exact eff_ins y hy s w
  by_cases hs : s.size = 0
  · rw [size_zero s hs]; exact eff_none k y h5 w
  have hs : 0 < s.size := by omega
  by_cases h2 : k = 2
  · subst h2
    by_cases hx : s[0].toNat = y
    · exact eff_chg_no y hy s hs hx w
    · exact eff_chg y hy s hs hx w
  by_cases h0 : y = 0
  · subst h0
    by_cases h1 : k = 1
    · subst h1; exact eff_keep s hs w
    by_cases h4 : k = 4
    · subst h4; exact eff_del s hs w
    by_cases h3 : k = 3
    · subst h3
      by_cases hl : s.size = 1
      · exact eff_swap_one s hl w
      · by_cases hx : s[0] = s[1]
        · exact eff_swap_no s (by omega) hx w
        · exact eff_swap s (by omega) hx w
    exact eff_other k h1 h2 h3 h4 h5 s hs w
  · exact eff_byte k y h5 h2 h0 s hs w
end Go.Proofs.Ythojojjdamchpaa
