/-
  The law's awake.
-/
import Derived.Test.YtcponhdeffnndaaGreatDoorTokSame
namespace Go.Proofs.YtcponhdeffnndaaGreatDoor
open Go.RowKit
set_option linter.unusedVariables false
set_option linter.unusedSimpArgs false

theorem tkC_at : ∀ (l : List Tk.T) (i : Nat), i < l.length → ((tkC l)[i * 4]? = some (strV (l.getD i ⟨[], 0, 0⟩).text) ∧ (tkC l)[i * 4 + 1]? = some (.int .i64 (l.getD i ⟨[], 0, 0⟩).line) ∧
    (tkC l)[i * 4 + 2]? = some (.int .i64 (l.getD i ⟨[], 0, 0⟩).at') ∧ (tkC l)[i * 4 + 3]? = some (.int .u16 (Tk.cls (l.getD i ⟨[], 0, 0⟩).text)))
  | [], _, h => by simp at h
  | x :: l, 0, _ => ⟨rfl, rfl, rfl, rfl⟩
  | x :: l, i + 1, h => by
    have ih := tkC_at l i (by simpa using h)
    have e : tkC (x :: l) = tk4 x ++ tkC l := by unfold tkC; rw [List.flatMap_cons]
    have e4 : (tk4 x).length = 4 := rfl
    rw [e]
    refine ⟨?_, ?_, ?_, ?_⟩
    · rw [List.getElem?_append_right (by omega), e4, show (i + 1) * 4 - 4 = i * 4 by omega]; simpa using ih.1
    · rw [List.getElem?_append_right (by omega), e4, show (i + 1) * 4 + 1 - 4 = i * 4 + 1 by omega]; simpa using ih.2.1
    · rw [List.getElem?_append_right (by omega), e4, show (i + 1) * 4 + 2 - 4 = i * 4 + 2 by omega]; simpa using ih.2.2.1
    · rw [List.getElem?_append_right (by omega), e4, show (i + 1) * 4 + 3 - 4 = i * 4 + 3 by omega]; simpa using ih.2.2.2
def tvOf (x : Tk.T) : Tv := (x.text, x.line, x.at', Tk.cls x.text)
theorem Toks.rd {base : Nat} {w : World} {A : Option Addr} {n c : Nat} {l : List Tk.T} (h : Toks base w A n c l) : RdT w A (l.map tvOf) := by
  obtain ⟨hl, ho⟩ := h
  intro h0
  rw [List.length_map] at h0
  rcases ho.2 with ⟨hv, h2⟩ | ⟨g, cap, cur, hv, hb, hh, h3⟩
  · have : n = 0 := by injection hv
    omega
  · have hA : A = some ⟨g, 0, none⟩ := by injection hv
    subst hA
    refine ⟨g, 0, rfl, fun i hi => ?_⟩
    rw [List.length_map] at hi
    obtain ⟨c0, c1, c2, c3⟩ := tkC_at l i hi
    have hg : (l.map tvOf).getD i ([], 0, 0, 0) = tvOf (l.getD i ⟨[], 0, 0⟩) := by
      rw [List.getD_eq_getElem?_getD, List.getElem?_map, List.getElem?_eq_getElem hi, List.getD_eq_getElem?_getD, List.getElem?_eq_getElem hi]; rfl
    rw [hg]
    have hc := fun j v hj => ho.cells (g := g) rfl j v hj
    have e : ∀ j, (⟨g, 0, none⟩ : Addr).add j = ⟨g, 0 + j, none⟩ := fun j => by unfold Addr.add; split <;> simp [*]
    simp only [e] at hc
    refine ⟨hc _ _ c0, ?_, ?_, ?_⟩
    · have := hc _ _ c1; rwa [← Nat.add_assoc] at this
    · have := hc _ _ c2; rwa [← Nat.add_assoc] at this
    · have := hc _ _ c3; rwa [← Nat.add_assoc] at this
def wantC : Array Value := #[.string ⟨#[49, 50, 66]⟩, .int .i64 0, .int .i64 0, .int .u16 134, .string ⟨#[77, 65, 73, 78]⟩, .int .i64 0, .int .i64 4, .int .u16 132, .string ⟨#[83, 84]⟩, .int .i64 0, .int .i64 9, .int .u16 404, .string ⟨#[83, 80, 82, 73, 78, 71, 70, 73, 69, 76, 68]⟩, .int .i64 1, .int .i64 0, .int .u16 4]
def wantT : List Tv := [([49, 50, 66], 0, 0, 134), ([77, 65, 73, 78], 0, 4, 132), ([83, 84], 0, 9, 404), ([83, 80, 82, 73, 78, 71, 70, 73, 69, 76, 68], 1, 0, 4)]
theorem want_new (w : World) : RdT (w.alloc (.cells #[.string ⟨#[49, 50, 66]⟩, .int .i64 0, .int .i64 0, .int .u16 134, .string ⟨#[77, 65, 73, 78]⟩, .int .i64 0, .int .i64 4, .int .u16 132, .string ⟨#[83, 84]⟩, .int .i64 0, .int .i64 9, .int .u16 404, .string ⟨#[83, 80, 82, 73, 78, 71, 70, 73, 69, 76, 68]⟩, .int .i64 1, .int .i64 0, .int .u16 4] 44)) (some ⟨w.heap.size, 0, none⟩) wantT := by
  intro _
  have h := heap_alloc_new w (.cells wantC 44)
  refine ⟨w.heap.size, 0, rfl, fun i hi => ?_⟩
  have hi4 : i < 4 := hi
  have hc := fun j => cell_of_row (w.alloc (.cells wantC 44)) w.heap.size j _ _ _ h
  rcases (show i = 0 ∨ i = 1 ∨ i = 2 ∨ i = 3 by omega) with rfl | rfl | rfl | rfl
  · exact ⟨hc 0, hc 1, hc 2, hc 3⟩
  · exact ⟨hc 4, hc 5, hc 6, hc 7⟩
  · exact ⟨hc 8, hc 9, hc 10, hc 11⟩
  · exact ⟨hc 12, hc 13, hc 14, hc 15⟩
theorem rdS_new2b (w : World) (o : Obj) (x y : ByteArray) : RdS ((w.alloc o).alloc (.cells #[.string x, .string y] 9)) (some ⟨w.heap.size + 1, 0, none⟩) [x.data.toList, y.data.toList] := by
  have h := rdS_new2 (w.alloc o) x y
  rw [show (w.alloc o).heap.size = w.heap.size + 1 by simp] at h
  exact h
theorem aw1 (w : World) (hw : Rdy w) : Calls Tryz.prog 13 #[.string ⟨#[49, 50, 98, 32, 32, 77, 97, 105, 110, 32, 115, 116, 44, 10, 10, 83, 112, 114, 105, 110, 103, 102, 105, 101, 108, 100]⟩] w fun e w' => ∃ A n c, e = .returned (.tuple #[.slice A n c, .int .i64 0]) ∧ Strs w.heap.size w' A n c [[49, 50, 66, 32, 77, 65, 73, 78, 32, 83, 84], [83, 80, 82, 73, 78, 71, 70, 73, 69, 76, 68]] ∧ Below w.heap.size w w' := by
  have h1 : Tk.linesE [49, 50, 98, 32, 32, 77, 97, 105, 110, 32, 115, 116, 44, 10, 10, 83, 112, 114, 105, 110, 103, 102, 105, 101, 108, 100] = 0 := by decide +kernel
  have h2 : Tk.linesV [49, 50, 98, 32, 32, 77, 97, 105, 110, 32, 115, 116, 44, 10, 10, 83, 112, 114, 105, 110, 103, 102, 105, 101, 108, 100] = [[49, 50, 66, 32, 77, 65, 73, 78, 32, 83, 84], [83, 80, 82, 73, 78, 71, 70, 73, 69, 76, 68]] := by decide +kernel
  have hq := lines_any ⟨#[49, 50, 98, 32, 32, 77, 97, 105, 110, 32, 115, 116, 44, 10, 10, 83, 112, 114, 105, 110, 103, 102, 105, 101, 108, 100]⟩ w hw (by decide)
  unfold PostLines at hq
  rw [show (⟨#[49, 50, 98, 32, 32, 77, 97, 105, 110, 32, 115, 116, 44, 10, 10, 83, 112, 114, 105, 110, 103, 102, 105, 101, 108, 100]⟩ : ByteArray).data.toList = [49, 50, 98, 32, 32, 77, 97, 105, 110, 32, 115, 116, 44, 10, 10, 83, 112, 114, 105, 110, 103, 102, 105, 101, 108, 100] from rfl, h1, h2] at hq
  exact hq
theorem aw2 (A : Option Addr) (n c : Nat) (w : World) (hw : Rdy w) (hn : n = 2) (hrd : RdS w A [[49, 50, 66, 32, 77, 65, 73, 78, 32, 83, 84], [83, 80, 82, 73, 78, 71, 70, 73, 69, 76, 68]]) : Calls Tryz.prog 26 #[.slice A n c] w fun e w' => ∃ A2 c2, e = .returned (.tuple #[.slice A2 4 c2, .int .i64 0]) ∧ RdT w' A2 wantT ∧ Below w.heap.size w w' := by
  subst hn
  have h1 : Tk.tokE [[49, 50, 66, 32, 77, 65, 73, 78, 32, 83, 84], [83, 80, 82, 73, 78, 71, 70, 73, 69, 76, 68]] = 0 := by decide +kernel
  have h2 : Tk.tokV [[49, 50, 66, 32, 77, 65, 73, 78, 32, 83, 84], [83, 80, 82, 73, 78, 71, 70, 73, 69, 76, 68]] = [⟨[49, 50, 66], 0, 0⟩, ⟨[77, 65, 73, 78], 0, 4⟩, ⟨[83, 84], 0, 9⟩, ⟨[83, 80, 82, 73, 78, 71, 70, 73, 69, 76, 68], 1, 0⟩] := by decide +kernel
  have hq := tokens_any A 2 c [[49, 50, 66, 32, 77, 65, 73, 78, 32, 83, 84], [83, 80, 82, 73, 78, 71, 70, 73, 69, 76, 68]] w hw rfl (by decide) hrd (by decide)
  unfold PostToks at hq
  rw [h1, h2] at hq
  refine hq.mono ?_
  rintro e w' ⟨A2, n2, c2, rfl, h, hb⟩
  obtain rfl : n2 = 4 := h.1.symm
  refine ⟨A2, c2, rfl, ?_, hb⟩
  have h3 := h.rd
  have h4 : ([⟨[49, 50, 66], 0, 0⟩, ⟨[77, 65, 73, 78], 0, 4⟩, ⟨[83, 84], 0, 9⟩, ⟨[83, 80, 82, 73, 78, 71, 70, 73, 69, 76, 68], 1, 0⟩] : List Tk.T).map tvOf = wantT := by decide +kernel
  rw [h4] at h3
  exact h3
theorem awc0 (w : World) (hw : Rdy w) : Calls Tryz.prog 28 #[.string ⟨#[49, 50, 51, 52, 53]⟩] w fun e w' => e = .returned (.int .u16 641) ∧ Below w.heap.size w w' := by
  have h1 : Tk.cls [49, 50, 51, 52, 53] = 641 := by decide +kernel
  have hq := cls_any ⟨#[49, 50, 51, 52, 53]⟩ w hw (by decide)
  unfold PostU16 at hq
  rw [show (⟨#[49, 50, 51, 52, 53]⟩ : ByteArray).data.toList = [49, 50, 51, 52, 53] from rfl, h1] at hq
  exact hq
theorem awc1 (w : World) (hw : Rdy w) : Calls Tryz.prog 28 #[.string ⟨#[48, 49, 50, 51, 52]⟩] w fun e w' => e = .returned (.int .u16 640) ∧ Below w.heap.size w w' := by
  have h1 : Tk.cls [48, 49, 50, 51, 52] = 640 := by decide +kernel
  have hq := cls_any ⟨#[48, 49, 50, 51, 52]⟩ w hw (by decide)
  unfold PostU16 at hq
  rw [show (⟨#[48, 49, 50, 51, 52]⟩ : ByteArray).data.toList = [48, 49, 50, 51, 52] from rfl, h1] at hq
  exact hq
theorem awc2 (w : World) (hw : Rdy w) : Calls Tryz.prog 28 #[.string ⟨#[49, 50, 51, 52]⟩] w fun e w' => e = .returned (.int .u16 8321) ∧ Below w.heap.size w w' := by
  have h1 : Tk.cls [49, 50, 51, 52] = 8321 := by decide +kernel
  have hq := cls_any ⟨#[49, 50, 51, 52]⟩ w hw (by decide)
  unfold PostU16 at hq
  rw [show (⟨#[49, 50, 51, 52]⟩ : ByteArray).data.toList = [49, 50, 51, 52] from rfl, h1] at hq
  exact hq
theorem awc3 (w : World) (hw : Rdy w) : Calls Tryz.prog 28 #[.string ⟨#[75, 49, 65]⟩] w fun e w' => e = .returned (.int .u16 2180) ∧ Below w.heap.size w w' := by
  have h1 : Tk.cls [75, 49, 65] = 2180 := by decide +kernel
  have hq := cls_any ⟨#[75, 49, 65]⟩ w hw (by decide)
  unfold PostU16 at hq
  rw [show (⟨#[75, 49, 65]⟩ : ByteArray).data.toList = [75, 49, 65] from rfl, h1] at hq
  exact hq
theorem awc4 (w : World) (hw : Rdy w) : Calls Tryz.prog 28 #[.string ⟨#[49, 47, 50]⟩] w fun e w' => e = .returned (.int .u16 0) ∧ Below w.heap.size w w' := by
  have h1 : Tk.cls [49, 47, 50] = 0 := by decide +kernel
  have hq := cls_any ⟨#[49, 47, 50]⟩ w hw (by decide)
  unfold PostU16 at hq
  rw [show (⟨#[49, 47, 50]⟩ : ByteArray).data.toList = [49, 47, 50] from rfl, h1] at hq
  exact hq
theorem awc5 (w : World) (hw : Rdy w) : Calls Tryz.prog 28 #[.string ⟨#[45]⟩] w fun e w' => e = .returned (.int .u16 0) ∧ Below w.heap.size w w' := by
  have h1 : Tk.cls [45] = 0 := by decide +kernel
  have hq := cls_any ⟨#[45]⟩ w hw (by decide)
  unfold PostU16 at hq
  rw [show (⟨#[45]⟩ : ByteArray).data.toList = [45] from rfl, h1] at hq
  exact hq
theorem awc6 (w : World) (hw : Rdy w) : Calls Tryz.prog 28 #[.string ⟨#[65, 45, 66]⟩] w fun e w' => e = .returned (.int .u16 4) ∧ Below w.heap.size w w' := by
  have h1 : Tk.cls [65, 45, 66] = 4 := by decide +kernel
  have hq := cls_any ⟨#[65, 45, 66]⟩ w hw (by decide)
  unfold PostU16 at hq
  rw [show (⟨#[65, 45, 66]⟩ : ByteArray).data.toList = [65, 45, 66] from rfl, h1] at hq
  exact hq
theorem awn0 (w : World) : Calls Tryz.prog 32 #[.string ⟨#[49, 50, 66]⟩] w fun e w' => ∃ S : ByteArray, e = .returned (.tuple #[.int .i64 12, .string S, .bool true]) ∧ (S.toList == [66]) = true ∧ Below w.heap.size w w' := by
  have h1 : Tk.numV [49, 50, 66] = 12 := by decide +kernel
  have h2 : Tk.numT [49, 50, 66] = [66] := by decide +kernel
  have h3 : Tk.isNum [49, 50, 66] = true := by decide +kernel
  have hq := number_any ⟨#[49, 50, 66]⟩ w (by decide)
  unfold PostNo at hq
  rw [show (⟨#[49, 50, 66]⟩ : ByteArray).data.toList = [49, 50, 66] from rfl, h1, h2, h3] at hq
  refine hq.mono ?_
  rintro e w' ⟨rfl, hb⟩
  exact ⟨_, rfl, by rw [ByteArray.toList_eq]; rfl, hb⟩
theorem awn1 (w : World) : Calls Tryz.prog 32 #[.string ⟨#[48, 49, 50]⟩] w fun e w' => ∃ S : ByteArray, e = .returned (.tuple #[.int .i64 0, .string S, .bool false]) ∧ (S.toList == []) = true ∧ Below w.heap.size w w' := by
  have h1 : Tk.numV [48, 49, 50] = 0 := by decide +kernel
  have h2 : Tk.numT [48, 49, 50] = [] := by decide +kernel
  have h3 : Tk.isNum [48, 49, 50] = false := by decide +kernel
  have hq := number_any ⟨#[48, 49, 50]⟩ w (by decide)
  unfold PostNo at hq
  rw [show (⟨#[48, 49, 50]⟩ : ByteArray).data.toList = [48, 49, 50] from rfl, h1, h2, h3] at hq
  refine hq.mono ?_
  rintro e w' ⟨rfl, hb⟩
  exact ⟨_, rfl, by rw [ByteArray.toList_eq]; rfl, hb⟩
theorem awn2 (w : World) : Calls Tryz.prog 32 #[.string ⟨#[49, 50, 51, 52, 53, 54, 55]⟩] w fun e w' => ∃ S : ByteArray, e = .returned (.tuple #[.int .i64 0, .string S, .bool false]) ∧ (S.toList == []) = true ∧ Below w.heap.size w w' := by
  have h1 : Tk.numV [49, 50, 51, 52, 53, 54, 55] = 0 := by decide +kernel
  have h2 : Tk.numT [49, 50, 51, 52, 53, 54, 55] = [] := by decide +kernel
  have h3 : Tk.isNum [49, 50, 51, 52, 53, 54, 55] = false := by decide +kernel
  have hq := number_any ⟨#[49, 50, 51, 52, 53, 54, 55]⟩ w (by decide)
  unfold PostNo at hq
  rw [show (⟨#[49, 50, 51, 52, 53, 54, 55]⟩ : ByteArray).data.toList = [49, 50, 51, 52, 53, 54, 55] from rfl, h1, h2, h3] at hq
  refine hq.mono ?_
  rintro e w' ⟨rfl, hb⟩
  exact ⟨_, rfl, by rw [ByteArray.toList_eq]; rfl, hb⟩
theorem awd0 (w : World) (hw : Rdy w) : Calls Tryz.prog 36 #[.int .u8 2, .string ⟨#[75, 49, 65, 32, 48, 66, 49]⟩] w fun e w' => ∃ S : ByteArray, e = .returned (.tuple #[.string S, .bool true]) ∧ (S.toList == [75, 49, 65, 48, 66, 49]) = true ∧ Below w.heap.size w w' := by
  have h2 : Tk.codeV 2 [75, 49, 65, 32, 48, 66, 49] = [75, 49, 65, 48, 66, 49] := by decide +kernel
  have h3 : Tk.isCode 2 [75, 49, 65, 32, 48, 66, 49] = true := by decide +kernel
  have hq := code_any 2 ⟨#[75, 49, 65, 32, 48, 66, 49]⟩ w hw (by decide)
  unfold PostSB2 at hq
  rw [show (⟨#[75, 49, 65, 32, 48, 66, 49]⟩ : ByteArray).data.toList = [75, 49, 65, 32, 48, 66, 49] from rfl, h2, h3] at hq
  refine hq.mono ?_
  rintro e w' ⟨rfl, hb⟩
  exact ⟨_, rfl, by rw [ByteArray.toList_eq]; rfl, hb⟩
theorem awd1 (w : World) (hw : Rdy w) : Calls Tryz.prog 36 #[.int .u8 1, .string ⟨#[49, 50, 51, 52]⟩] w fun e w' => ∃ S : ByteArray, e = .returned (.tuple #[.string S, .bool false]) ∧ (S.toList == []) = true ∧ Below w.heap.size w w' := by
  have h2 : Tk.codeV 1 [49, 50, 51, 52] = [] := by decide +kernel
  have h3 : Tk.isCode 1 [49, 50, 51, 52] = false := by decide +kernel
  have hq := code_any 1 ⟨#[49, 50, 51, 52]⟩ w hw (by decide)
  unfold PostSB2 at hq
  rw [show (⟨#[49, 50, 51, 52]⟩ : ByteArray).data.toList = [49, 50, 51, 52] from rfl, h2, h3] at hq
  refine hq.mono ?_
  rintro e w' ⟨rfl, hb⟩
  exact ⟨_, rfl, by rw [ByteArray.toList_eq]; rfl, hb⟩
set_option maxRecDepth 100000 in
set_option maxHeartbeats 4000000 in
theorem awake_any (w : World) (hw : Rdy w) : Calls Tryz.prog 12 #[] w (PostB true w) := by
  have R0 := Lib.hid hw
  clear hw
  go_enter Tryz.func12, Tryz.ntmps12
  go_wp2_with (first
    | (go_at_call 13; (with_reducible refine (aw1 w R0.out).mono ?_); rintro e w1 ⟨A1, n1, c1, rfl, h, hb⟩; have B1 := Lib.hid hb; have R1 := Lib.hid (R0.out.below hb); have L1 := Lib.hid (show n1 = 2 from h.len.symm); have L1b := Lib.hid h.len; have S1 := Lib.hid h.rd; clear h hb)
    | (go_at_call 26; (with_reducible refine (aw2 A1 n1 c1 w1 R1.out L1.out S1.out).mono ?_); rintro e w2 ⟨A2, c2, rfl, h, hb⟩; have B2 := Lib.hid (below_next B1.out hb); have R2 := Lib.hid (R1.out.below hb); have S2b := Lib.hid (((S1.out.below hb).below (below_new w2 (.cells #[.string ⟨#[49, 50, 66]⟩, .int .i64 0, .int .i64 0, .int .u16 134, .string ⟨#[77, 65, 73, 78]⟩, .int .i64 0, .int .i64 4, .int .u16 132, .string ⟨#[83, 84]⟩, .int .i64 0, .int .i64 9, .int .u16 404, .string ⟨#[83, 80, 82, 73, 78, 71, 70, 73, 69, 76, 68]⟩, .int .i64 1, .int .i64 0, .int .u16 4] 44))).below (below_new _ (.cells #[.string ⟨#[49, 50, 66, 32, 77, 65, 73, 78, 32, 83, 84]⟩, .string ⟨#[83, 80, 82, 73, 78, 71, 70, 73, 69, 76, 68]⟩] 9))); have N2 := Lib.hid (rdS_new2b w2 (.cells #[.string ⟨#[49, 50, 66]⟩, .int .i64 0, .int .i64 0, .int .u16 134, .string ⟨#[77, 65, 73, 78]⟩, .int .i64 0, .int .i64 4, .int .u16 132, .string ⟨#[83, 84]⟩, .int .i64 0, .int .i64 9, .int .u16 404, .string ⟨#[83, 80, 82, 73, 78, 71, 70, 73, 69, 76, 68]⟩, .int .i64 1, .int .i64 0, .int .u16 4] 44) ⟨#[49, 50, 66, 32, 77, 65, 73, 78, 32, 83, 84]⟩ ⟨#[83, 80, 82, 73, 78, 71, 70, 73, 69, 76, 68]⟩); have T2 := Lib.hid (h.below (below_new w2 (.cells #[.string ⟨#[49, 50, 66]⟩, .int .i64 0, .int .i64 0, .int .u16 134, .string ⟨#[77, 65, 73, 78]⟩, .int .i64 0, .int .i64 4, .int .u16 132, .string ⟨#[83, 84]⟩, .int .i64 0, .int .i64 9, .int .u16 404, .string ⟨#[83, 80, 82, 73, 78, 71, 70, 73, 69, 76, 68]⟩, .int .i64 1, .int .i64 0, .int .u16 4] 44))); have T3 := Lib.hid (want_new w2); have R3 := Lib.hid (R2.out.below (below_new w2 (.cells #[.string ⟨#[49, 50, 66]⟩, .int .i64 0, .int .i64 0, .int .u16 134, .string ⟨#[77, 65, 73, 78]⟩, .int .i64 0, .int .i64 4, .int .u16 132, .string ⟨#[83, 84]⟩, .int .i64 0, .int .i64 9, .int .u16 404, .string ⟨#[83, 80, 82, 73, 78, 71, 70, 73, 69, 76, 68]⟩, .int .i64 1, .int .i64 0, .int .u16 4] 44))); have B3 := Lib.hid (below_next B2.out (below_new w2 (.cells #[.string ⟨#[49, 50, 66]⟩, .int .i64 0, .int .i64 0, .int .u16 134, .string ⟨#[77, 65, 73, 78]⟩, .int .i64 0, .int .i64 4, .int .u16 132, .string ⟨#[83, 84]⟩, .int .i64 0, .int .i64 9, .int .u16 404, .string ⟨#[83, 80, 82, 73, 78, 71, 70, 73, 69, 76, 68]⟩, .int .i64 1, .int .i64 0, .int .u16 4] 44))); clear h hb)
    | (go_at_call 25; (with_reducible refine (sameT_any A1 (some ⟨w2.heap.size + 1, 0, none⟩) n1 c1 2 2 [[49, 50, 66, 32, 77, 65, 73, 78, 32, 83, 84], [83, 80, 82, 73, 78, 71, 70, 73, 69, 76, 68]] ((w2.alloc (.cells #[.string ⟨#[49, 50, 66]⟩, .int .i64 0, .int .i64 0, .int .u16 134, .string ⟨#[77, 65, 73, 78]⟩, .int .i64 0, .int .i64 4, .int .u16 132, .string ⟨#[83, 84]⟩, .int .i64 0, .int .i64 9, .int .u16 404, .string ⟨#[83, 80, 82, 73, 78, 71, 70, 73, 69, 76, 68]⟩, .int .i64 1, .int .i64 0, .int .u16 4] 44)).alloc (.cells #[.string ⟨#[49, 50, 66, 32, 77, 65, 73, 78, 32, 83, 84]⟩, .string ⟨#[83, 80, 82, 73, 78, 71, 70, 73, 69, 76, 68]⟩] 9)) L1b.out rfl (by decide) S2b.out N2.out).mono ?_); rintro e w4 ⟨rfl, hb⟩; have B4 := Lib.hid (below_next (below_next B3.out (below_new _ (.cells #[.string ⟨#[49, 50, 66, 32, 77, 65, 73, 78, 32, 83, 84]⟩, .string ⟨#[83, 80, 82, 73, 78, 71, 70, 73, 69, 76, 68]⟩] 9))) hb); have R4 := Lib.hid ((R3.out.below (below_new _ (.cells #[.string ⟨#[49, 50, 66, 32, 77, 65, 73, 78, 32, 83, 84]⟩, .string ⟨#[83, 80, 82, 73, 78, 71, 70, 73, 69, 76, 68]⟩] 9))).below hb); have T4 := Lib.hid ((T2.out.below (below_new _ (.cells #[.string ⟨#[49, 50, 66, 32, 77, 65, 73, 78, 32, 83, 84]⟩, .string ⟨#[83, 80, 82, 73, 78, 71, 70, 73, 69, 76, 68]⟩] 9))).below hb); have T5 := Lib.hid ((T3.out.below (below_new _ (.cells #[.string ⟨#[49, 50, 66, 32, 77, 65, 73, 78, 32, 83, 84]⟩, .string ⟨#[83, 80, 82, 73, 78, 71, 70, 73, 69, 76, 68]⟩] 9))).below hb); clear hb)
    | (go_at_call 38; (with_reducible refine (sameTok_any A2 (some ⟨w2.heap.size, 0, none⟩) 4 c2 4 wantT w4 rfl (by decide) T4.out T5.out).mono ?_); rintro e w5 ⟨rfl, hb⟩; have B5 := Lib.hid (below_next B4.out hb); have R5 := Lib.hid (R4.out.below hb); clear hb))
  obtain ⟨W0, hW0⟩ : ∃ W0, W0 = w5.alloc (.cells #[.string ⟨#[49, 50, 51, 52, 53]⟩, .string ⟨#[48, 49, 50, 51, 52]⟩, .string ⟨#[49, 50, 51, 52]⟩, .string ⟨#[75, 49, 65]⟩, .string ⟨#[49, 47, 50]⟩, .string ⟨#[45]⟩, .string ⟨#[65, 45, 66]⟩] 9) := ⟨_, rfl⟩
  rw [← hW0]
  have HC0 := Lib.hid (show W0.heap[w5.heap.size]? = some (.cells #[.string ⟨#[49, 50, 51, 52, 53]⟩, .string ⟨#[48, 49, 50, 51, 52]⟩, .string ⟨#[49, 50, 51, 52]⟩, .string ⟨#[75, 49, 65]⟩, .string ⟨#[49, 47, 50]⟩, .string ⟨#[45]⟩, .string ⟨#[65, 45, 66]⟩] 9 (0, 0)) by rw [hW0]; exact heap_alloc_new w5 _)
  have HB0 := Lib.hid (show Below w.heap.size w W0 by rw [hW0]; exact below_next B5.out (below_new w5 _))
  have RW0 := Lib.hid (show Rdy W0 by rw [hW0]; exact R5.out.below (below_new w5 _))
  clear hW0 B1 B2 B3 B4 B5 R1 R2 R3 R4 R5 S1 S2b N2 T2 T3 T4 T5 L1 L1b
  go_loopw [6, 7, 55] (fun _ _ s55 wr => ∃ k : Nat, k ≤ 7 ∧ s55 = .int .i64 k ∧ Hid (Below W0.heap.size W0 wr)) (fun _ _ s55 _ => 7 - (intOf s55).toNat)
  case atStart => exact ⟨0, by omega, rfl, Lib.hid (Below.refl _ _)⟩
  case round =>
    obtain ⟨k, hk, rfl, HB⟩ := hrel
    have HD := Lib.hid (show Below W0.heap.size W0 wr.drew from HB.out.drew)
    have HE := Lib.hid (show Below W0.heap.size W0 ((wr.alloc (.cells #[.int .u16 641, .int .u16 640, .int .u16 8321, .int .u16 2180, .int .u16 0, .int .u16 0, .int .u16 4] 42)).drew) from (below_next HB.out (below_new _ _)).drew)
    have RD := Lib.hid (RW0.out.below HD.out); have RE := Lib.hid (RW0.out.below HE.out)
    have YC := fun j => cell_of_row (wr.alloc (.cells #[.int .u16 641, .int .u16 640, .int .u16 8321, .int .u16 2180, .int .u16 0, .int .u16 0, .int .u16 4] 42)) wr.heap.size j _ _ _ (heap_alloc_new wr _)
    have YH := Lib.hid YC
    clear YC
    by_cases hlt : k < 7
    · rcases (show k = 0 ∨ k = 1 ∨ k = 2 ∨ k = 3 ∨ k = 4 ∨ k = 5 ∨ k = 6 by omega) with rfl | rfl | rfl | rfl | rfl | rfl | rfl
      · have hw0 : wr.cell? ⟨w5.heap.size, 0, none⟩ = some (.string ⟨#[49, 50, 51, 52, 53]⟩) := cell_keep (show W0.cell? ⟨w5.heap.size, 0, none⟩ = some (.string ⟨#[49, 50, 51, 52, 53]⟩) from cell_of_row _ _ 0 _ _ _ HC0.out) HB.out
        go_wp2
        go_region_with (first
          | (go_at_call 28; (with_reducible refine (awc0 _ (by first | exact RD.out | exact RE.out)).mono ?_); rintro e V ⟨rfl, hb⟩; have BV := Lib.hid (show Below W0.heap.size W0 V from by first | exact below_next HD.out hb | exact below_next HE.out hb); first | (have cy : V.cell? ⟨wr.heap.size, 0, none⟩ = some (.int .u16 641) := cell_keep (show (wr.alloc (.cells #[.int .u16 641, .int .u16 640, .int .u16 8321, .int .u16 2180, .int .u16 0, .int .u16 0, .int .u16 4] 42)).drew.cell? ⟨wr.heap.size, 0, none⟩ = some (.int .u16 641) from YH.out 0) hb) | skip; clear hb))
        all_goals go_wp2
        all_goals go_roundw
        all_goals first
          | exact ⟨1, by omega, by go_num, by first | exact BV | exact Lib.hid (below_next BV.out (below_new _ _))⟩
          | (simp [intOf]; done)
          | (simp [intOf]; omega)
      · have hw0 : wr.cell? ⟨w5.heap.size, 1, none⟩ = some (.string ⟨#[48, 49, 50, 51, 52]⟩) := cell_keep (show W0.cell? ⟨w5.heap.size, 1, none⟩ = some (.string ⟨#[48, 49, 50, 51, 52]⟩) from cell_of_row _ _ 1 _ _ _ HC0.out) HB.out
        go_wp2
        go_region_with (first
          | (go_at_call 28; (with_reducible refine (awc1 _ (by first | exact RD.out | exact RE.out)).mono ?_); rintro e V ⟨rfl, hb⟩; have BV := Lib.hid (show Below W0.heap.size W0 V from by first | exact below_next HD.out hb | exact below_next HE.out hb); first | (have cy : V.cell? ⟨wr.heap.size, 1, none⟩ = some (.int .u16 640) := cell_keep (show (wr.alloc (.cells #[.int .u16 641, .int .u16 640, .int .u16 8321, .int .u16 2180, .int .u16 0, .int .u16 0, .int .u16 4] 42)).drew.cell? ⟨wr.heap.size, 1, none⟩ = some (.int .u16 640) from YH.out 1) hb) | skip; clear hb))
        all_goals go_wp2
        all_goals go_roundw
        all_goals first
          | exact ⟨2, by omega, by go_num, by first | exact BV | exact Lib.hid (below_next BV.out (below_new _ _))⟩
          | (simp [intOf]; done)
          | (simp [intOf]; omega)
      · have hw0 : wr.cell? ⟨w5.heap.size, 2, none⟩ = some (.string ⟨#[49, 50, 51, 52]⟩) := cell_keep (show W0.cell? ⟨w5.heap.size, 2, none⟩ = some (.string ⟨#[49, 50, 51, 52]⟩) from cell_of_row _ _ 2 _ _ _ HC0.out) HB.out
        go_wp2
        go_region_with (first
          | (go_at_call 28; (with_reducible refine (awc2 _ (by first | exact RD.out | exact RE.out)).mono ?_); rintro e V ⟨rfl, hb⟩; have BV := Lib.hid (show Below W0.heap.size W0 V from by first | exact below_next HD.out hb | exact below_next HE.out hb); first | (have cy : V.cell? ⟨wr.heap.size, 2, none⟩ = some (.int .u16 8321) := cell_keep (show (wr.alloc (.cells #[.int .u16 641, .int .u16 640, .int .u16 8321, .int .u16 2180, .int .u16 0, .int .u16 0, .int .u16 4] 42)).drew.cell? ⟨wr.heap.size, 2, none⟩ = some (.int .u16 8321) from YH.out 2) hb) | skip; clear hb))
        all_goals go_wp2
        all_goals go_roundw
        all_goals first
          | exact ⟨3, by omega, by go_num, by first | exact BV | exact Lib.hid (below_next BV.out (below_new _ _))⟩
          | (simp [intOf]; done)
          | (simp [intOf]; omega)
      · have hw0 : wr.cell? ⟨w5.heap.size, 3, none⟩ = some (.string ⟨#[75, 49, 65]⟩) := cell_keep (show W0.cell? ⟨w5.heap.size, 3, none⟩ = some (.string ⟨#[75, 49, 65]⟩) from cell_of_row _ _ 3 _ _ _ HC0.out) HB.out
        go_wp2
        go_region_with (first
          | (go_at_call 28; (with_reducible refine (awc3 _ (by first | exact RD.out | exact RE.out)).mono ?_); rintro e V ⟨rfl, hb⟩; have BV := Lib.hid (show Below W0.heap.size W0 V from by first | exact below_next HD.out hb | exact below_next HE.out hb); first | (have cy : V.cell? ⟨wr.heap.size, 3, none⟩ = some (.int .u16 2180) := cell_keep (show (wr.alloc (.cells #[.int .u16 641, .int .u16 640, .int .u16 8321, .int .u16 2180, .int .u16 0, .int .u16 0, .int .u16 4] 42)).drew.cell? ⟨wr.heap.size, 3, none⟩ = some (.int .u16 2180) from YH.out 3) hb) | skip; clear hb))
        all_goals go_wp2
        all_goals go_roundw
        all_goals first
          | exact ⟨4, by omega, by go_num, by first | exact BV | exact Lib.hid (below_next BV.out (below_new _ _))⟩
          | (simp [intOf]; done)
          | (simp [intOf]; omega)
      · have hw0 : wr.cell? ⟨w5.heap.size, 4, none⟩ = some (.string ⟨#[49, 47, 50]⟩) := cell_keep (show W0.cell? ⟨w5.heap.size, 4, none⟩ = some (.string ⟨#[49, 47, 50]⟩) from cell_of_row _ _ 4 _ _ _ HC0.out) HB.out
        go_wp2
        go_region_with (first
          | (go_at_call 28; (with_reducible refine (awc4 _ (by first | exact RD.out | exact RE.out)).mono ?_); rintro e V ⟨rfl, hb⟩; have BV := Lib.hid (show Below W0.heap.size W0 V from by first | exact below_next HD.out hb | exact below_next HE.out hb); first | (have cy : V.cell? ⟨wr.heap.size, 4, none⟩ = some (.int .u16 0) := cell_keep (show (wr.alloc (.cells #[.int .u16 641, .int .u16 640, .int .u16 8321, .int .u16 2180, .int .u16 0, .int .u16 0, .int .u16 4] 42)).drew.cell? ⟨wr.heap.size, 4, none⟩ = some (.int .u16 0) from YH.out 4) hb) | skip; clear hb))
        all_goals go_wp2
        all_goals go_roundw
        all_goals first
          | exact ⟨5, by omega, by go_num, by first | exact BV | exact Lib.hid (below_next BV.out (below_new _ _))⟩
          | (simp [intOf]; done)
          | (simp [intOf]; omega)
      · have hw0 : wr.cell? ⟨w5.heap.size, 5, none⟩ = some (.string ⟨#[45]⟩) := cell_keep (show W0.cell? ⟨w5.heap.size, 5, none⟩ = some (.string ⟨#[45]⟩) from cell_of_row _ _ 5 _ _ _ HC0.out) HB.out
        go_wp2
        go_region_with (first
          | (go_at_call 28; (with_reducible refine (awc5 _ (by first | exact RD.out | exact RE.out)).mono ?_); rintro e V ⟨rfl, hb⟩; have BV := Lib.hid (show Below W0.heap.size W0 V from by first | exact below_next HD.out hb | exact below_next HE.out hb); first | (have cy : V.cell? ⟨wr.heap.size, 5, none⟩ = some (.int .u16 0) := cell_keep (show (wr.alloc (.cells #[.int .u16 641, .int .u16 640, .int .u16 8321, .int .u16 2180, .int .u16 0, .int .u16 0, .int .u16 4] 42)).drew.cell? ⟨wr.heap.size, 5, none⟩ = some (.int .u16 0) from YH.out 5) hb) | skip; clear hb))
        all_goals go_wp2
        all_goals go_roundw
        all_goals first
          | exact ⟨6, by omega, by go_num, by first | exact BV | exact Lib.hid (below_next BV.out (below_new _ _))⟩
          | (simp [intOf]; done)
          | (simp [intOf]; omega)
      · have hw0 : wr.cell? ⟨w5.heap.size, 6, none⟩ = some (.string ⟨#[65, 45, 66]⟩) := cell_keep (show W0.cell? ⟨w5.heap.size, 6, none⟩ = some (.string ⟨#[65, 45, 66]⟩) from cell_of_row _ _ 6 _ _ _ HC0.out) HB.out
        go_wp2
        go_region_with (first
          | (go_at_call 28; (with_reducible refine (awc6 _ (by first | exact RD.out | exact RE.out)).mono ?_); rintro e V ⟨rfl, hb⟩; have BV := Lib.hid (show Below W0.heap.size W0 V from by first | exact below_next HD.out hb | exact below_next HE.out hb); first | (have cy : V.cell? ⟨wr.heap.size, 6, none⟩ = some (.int .u16 4) := cell_keep (show (wr.alloc (.cells #[.int .u16 641, .int .u16 640, .int .u16 8321, .int .u16 2180, .int .u16 0, .int .u16 0, .int .u16 4] 42)).drew.cell? ⟨wr.heap.size, 6, none⟩ = some (.int .u16 4) from YH.out 6) hb) | skip; clear hb))
        all_goals go_wp2
        all_goals go_roundw
        all_goals first
          | exact ⟨7, by omega, by go_num, by first | exact BV | exact Lib.hid (below_next BV.out (below_new _ _))⟩
          | (simp [intOf]; done)
          | (simp [intOf]; omega)
    · obtain rfl : k = 7 := by omega
      go_wp2_with (first
        | (go_at_call 32; (with_reducible refine (awn0 wr).mono ?_); rintro e v1 ⟨S1, rfl, s1, hb⟩; have B1 := Lib.hid (below_next (below_next HB0.out HB.out) hb); clear hb)
        | (go_at_call 32; (with_reducible refine (awn1 v1).mono ?_); rintro e v2 ⟨S2, rfl, s2, hb⟩; have B2 := Lib.hid (below_next B1.out hb); clear hb)
        | (go_at_call 32; (with_reducible refine (awn2 v2).mono ?_); rintro e v3 ⟨S3, rfl, s3, hb⟩; have B3 := Lib.hid (below_next B2.out hb); have R3 := Lib.hid (R0.out.below (below_next B2.out hb)); clear hb)
        | (go_at_call 36; (with_reducible refine (awd0 v3 R3.out).mono ?_); rintro e v4 ⟨S4, rfl, s4, hb⟩; have B4 := Lib.hid (below_next B3.out hb); have R4 := Lib.hid (R3.out.below hb); clear hb)
        | (go_at_call 36; (with_reducible refine (awd1 v4 R4.out).mono ?_); rintro e v5 ⟨S5, rfl, s5, hb⟩; have B5 := Lib.hid (below_next B4.out hb); clear hb))
      all_goals go_ret
      all_goals exact ⟨rfl, B5.out⟩
end Go.Proofs.YtcponhdeffnndaaGreatDoor
