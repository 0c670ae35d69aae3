/-
  Words in memory; New.
-/
import Derived.Test.YtioncjnjhmnlaaaLexNums
import Derived.Test.YtioncjnjhmnlaaaShelf
namespace Go.Proofs.Ytioncjnjhmnlaaa
open Go.RowKit Lx
set_option linter.unusedVariables false
set_option linter.unusedSimpArgs false

/-- a slice that reads as these texts -/
def RdW (w : World) (base : Nat) (A : Option Addr) (ws : List ByteArray) : Prop :=
  0 < ws.length → ∃ b off, A = some ⟨b, off, none⟩ ∧ base ≤ b ∧ b < w.heap.size ∧ ∀ i, i < ws.length → w.cell? ⟨b, off + i, none⟩ = some (.string (ws.getD i ByteArray.empty))
theorem RdW.below {w w' : World} {base : Nat} {A : Option Addr} {ws : List ByteArray} (h : RdW w base A ws) (hb : Below w.heap.size w w') : RdW w' base A ws := by
  intro h0
  obtain ⟨b, off, e, h1, hlt, hc⟩ := h h0
  exact ⟨b, off, e, h1, by have := hb.size; omega, fun i hi => (bcell hb b _ hlt).trans (hc i hi)⟩
def txs (ws : List ByteArray) : List Tx := ws.map tx
theorem txs_len (ws : List ByteArray) : (txs ws).length = ws.length := by simp [txs]
theorem txs_at (ws : List ByteArray) (i : Nat) (h : i < ws.length) : (txs ws)[i]? = some (tx (ws.getD i ByteArray.empty)) := by
  simp [txs, List.getD_eq_getElem?_getD, h]
theorem txs_drop (ws : List ByteArray) (i : Nat) (h : i < ws.length) : (txs ws).drop i = tx (ws.getD i ByteArray.empty) :: (txs ws).drop (i + 1) := by
  have h2 : i < (txs ws).length := by rw [txs_len]; exact h
  rw [List.drop_eq_getElem_cons h2]
  have := txs_at ws i h
  rw [List.getElem?_eq_getElem h2] at this
  rw [Option.some.inj this]
theorem txs_take (ws : List ByteArray) (i : Nat) (h : i < ws.length) : (txs ws).take (i + 1) = (txs ws).take i ++ [tx (ws.getD i ByteArray.empty)] := by
  have h2 : i < (txs ws).length := by rw [txs_len]; exact h
  rw [List.take_succ_eq_append_getElem h2]
  have := txs_at ws i h
  rw [List.getElem?_eq_getElem h2] at this
  rw [Option.some.inj this]
theorem tx_nil (s : ByteArray) : tx s = [] ↔ s.size = 0 := by
  rw [← tx_len]; exact List.length_eq_zero_iff.symm
/-- the error of New -/
def errNew (ws : List ByteArray) : Nat := if 1000 < ws.length then 5 else errW (txs ws) 0 (txs ws)
/-- words of a lexicon -/
structure Wds (ws : List ByteArray) : Prop where
  many : ws.length ≤ 1000
  one : (txs ws).Nodup
  size : ∀ x, x ∈ txs ws → x ≠ [] ∧ x.length ≤ 40
/-- a lexicon in memory -/
def LexO (w : World) (base x : Nat) (ws : List ByteArray) : Prop :=
  ∃ A c root cap N M, base ≤ x ∧ w.heap[x]? = some (.cells #[.slice A ws.length c, .pointer (some ⟨root, 0, none⟩)] 61 (0, 0)) ∧ RdW w base A ws ∧ Tri w base root cap N M (fnd (txs ws)) ∧ Wds ws
theorem LexO.below {w w' : World} {base x : Nat} {ws : List ByteArray} (h : LexO w base x ws) (hb : Below w.heap.size w w') : LexO w' base x ws := by
  obtain ⟨A, c, root, cap, N, M, h1, h2, h3, h4, h5⟩ := h
  exact ⟨A, c, root, cap, N, M, h1, heap_keep h2 hb, h3.below hb, h4.below hb, h5⟩
def PostNew (ws : List ByteArray) (w : World) (e : Ending) (w' : World) : Prop :=
  Below w.heap.size w w' ∧ ((errNew ws = 0 ∧ ∃ x, e = .returned (.tuple #[.pointer (some ⟨x, 0, none⟩), .int .i64 0]) ∧ LexO w' w.heap.size x ws) ∨
    (errNew ws ≠ 0 ∧ e = .returned (.tuple #[.pointer none, .int .i64 (errNew ws : Int)])))
/-- a tree without words -/
theorem Tri.root (w : World) : Tri (w.alloc (.cells #[.bool false, .int .i64 0, .map none] 57)) w.heap.size w.heap.size 0 (fun p => if p = [] then some w.heap.size else none) (fun _ => none) (fnd []) := by
  refine ⟨rfl, ?_, ?_, ?_, ?_, ?_, ?_, ?_, ?_, ?_, ?_⟩
  · intro p b hp; simp at hp
  · intro p hp; simp [fnd] at hp
  · intro p a hp
    by_cases e : p = []
    · subst e; simp at hp; subst hp; exact ⟨Nat.le_refl _, heap_alloc_new w _⟩
    · simp [e] at hp
  · intro p hp _ b; simp
  · intro p m _ hm; cases hm
  · intro p q a hp hq
    by_cases e : p = [] <;> by_cases e2 : q = [] <;> simp [e, e2] at hp hq ⊢
  · intro p q m _ _ hm; cases hm
  · intro p hp
    by_cases e : p = []
    · subst e; simp
    · simp [e] at hp
  · intro p i hp; simp [fnd] at hp
  · intro p q i hp; simp [fnd] at hp
/-- what is so after i words -/
structure Upto (ws : List ByteArray) (i : Nat) : Prop where
  err : errW (txs ws) 0 (txs ws) = errW (txs ws) i ((txs ws).drop i)
  one : ((txs ws).take i).Nodup
  size : ∀ x, x ∈ (txs ws).take i → x ≠ [] ∧ x.length ≤ 40
theorem Upto.start (ws : List ByteArray) : Upto ws 0 := ⟨by rw [List.drop_zero], by simp, by simp⟩
theorem Upto.next {ws : List ByteArray} {i : Nat} (h : Upto ws i) (hi : i < ws.length) (h1 : (ws.getD i ByteArray.empty).size ≠ 0) (h2 : (ws.getD i ByteArray.empty).size ≤ 40) (h3 : fnd ((txs ws).take i) (tx (ws.getD i ByteArray.empty)) = none) : Upto ws (i + 1) := by
  refine ⟨?_, ?_, ?_⟩
  · rw [h.err, txs_drop ws i hi]
    conv => lhs; unfold errW
    rw [if_neg (by rw [tx_nil]; exact h1), if_neg (by rw [tx_len]; omega), if_neg (by rw [h3]; simp)]
  · rw [txs_take ws i hi, List.nodup_append]
    refine ⟨h.one, by simp, fun a ha b hb => ?_⟩
    simp at hb
    subst hb
    intro e
    exact fnd_none.1 h3 (e ▸ ha)
  · intro x hx
    rw [txs_take ws i hi] at hx
    rcases List.mem_append.1 hx with hx | hx
    · exact h.size x hx
    · simp at hx
      subst hx
      exact ⟨by rw [Ne, tx_nil]; exact h1, by rw [tx_len]; exact h2⟩
theorem Upto.bad {ws : List ByteArray} {i : Nat} (h : Upto ws i) (hi : i < ws.length) (hm : ws.length ≤ 1000) : errNew ws = if (ws.getD i ByteArray.empty).size = 0 then 2 else if 40 < (ws.getD i ByteArray.empty).size then 3 else if fnd ((txs ws).take i) (tx (ws.getD i ByteArray.empty)) ≠ none then 70 else errW (txs ws) (i + 1) ((txs ws).drop (i + 1)) := by
  unfold errNew
  rw [if_neg (by omega), h.err, txs_drop ws i hi]
  conv => lhs; unfold errW
  simp only [tx_nil, tx_len]
theorem Upto.all {ws : List ByteArray} (h : Upto ws ws.length) (hm : ws.length ≤ 1000) : errNew ws = 0 ∧ Wds ws := by
  have e : (txs ws).take ws.length = txs ws := by rw [← txs_len]; exact List.take_length
  refine ⟨?_, hm, ?_, ?_⟩
  · unfold errNew
    rw [if_neg (by omega), h.err, List.drop_of_length_le (by rw [txs_len]; exact Nat.le_refl _)]
    rfl
  · rw [← e]; exact h.one
  · rw [← e]; exact h.size
theorem clone_any (A : Option Addr) (c base : Nat) (ws : List ByteArray) (w : World) (h : RdW w base A ws) (hm : ws.length ≤ 1000) :
    Calls Try.prog 22 #[.slice A ws.length c] w fun e w' => ∃ A' c', e = .returned (.slice A' ws.length c') ∧ RdW w' w.heap.size A' ws ∧ Below w.heap.size w w' := by
  rcases Nat.eq_zero_or_pos ws.length with h0 | h0
  · have hnil : ws = [] := List.eq_nil_of_length_eq_zero h0
    subst hnil
    cases A with
    | none =>
      refine (Try.slices_Clone_string_nil 0 c w).mono ?_
      rintro e w' ⟨rfl, rfl⟩
      exact ⟨_, _, rfl, fun h => by simp at h, Below.refl _ _⟩
    | some a =>
      refine (Try.slices_Clone_string_zero a c w).mono ?_
      rintro e w' ⟨v', rfl, h1, -, hb⟩
      rcases h1.2 with ⟨rfl, -⟩ | ⟨g, cap, cur, rfl, -⟩
      · exact ⟨_, _, rfl, fun h => by simp at h, hb⟩
      · exact ⟨_, _, rfl, fun h => by simp at h, hb⟩
  · obtain ⟨b, off, rfl, -, hlt, hc⟩ := h h0
    refine (Try.slices_Clone_string b off ws.length c ws w (Nat.le_refl _) (by omega) hc).mono ?_
    rintro e w' ⟨v', rfl, h1, hn, hb⟩
    rw [List.take_length] at h1
    rcases h1.2 with ⟨rfl, -⟩ | ⟨g, cap, cur, rfl, h4, h5, h6⟩
    · exact absurd rfl hn
    · refine ⟨_, _, rfl, fun _ => ⟨g, 0, rfl, h4, (Array.getElem?_eq_some_iff.1 h5).1, fun i hi => ?_⟩, hb⟩
      have := World.ownsRow.cells h1 (g := g) rfl i (.string (ws.getD i ByteArray.empty)) (by rw [List.getElem?_map, List.getElem?_eq_getElem hi, List.getD_eq_getElem?_getD, List.getElem?_eq_getElem hi]; rfl)
      rw [add_at] at this
      rw [Nat.zero_add]; exact this
theorem str_empty (s : ByteArray) : s.toList.isEmpty = decide (s.size = 0) := by
  rw [ByteArray.toList_eq, Bool.eq_iff_iff]
  simp
  exact ⟨fun h => ByteArray.ext h, fun h => by subst h; rfl⟩
set_option maxRecDepth 100000 in
set_option maxHeartbeats 4000000 in
theorem new_any (A : Option Addr) (c b0 : Nat) (ws : List ByteArray) (w : World) (h : RdW w b0 A ws) (hl : ws.length ≤ 1000000000) :
    Calls Try.prog 10 #[.slice A ws.length c] w (PostNew ws w) := by
  by_cases hm : 1000 < ws.length
  · have e5 : errNew ws = 5 := if_pos hm
    have i1 : decide ((1000 : Int) < (ws.length : Int)) = true := decide_eq_true (by omega)
    go_enter Try.func10, Try.ntmps10
    go_wp2
    go_ret2
    exact ⟨Below.refl _ _, .inr ⟨by rw [e5]; decide, by rw [e5]; rfl⟩⟩
  have hm' : ws.length ≤ 1000 := by omega
  have i1 : decide ((1000 : Int) < (ws.length : Int)) = false := decide_eq_false (by omega)
  have H := Lib.hid h
  obtain ⟨T0, hT0⟩ : ∃ T0, T0 = w.alloc (.cells #[.bool false, .int .i64 0, .map none] 57) := ⟨_, rfl⟩
  have TR := Lib.hid (Tri.root w)
  have TB := Lib.hid (show Below w.heap.size w (w.alloc (.cells #[.bool false, .int .i64 0, .map none] 57)) from (Below.refl _ w).alloc (Nat.le_refl _) _)
  clear h hm hT0 T0
  go_enter Try.func10, Try.ntmps10
  go_wp2
  go_loopw [14] (fun j wr => ∃ (i : Nat) (N M : Tx → Option Nat), j = .int .i64 (i : Int) ∧ i ≤ ws.length ∧ Hid (Tri wr w.heap.size w.heap.size (40 * i) N M (fnd ((txs ws).take i))) ∧ Hid (Upto ws i) ∧ Hid (Below w.heap.size w wr)) (fun j _ => ws.length - (intOf j).toNat)
  case atStart => exact ⟨0, _, _, rfl, Nat.zero_le _, TR, Lib.hid (Upto.start ws), TB⟩
  case round =>
    obtain ⟨i, N, M, rfl, hi, hT, hU, hB⟩ := hrel
    by_cases hlt : i < ws.length
    · obtain ⟨b, off, rfl, -, hbl, hc⟩ := H.out (by omega)
      have hci := (bcell hB.out b (off + i) hbl).trans (hc i hlt)
      have hbad := hU.out.bad hlt hm'
      have hnx := fun h1 h2 h3 => hU.out.next hlt h1 h2 h3
      have htk := txs_take ws i hlt
      generalize ws.getD i ByteArray.empty = s at hci hbad hnx htk
      have HBAD := Lib.hid hbad; have HNX := Lib.hid hnx; have HTK := Lib.hid htk
      clear hbad hnx hc htk
      by_cases h1 : s.size = 0
      · have e2 : errNew ws = 2 := by rw [HBAD.out, if_pos h1]
        have hs : s.toList.isEmpty = true := (str_empty s).trans (decide_eq_true h1)
        go_wp2
        go_ret2
        exact ⟨hB.out, .inr ⟨by rw [e2]; decide, by rw [e2]; rfl⟩⟩
      · have hs : s.toList.isEmpty = false := (str_empty s).trans (decide_eq_false h1)
        by_cases h2 : 40 < s.size
        · have e2 : errNew ws = 3 := by rw [HBAD.out, if_neg h1, if_pos h2]
          have i2 : decide ((40 : Int) < (s.size : Int)) = true := decide_eq_true (by omega)
          go_wp2
          go_ret2
          exact ⟨hB.out, .inr ⟨by rw [e2]; decide, by rw [e2]; rfl⟩⟩
        · have i2 : decide ((40 : Int) < (s.size : Int)) = false := decide_eq_false (by omega)
          have hadd := add_any hT.out s (by omega) i (by omega) (fun q hq => by have := fnd_lt hq; rw [List.length_take] at this; omega) (by omega) hB.out.size
          have HADD := Lib.hid hadd
          clear hadd
          cases hF : fnd ((txs ws).take i) (tx s) with
          | some v =>
            have HF := Lib.hid hF
            clear hF
            go_wp2_with (go_at_call 21; (with_reducible refine HADD.out.mono ?_); rintro e w1 ⟨N1, M1, hB1, -, hres⟩; have HB1 := Lib.hid hB1; obtain rfl : e = .returned (.bool false) := hres.elim (fun h => h.2) (fun h => by have := h.1; rw [HF.out] at this; cases this); clear hres hB1)
            go_ret2
            have e2 : errNew ws = 70 := by rw [HBAD.out, if_neg h1, if_neg h2, if_pos (by rw [HF.out]; simp)]
            exact ⟨hB.out.trans HB1.out, .inr ⟨by rw [e2]; decide, by rw [e2]; rfl⟩⟩
          | none =>
            have HF := Lib.hid hF
            clear hF
            go_wp2_with (go_at_call 21; (with_reducible refine HADD.out.mono ?_); rintro e w1 ⟨N1, M1, hB1, -, hres⟩; have HB1 := Lib.hid hB1; have hres2 := hres.elim (fun h => absurd HF.out h.1) (fun h => h.2); obtain ⟨rfl, hT1⟩ := hres2; have HT1 := Lib.hid hT1; clear hres hB1 hT1)
            have hT2 : Tri w1 w.heap.size w.heap.size (40 * (i + 1)) N1 M1 (fnd ((txs ws).take (i + 1))) := by
              have hT1 := HT1.out
              have e3 : (fun q => if q = tx s then some i else fnd ((txs ws).take i) q) = fnd ((txs ws).take (i + 1)) := by
                funext q
                rw [HTK.out, fnd_append _ _ _ HF.out, List.length_take, txs_len, Nat.min_eq_left (by omega)]
              rw [e3] at hT1
              exact hT1.mono (by rw [tx_len]; omega)
            have HT2 := Lib.hid hT2; have HU2 := Lib.hid (HNX.out h1 (by omega) HF.out)
            clear hT2
            go_roundw
            case rel => exact ⟨i + 1, N1, M1, by go_num, by omega, HT2, HU2, Lib.hid (hB.out.trans HB1.out)⟩
            case measure => simp [intOf]; omega
    · obtain rfl : i = ws.length := by omega
      obtain ⟨e0, hW⟩ := hU.out.all hm'
      have hT2 := hT.out
      rw [show (txs ws).take ws.length = txs ws by rw [← txs_len]; exact List.take_length] at hT2
      have HT2 := Lib.hid hT2
      have HC := Lib.hid (clone_any A c b0 ws wr (H.out.below (hB.out.mono (Nat.le_refl _))) hm')
      clear hT2
      go_wp2_with (go_at_call 22; (with_reducible refine HC.out.mono ?_); rintro e w1 ⟨A1, c1, rfl, hR1, hB1⟩; have HR1 := Lib.hid hR1; have HB1 := Lib.hid hB1; clear hR1 hB1)
      go_ret2
      have hbn : Below w1.heap.size w1 (w1.alloc (.cells #[.slice A1 ws.length c1, .pointer (some ⟨w.heap.size, 0, none⟩)] 61)) := (Below.refl _ w1).alloc (Nat.le_refl _) _
      have hb2 : Below w.heap.size w w1 := hB.out.trans (HB1.out.mono hB.out.size)
      refine ⟨hb2.trans (hbn.mono hb2.size), .inl ⟨e0, w1.heap.size, rfl, A1, c1, w.heap.size, _, N, M, hb2.size, heap_alloc_new w1 _, ?_, (HT2.out.below HB1.out).below hbn, hW⟩⟩
      intro h0
      obtain ⟨b, off, e, h1, h2, h3⟩ := HR1.out.below hbn h0
      exact ⟨b, off, e, Nat.le_trans hB.out.size h1, h2, h3⟩
end Go.Proofs.Ytioncjnjhmnlaaa
