/-
  The words one by one: Word, the law's map of words, the numbers of a beginning.
-/
import Derived.Test.YtioncjnjhmnlaaaLexLaw2
import Derived.Maps.OwnSet
namespace Go.Proofs.Ytioncjnjhmnlaaa
open Go.RowKit Lx
open Go.Maps (Keyed string_keyed)
set_option linter.unusedVariables false
set_option linter.unusedSimpArgs false

/-- the first i words are right -/
def Good (ws : List ByteArray) (i : Nat) : Prop := ((txs ws).take i).Nodup ∧ ∀ x, x ∈ (txs ws).take i → x ≠ [] ∧ x.length ≤ 40
instance (ws : List ByteArray) (i : Nat) : Decidable (Good ws i) := by unfold Good; infer_instance
theorem Good.zero (ws : List ByteArray) : Good ws 0 := ⟨by simp, by simp⟩
theorem Good.less {ws : List ByteArray} {i : Nat} (h : Good ws (i + 1)) (hi : i < ws.length) : Good ws i := by
  unfold Good at *
  rw [txs_take ws i hi] at h
  exact ⟨(List.nodup_append.1 h.1).1, fun x hx => h.2 x (List.mem_append_left _ hx)⟩
theorem Good.succ {ws : List ByteArray} {i : Nat} (hi : i < ws.length) : Good ws (i + 1) ↔ Good ws i ∧ (ws.getD i ByteArray.empty).size ≠ 0 ∧ (ws.getD i ByteArray.empty).size ≤ 40 ∧ tx (ws.getD i ByteArray.empty) ∉ (txs ws).take i := by
  unfold Good
  rw [txs_take ws i hi]
  constructor
  · rintro ⟨h1, h2⟩
    obtain ⟨a1, -, a3⟩ := List.nodup_append.1 h1
    have h3 := h2 (tx (ws.getD i ByteArray.empty)) (List.mem_append_right _ (List.mem_singleton_self _))
    rw [Ne, tx_nil, tx_len] at h3
    exact ⟨⟨a1, fun x hx => h2 x (List.mem_append_left _ hx)⟩, h3.1, h3.2, fun hm => a3 _ hm _ (List.mem_singleton_self _) rfl⟩
  · rintro ⟨⟨h1, h2⟩, h3, h4, h5⟩
    refine ⟨List.nodup_append.2 ⟨h1, by simp, fun a ha b hb e => ?_⟩, fun x hx => ?_⟩
    · simp at hb
      subst hb
      exact h5 (e ▸ ha)
    · rcases List.mem_append.1 hx with hx | hx
      · exact h2 x hx
      · simp at hx
        subst hx
        exact ⟨by rw [Ne, tx_nil]; exact h3, by rw [tx_len]; exact h4⟩
theorem good_upto {ws : List ByteArray} : ∀ i, i ≤ ws.length → Good ws i → Upto ws i
  | 0, _, _ => Upto.start ws
  | i + 1, hi, h => by
    have h2 := (Good.succ (show i < ws.length by omega)).1 h
    exact (good_upto i (by omega) h2.1).next (by omega) h2.2.1 h2.2.2.1 (fnd_none.2 h2.2.2.2)
theorem upto_all {ws : List ByteArray} (hm : ws.length ≤ 1000) (h0 : errNew ws = 0) : ∀ i, i ≤ ws.length → Upto ws i
  | 0, _ => Upto.start ws
  | i + 1, hi => by
    have h := upto_all hm h0 i (by omega)
    have hb := h.bad (show i < ws.length by omega) hm
    rw [h0] at hb
    by_cases h1 : (ws.getD i ByteArray.empty).size = 0
    · rw [if_pos h1] at hb; cases hb
    · rw [if_neg h1] at hb
      by_cases h2 : 40 < (ws.getD i ByteArray.empty).size
      · rw [if_pos h2] at hb; cases hb
      · rw [if_neg h2] at hb
        by_cases h3 : fnd ((txs ws).take i) (tx (ws.getD i ByteArray.empty)) ≠ none
        · rw [if_pos h3] at hb; cases hb
        · exact h.next (by omega) h1 (by omega) (Classical.not_not.1 h3)
theorem good_err {ws : List ByteArray} (hm : ws.length ≤ 1000) : Good ws ws.length ↔ errNew ws = 0 := by
  constructor
  · intro h
    exact ((good_upto ws.length (Nat.le_refl _) h).all hm).1
  · intro h
    have h2 := upto_all hm h ws.length (Nat.le_refl _)
    exact ⟨h2.one, h2.size⟩
/-- the numbers of the words up to i that begin with p -/
def preU (ws : List ByteArray) (p : Tx) (i : Nat) : List Nat := (List.range i).filter fun j => p.isPrefixOf ((txs ws).getD j [])
theorem preU_all (ws : List ByteArray) (p : Tx) : preU ws p ws.length = pre (txs ws) p := by unfold preU pre; rw [txs_len]
theorem txs_getD (ws : List ByteArray) (i : Nat) (h : i < ws.length) : (txs ws).getD i [] = tx (ws.getD i ByteArray.empty) := by
  rw [List.getD_eq_getElem?_getD, txs_at ws i h]; rfl
theorem preU_succ (ws : List ByteArray) (p : Tx) (i : Nat) (h : i < ws.length) : preU ws p (i + 1) = preU ws p i ++ if p.isPrefixOf (tx (ws.getD i ByteArray.empty)) then [i] else [] := by
  unfold preU
  rw [List.range_succ, List.filter_append]
  congr 1
  rw [List.filter_cons, txs_getD ws i h]
  rfl
theorem preU_len (ws : List ByteArray) (p : Tx) (i : Nat) : (preU ws p i).length ≤ i := by
  unfold preU
  have := List.length_filter_le (fun j => p.isPrefixOf ((txs ws).getD j [])) (List.range i)
  rwa [List.length_range] at this
theorem pre_nil (ws : List ByteArray) : (pre (txs ws) []).length = ws.length := by
  unfold pre
  have e : (List.range (txs ws).length).filter (fun i => ([] : Tx).isPrefixOf ((txs ws).getD i [])) = List.range (txs ws).length := List.filter_eq_self.2 (fun _ _ => by simp [List.isPrefixOf])
  rw [e, List.length_range, txs_len]
theorem field_words (A : Option Addr) (n c root : Nat) (W : World) : (Instr.field 61 (.agg #[.slice A n c, .pointer (some ⟨root, 0, none⟩)]) 0).run Try.prog W = .ok (.slice A n c) W := by
  simp [Instr.field, run_underlying Try.underlying61, part, go_sem, isAgg, sizeOf, typeInfo, asAgg]
set_option maxRecDepth 100000 in
set_option maxHeartbeats 2000000 in
theorem word_any (base x : Nat) (ws : List ByteArray) (i : Nat) (hi : i < ws.length) (w : World) (h : LexO w base x ws) :
    Calls Try.prog 16 #[.pointer (some ⟨x, 0, none⟩), .int .i64 (i : Int)] w fun e w' => e = .returned (.tuple #[.string (ws.getD i ByteArray.empty), .bool true]) ∧ Below w.heap.size w w' := by
  obtain ⟨A, c, root, cap, N, M, h1, h2, h3, h4, h5⟩ := h
  have P := Lib.hid (parts_any x root _ c A w h2)
  obtain ⟨b, off, rfl, -, hbl, hc⟩ := h3 (by omega)
  have hci := hc i hi
  generalize ws.getD i ByteArray.empty = s at hci ⊢
  have hm := h5.many
  have i1 : decide ((i : Int) < 0) = false := decide_eq_false (by omega)
  have i2 : decide ((ws.length : Int) ≤ (i : Int)) = false := decide_eq_false (by omega)
  have i3 : (i : Int) < (ws.length : Int) := by omega
  have i4 : (0 : Int) ≤ (i : Int) := by omega
  have HCI := Lib.hid hci
  clear h1 h2 h3 h4 h5 hc hci
  go_enter Try.func16, Try.ntmps16
  go_wp2_with (go_at_call 23; (with_reducible refine P.out.mono ?_); rintro e w1 ⟨rfl, hb1⟩; have B1 := Lib.hid hb1; have fr := field_words (some ⟨b, off, none⟩) ws.length c root w1; have hc1 := cell_keep HCI.out hb1; clear hb1)
  go_ret2
  exact ⟨rfl, B1.out⟩
/-- the law's map: the keys are the words so far -/
def KeysOf (D : DataW Unit) (l : List Tx) : Prop := ∀ x : Tx, Maps.has D (.string x) = decide (x ∈ l)
theorem lawS : Keyed Try.prog 9 := string_keyed Try.underlying9
theorem zeroInt (w : World) : (zeroValue 3).run Try.prog w = .ok (.int .i64 0) w := by kernel_rfl
end Go.Proofs.Ytioncjnjhmnlaaa
