/-
  The walk of nat.Read.
-/
import Derived.Test.YtgcfmkelanhdhaaDoorNatWith
namespace Go.Proofs.YtgcfmkelanhdhaaDoor
open Go.RowKit
set_option linter.unusedVariables false

theorem bounded_own (base : Nat) (v : Value) (l : List Int) (w : World) (ho : Own w base v l) (hd : Na.Dg l) :
    Calls Tryd.prog 38 #[v] w (PostSum (Na.V l) w) := by
  have key : ∀ (A : Option Addr) (cap : Nat), RdK .u32 w A l → l.length ≤ cap → cap ≤ maxLen → v = .slice A l.length cap → Calls Tryd.prog 38 #[v] w (PostSum (Na.V l) w) := by
    rintro A cap hr hl hm rfl
    refine (bounded_any A cap l w hr hl (by unfold maxLen at hm; omega)).mono ?_
    have hcan := Na.Can.mk' hd
    have hv := Na.V_trm l
    have hli : (Na.trm l).length ≤ 1024 ↔ Na.V l < Na.Bp 1024 := by rw [hcan.len_iff, hv]
    rintro e w' ⟨⟨h, rfl⟩ | ⟨h, rfl⟩, rfl⟩
    · exact .inl ⟨hli.1 h, A, cap, Na.trm l, rfl, ⟨rdk_trm hr, hcan, h, hv⟩, Below.refl _ _⟩
    · exact .inr ⟨fun k => by have := hli.2 k; omega, rfl, Below.refl _ _⟩
  rcases ho with ⟨rfl, rfl⟩ | ⟨g, s, rfl, hb, hg, hc⟩
  · exact key none 0 (RdK.nil _ _ _) (by simp) (by simp [maxLen]) rfl
  · exact key _ _ (hb.rd rfl) (by omega) hc rfl

def strOf : Value → Nat | .string s => s.size | _ => 0
/-- the state of reading: p bytes are read, l is what they are worth -/
structure RdS (w wr : World) (S T : List UInt8) (p : Nat) (v : Value) (l : List Int) : Prop where
  rest : T = S.drop p
  le : p ≤ S.length
  own : Own wr w.heap.size v l
  dg : Na.Dg l
  val : Na.V l = Na.dn (S.take p)
  nine : p = 0 ∨ (S.length - p) % 9 = 0
  len : 9 * l.length ≤ p + 8
  bel : Below w.heap.size w wr
theorem rds_next {w wr w1 : World} {S T : List UInt8} {p n : Nat} {v v1 : Value} {l l1 : List Int} (h : RdS w wr S T p v l) (hn : n = (T.length - 1) % 9 + 1) (hT : 0 < T.length)
    (ho : Own w1 w.heap.size v1 l1) (hd : Na.Dg l1) (hv : Na.V l1 = Na.V l * 1000000000 + (Na.dn (T.take n) : Int)) (hl : l1.length ≤ l.length + 1) (hb : Below w.heap.size wr w1) :
    RdS w w1 S (T.drop n) (p + n) v1 l1 := by
  have hlen : T.length = S.length - p := by rw [h.rest, List.length_drop]
  have hle := h.le
  have hnt : n ≤ T.length := by omega
  have htk : S.take (p + n) = S.take p ++ T.take n := by rw [List.take_add, h.rest]
  have htl : (T.take n).length = n := by rw [List.length_take]; omega
  refine ⟨by rw [h.rest, List.drop_drop], by omega, ho, hd, ?_, .inr (by omega), ?_, h.bel.trans hb⟩
  · rw [htk, Na.dn_append, htl, hv, h.val]
    rcases h.nine with h0 | h9
    · rw [h0]; simp [Na.dn]
    · have : n = 9 := by omega
      rw [this]; simp
  · have := h.len
    rcases h.nine with h0 | h9
    · have hz : l.length = 0 := by omega
      omega
    · omega

set_option maxRecDepth 100000 in
set_option maxHeartbeats 4000000 in
theorem read_yes (s : ByteArray) (w : World) (hs : s.size ≤ 9865) (hT : Na.isT s.data.toList = true) :
    Calls Tryd.prog 26 #[.string s] w (PostSum (Na.dn s.data.toList) w) := by
  have ht := isText_any s w (by omega)
  rw [hT] at ht
  have hdt := ((Na.isT_iff _).1 hT).1
  have hst : RdS w w s.data.toList s.data.toList 0 (.slice none 0 0) [] := ⟨by simp, by omega, .inl ⟨rfl, rfl⟩, Na.Dg.nil, by simp [Na.V, Na.dn], .inl rfl, by simp, Below.refl _ _⟩
  have HT := Lib.hid ht; have HDT := Lib.hid hdt; have HST := Lib.hid hst
  have hsz : s.data.toList.length = s.size := by simp
  have HSZ := Lib.hid hsz
  obtain ⟨S, hS⟩ : ∃ S, S = s.data.toList := ⟨_, rfl⟩
  rw [← hS] at HDT HSZ ⊢
  rw [← hS] at HST
  clear ht hdt hst hT hsz
  have HS := Lib.hid hS
  clear hS
  go_enter Tryd.func26, Tryd.ntmps26
  go_wp2_with (go_at_call 47; (with_reducible refine HT.out.mono ?_); rintro e w' ⟨rfl, rfl⟩)
  go_loopw [0, 4] (fun v0 v4 wr => ∃ (T : ByteArray) (p : Nat) (v : Value) (l : List Int), v0 = .string T ∧ v4 = v ∧ T.size ≤ s.size ∧ Hid (RdS w wr S T.data.toList p v l)) (fun v0 _ _ => strOf v0)
  case atStart => exact ⟨s, 0, _, [], rfl, rfl, Nat.le_refl _, Lib.hid (by rw [← HS.out]; exact HST.out)⟩
  case round =>
    obtain ⟨T, p, v, l, rfl, hv4, hTs, HR⟩ := hrel
    have hv5 := hv4.symm
    clear hv4
    subst hv5
    have hTl : T.data.toList.length = T.size := by simp
    by_cases h0 : T.size = 0
    · have hR := HR.out
      have hpl : p = S.length := by
        have := congrArg List.length hR.rest
        rw [List.length_drop, hTl] at this
        have := hR.le
        omega
      have hv := hR.val
      rw [hpl, List.take_length] at hv
      have hbd := bounded_own _ _ _ wr hR.own hR.dg
      rw [hv] at hbd
      have HBD := Lib.hid hbd; have HB := Lib.hid hR.bel
      clear hR hpl hv hbd hTl HR
      by_cases hf : (Na.dn S : Int) < Na.Bp 1024
      · have hbd : Calls Tryd.prog 38 #[v] wr (PostNumE (Na.dn S) wr) := HBD.out.mono (fun e w' h => by
          rcases h with ⟨-, h⟩ | ⟨h, -⟩
          · exact h
          · exact absurd hf h)
        have HBD2 := Lib.hid hbd; have HF := Lib.hid hf
        clear hbd hf
        go_wp2_with (go_at_call 38; (with_reducible refine HBD2.out.mono ?_); rintro e w3 ⟨A3, c3, l3, rfl, h1, h2⟩; have H1 := Lib.hid h1; have H2 := Lib.hid h2; clear h1 h2)
        go_ret2
        exact .inl ⟨HF.out, _, _, l3, rfl, H1.out, HB.out.trans (H2.out.mono HB.out.size)⟩
      · have hbd : Calls Tryd.prog 38 #[v] wr (PostErr 3 wr) := HBD.out.mono (fun e w' h => by
          rcases h with ⟨h, -⟩ | ⟨-, h⟩
          · exact absurd h hf
          · exact h)
        have HBD2 := Lib.hid hbd; have HF := Lib.hid hf
        clear hbd hf
        go_wp2_with (go_at_call 38; (with_reducible refine HBD2.out.mono ?_); rintro e w3 ⟨rfl, h2⟩; have H2 := Lib.hid h2; clear h2)
        go_ret2
        exact .inr ⟨by have := HF.out; omega, rfl, HB.out.trans (H2.out.mono HB.out.size)⟩
    · obtain ⟨m, hm⟩ : ∃ m, (T.size - 1) % 9 = m := ⟨_, rfl⟩
      have e1 : ((T.size : Int) - 1).tmod 9 = (m : Int) := by rw [Int.tmod_eq_emod_of_nonneg (by omega)]; omega
      have hmT : m + 1 ≤ T.size := by omega
      have hm9 : m + 1 ≤ 9 := by omega
      have hext : (T.extract 0 (m + 1)).data.toList = T.data.toList.take (m + 1) := by rw [Lib.extract_data]; simp
      have hext2 : (T.extract (m + 1) T.size).data.toList = T.data.toList.drop (m + 1) := by rw [Lib.extract_data]; exact List.take_of_length_le (by rw [List.length_drop, hTl]; omega)
      have hR := HR.out
      have hdS : Na.DgT T.data.toList := by rw [hR.rest]; exact HDT.out.drop p
      have hgo := groupOf_any (T.extract 0 (m + 1)) wr (by rw [ByteArray.size_extract]; omega) (by rw [hext]; exact hdS.take _)
      rw [hext] at hgo
      have hG := Na.dn_lt (hdS.take (m + 1))
      rw [List.length_take, hTl, show min (m + 1) T.size = m + 1 by omega] at hG
      have hp9 : 10 ^ (m + 1) ≤ 10 ^ 9 := Nat.pow_le_pow_right (by omega) hm9
      have hp9' : (10 : Nat) ^ 9 = 1000000000 := rfl
      have hnext := fun w1 v1 l1 h1 h2 h3 h4 h5 => rds_next (w1 := w1) (v1 := v1) (l1 := l1) (n := m + 1) hR (by rw [hTl]; omega) (by rw [hTl]; omega) h1 h2 h3 h4 h5
      generalize Na.dn (T.data.toList.take (m + 1)) = G at *
      have hwi := with_any w.heap.size v l G wr hR.own hR.dg (by have := hR.len; have := hR.le; have := HSZ.out; omega) (by omega) (by omega) hR.bel.size
      have HGO := Lib.hid hgo; have HWI := Lib.hid hwi; have HNX := Lib.hid hnext; have HE2 := Lib.hid hext2
      have j1 : (0 : Int) < (T.size : Int) := by omega
      have j2 : (m : Int) + 1 ≤ (T.size : Int) := by omega
      have j3 : (T.size : Int) ≤ 9865 := by omega
      clear hgo hwi hnext hext hext2 hR hdS hG hp9 hp9' hTl hm h0 HR
      go_wp2_with (first
        | (go_at_call 49; (with_reducible refine HGO.out.mono ?_); rintro e w' ⟨rfl, rfl⟩)
        | (go_at_call 48; (with_reducible refine HWI.out.mono ?_); rintro e w3 ⟨v1, l1, rfl, h1, h2, h3, h4, h5⟩; have HX := Lib.hid (HNX.out w3 v1 l1 h1 h2 h3 h4 h5); clear h1 h2 h3 h4 h5))
      exact ⟨⟨T.extract (m + 1) T.size, p + (m + 1), v1, l1, rfl, rfl, by rw [ByteArray.size_extract]; omega, Lib.hid (by rw [HE2.out]; exact HX.out)⟩, by simp [strOf, ByteArray.size_extract]; omega⟩

end Go.Proofs.YtgcfmkelanhdhaaDoor
