/-
  What the library's iterator over the parts of a text tells.
-/
import Derived.Test.YtcponhdeffnndaaGreatDoorTokSeq
namespace Go.Proofs.YtcponhdeffnndaaGreatDoor
open Go.RowKit Go.Shelf
set_option linter.unusedVariables false
set_option linter.unusedSimpArgs false
attribute [local go_sem] Oper.semAt_some

def encS (x : List UInt8) : Array Value := #[.string ⟨x.toArray⟩]
theorem ext_cut (s : ByteArray) (i n : Nat) (h : s.size ≤ n) : s.extract 0 i = ⟨(s.data.toList.take i).toArray⟩ ∧ s.extract (i + 1) n = ⟨(s.data.toList.drop (i + 1)).toArray⟩ := by
  constructor
  · apply ByteArray.ext
    apply Array.ext'
    simp [ByteArray.data_extract, List.extract_eq_take_drop]
  · apply ByteArray.ext
    apply Array.ext'
    simp only [ByteArray.data_extract, Array.toList_extract, List.extract_eq_take_drop]
    rw [List.take_of_length_le]
    simp; omega
/-- how long the rest is -/
def restN (B : Nat) (w : World) : Nat := match w.cell? ⟨B, 0, none⟩ with | some (.string s) => s.size | _ => 0
theorem restN_at {B : Nat} {rest : List UInt8} {w : World} (h : CapS B rest w) : restN B w = rest.length := by
  unfold restN
  rw [(box1 h.tx).1]
  show Array.size _ = _
  simp
set_option maxRecDepth 100000 in
set_option maxHeartbeats 2000000 in
theorem split_told (s : List UInt8) (B : Nat) (w0 : World) (hcap : CapS B s w0) (hs : s.length ≤ 100000000) :
    TolC Tryz.prog 158 #[.pointer (some ⟨B + 1, 0, none⟩), .pointer (some ⟨B, 0, none⟩), .pointer (some ⟨B + 2, 0, none⟩)] encS
      (fun _ x _ => x.length ≤ 100000000) (KB B (B + 3)) (Chg B (B + 1)) (fun xs => xs = Tk.parts s) (fun pre => ∃ r, Tk.parts s = pre ++ r) w0 := by
  intro l J Jx W hW hJ hJx hY h0
  have HC := Lib.hid (hcap.kb (KB.below hW))
  have HY := Lib.hid hY; have HJ := Lib.hid hJ; have H0 := Lib.hid h0
  have c1 := (box1 HC.out.sep).1
  clear hY hJ hJx h0 hW hcap
  refine (callsIn_wide (n := 5)).1 ?_
  refine callsIn_of_wp Tryz.func158 rfl trivial ?_ rfl
  simp only [Tryz.ntmps158, List.size_toArray, List.length_cons, List.length_nil, Nat.reduceAdd, Nat.reduceSub, Array.replicate_succ, Array.replicate_zero, List.push_toArray, List.append_toArray, List.nil_append, List.cons_append]
  gi_wp2
  gi_loopw [7, 8] (fun _ _ wr => ∃ pre rest, Tk.parts s = pre ++ Tk.parts rest ∧ rest.length ≤ 100000000 ∧ Hid (CapS B rest wr) ∧ Hid (J pre wr)) (fun _ _ wr => restN B wr)
  case atStart => exact ⟨[], s, rfl, hs, HC, H0⟩
  case round =>
    obtain ⟨pre, rest, hp, hl, HCr, HJr⟩ := hrel
    have hm := restN_at HCr.out
    have d1 := (box1 HCr.out.tx).1; have d2 := (box1 HCr.out.sep).1; have d3 := (box1 HCr.out.sv).1
    have f1 := (box1 HCr.out.tx).2
    have HP := Lib.hid hp; have HM := Lib.hid hm
    unfold strV at d1
    obtain ⟨RB, hRB⟩ : ∃ RB : ByteArray, RB = ⟨rest.toArray⟩ := ⟨_, rfl⟩
    have hsz : RB.size = rest.length := by rw [hRB]; show Array.size _ = _; simp
    have hdt : RB.data.toList = rest := by rw [hRB]
    rw [← hRB] at d1
    have hq := fun V => Tryz.strings_Index_one RB 10 V
    rw [hdt] at hq
    have hge := Lib.indexByte_ge rest 10
    have HDT := Lib.hid hdt; have HRB := Lib.hid hRB; have HSZ := Lib.hid hsz
    obtain ⟨z, hz⟩ : ∃ z, Lib.indexByte rest 10 = z := ⟨_, rfl⟩
    rw [hz] at hq hge
    clear hp hm hdt hRB
    rcases (show z = -1 ∨ ∃ i : Nat, z = i by
      rcases Int.lt_or_le z 0 with h | h
      · exact .inl (by omega)
      · exact .inr ⟨z.toNat, by omega⟩) with rfl | ⟨i, rfl⟩
    · have HPR := Lib.hid (ten_none hz)
      have HQ := Lib.hid hq
      obtain ⟨fn, tmps, assign, body, hy, hR⟩ := HY.out pre rest wr HJr.out hl
      have HR := Lib.hid hR
      unfold encS at hy
      rw [← HRB.out] at hy
      clear hq hR hz hge hsz
      gi_wp2_with (refine ⟨trivial, ?_⟩; gi_at_call 62; (with_reducible refine (callsIn_wide.2 (HQ.out _)).mono ?_); rintro e w2 ⟨rfl, rfl⟩)
      refine (roundIn_any HR.out).mono ?_
      rintro e W3 (⟨rfl, hJ3, hk3⟩ | ⟨rfl, hJx3⟩)
      · have HJ3 := Lib.hid hJ3
        clear hJ3 hk3
        gi_wp2
        go_end0
        exact ⟨⟨_, rfl⟩, .inl ⟨_, by rw [HP.out, HPR.out], HJ3.out⟩⟩
      · have HJ3 := Lib.hid hJx3
        clear hJx3
        gi_wp2
        go_end0
        exact ⟨⟨_, rfl⟩, .inr ⟨_, ⟨[], by rw [HP.out, HPR.out]; simp⟩, HJ3.out⟩⟩
    · obtain ⟨hi, hparts⟩ := ten_some hz
      have HPR := Lib.hid hparts
      have HQ := Lib.hid hq
      have hi1 : (i : Int) ≤ RB.size := by omega
      have hi2 : (i : Int) + 1 ≤ RB.size := by omega
      obtain ⟨E1, E2⟩ := ext_cut RB i RB.size (Nat.le_refl _)
      rw [HDT.out] at E1 E2
      have HE1 := Lib.hid E1; have HE2 := Lib.hid E2
      obtain ⟨fn, tmps, assign, body, hy, hR⟩ := HY.out pre (rest.take i) wr HJr.out (by rw [List.length_take]; omega)
      have HR := Lib.hid hR
      unfold encS at hy
      rw [← E1] at hy
      clear hq hR hz hge hparts E1 E2 hsz
      gi_wp2_with (refine ⟨trivial, ?_⟩; gi_at_call 62; (with_reducible refine (callsIn_wide.2 (HQ.out _)).mono ?_); rintro e w2 ⟨rfl, rfl⟩)
      refine (roundIn_any HR.out).mono ?_
      rintro e W3 (⟨rfl, hJ3, hk3⟩ | ⟨rfl, hJx3⟩)
      · have hc3 := HCr.out.kb hk3
        have HC3 := Lib.hid hc3
        have g1 := (box1 hc3.tx).1; have g2 := (box1 hc3.sep).1; have g3 := (box1 hc3.sv).1
        have g4 := (box1 hc3.tx).2
        unfold strV at g1
        rw [← HRB.out] at g1
        have HJ3 := Lib.hid hJ3
        clear hJ3 hk3 hc3 d1 d2 d3 f1 hy
        gi_wp2
        go_roundw
        case rel =>
          refine ⟨pre ++ [rest.take i], rest.drop (i + 1), by rw [HP.out, HPR.out]; simp, by rw [List.length_drop]; omega, ?_, ?_⟩
          · rw [HE2.out]; exact Lib.hid HC3.out.set
          · exact Lib.hid (HJ.out _ _ _ HJ3.out (chg_set (Nat.le_refl _) (Nat.lt_succ_self _)))
        case measure =>
          have hm2 := restN_at (HC3.out.set (rest2 := rest.drop (i + 1)))
          unfold strV at hm2
          rw [HE2.out, hm2, HM.out, List.length_drop]
          omega
      · have HJ3 := Lib.hid hJx3
        clear hJx3
        gi_wp2
        refine bodyPost_ret (results_none rfl _ _ _) rfl ?_
        exact ⟨⟨_, rfl⟩, .inr ⟨_, ⟨Tk.parts (rest.drop (i + 1)), by rw [HP.out, HPR.out]; simp⟩, HJ3.out⟩⟩
end Go.Proofs.YtcponhdeffnndaaGreatDoor
