/-
  The walk of nat.Text.
-/
import Derived.Test.YtgcfmkelanhdhaaDoorNatDigs
import Derived.Laws.IdiomStrings
namespace Go.Proofs.YtgcfmkelanhdhaaDoor
open Go.RowKit
set_option linter.unusedVariables false

/-- f: how many places are free; r: what is left; ds: the digits that are written -/
structure TxS (w wr : World) (gr gd C z f : Nat) (r : List Int) (s : List Value) (ds : List UInt8) : Prop where
  br : Blk wr gr [] r s
  cap : r.length + s.length = C
  can : Na.Can r
  len : r.length ≤ 1024
  bd : BB wr gd (List.replicate f 0 ++ ds)
  fl : f + ds.length = 9873
  nine : ∃ j, ds.length = 9 * j
  dgt : Na.DgT ds
  val : z = (Na.V r).toNat * 10 ^ ds.length + Na.dn ds
  bel : Below w.heap.size w wr
/-- within the nine digits of a group -/
structure TxI (w4 wr : World) (gd z f v G : Nat) (ds : List UInt8) (t : Nat) : Prop where
  bd : BB wr gd (List.replicate f 0 ++ ds)
  fl : f + ds.length = 9873
  dgt : Na.DgT ds
  g1 : G < 10 ^ (9 - t)
  val : z = (v * 10 ^ (9 - t) + G) * 10 ^ ds.length + Na.dn ds
  frm : w4.grownBy wr (some gd)
theorem TxI.step {w4 wr : World} {gd z f v G : Nat} {ds : List UInt8} {t : Nat} (h : TxI w4 wr gd z (f + 1) v G ds t) (ht : t < 9) :
    TxI w4 (wr.setCell ⟨gd, f, none⟩ (.int .u8 (Na.dig (G % 10)).toNat)) gd z f v (G / 10) (Na.dig (G % 10) :: ds) (t + 1) := by
  have hg : G % 10 < 10 := by omega
  refine ⟨?_, by have := h.fl; simp; omega, Na.DgT.cons.2 ⟨(Na.DgT.cons.1 (Na.dig_DgT hg)).1, h.dgt⟩, ?_, ?_, grown_then h.frm (grown_set _ _ _) (fun k hk => by cases hk; exact .inr rfl)⟩
  · have := h.bd.set f (Na.dig (G % 10))
    rwa [set_front] at this
  · have := h.g1
    rw [show 9 - t = 9 - (t + 1) + 1 by omega, Nat.pow_succ] at this
    omega
  · rw [Na.dn, Na.dig_d1 hg, List.length_cons]
    exact dig_step h.val ht
theorem dig_int {G : Nat} : (48 : Int) + ((G % 10 : Nat) : Int) = ((Na.dig (G % 10)).toNat : Int) := by
  rw [Na.dig_nat (by omega)]; omega

set_option maxRecDepth 100000 in
set_option maxHeartbeats 4000000 in
theorem text_yes (A : Option Addr) (ca : Nat) (l : List Int) (x : Int) (w : World) (hr : Num w A l x) (hx : 0 < x) :
    Calls Tryd.prog 25 #[.slice A l.length ca] w fun e w' => e = .returned (.tuple #[.string ⟨(Lib.decDigits x.toNat).toArray⟩, .int .i64 0]) ∧ Below w.heap.size w w' := by
  have hl1 := hr.len
  have hq := right_any A ca l w hr.rd (by omega)
  rw [hr.rgt] at hq
  have HQ := Lib.hid hq
  have hl0 : l ≠ [] := by
    intro h
    have hv := hr.val
    rw [h] at hv
    simp [Na.V] at hv
    omega
  have hne : ((l.length : Int) == 0) = false := by
    rw [beq_eq_false_iff_ne]
    intro h
    exact hl0 (List.eq_nil_of_length_eq_zero (by omega))
  have b0 := (Below.refl w.heap.size w).alloc (Nat.le_refl _) (.cells Tryd.zeroCells69 69)
  have hcl := clone_any A ca l (w.alloc (.cells Tryd.zeroCells69 69)) (hr.rd.below b0) (by omega)
  have hbb : BB (w.alloc (.cells Tryd.zeroCells69 69)) w.heap.size (List.replicate 9873 0) := by
    unfold BB
    rw [heap_alloc_new, zero_digits]
  have HCL := Lib.hid hcl; have HBB := Lib.hid hbb; have B0 := Lib.hid b0; have HL0 := Lib.hid hl0; have Hr := Lib.hid hr
  clear hq hr hcl hbb b0 hl0
  go_enter Tryd.func25, Tryd.ntmps25
  go_wp2_with (first
    | (go_at_call 18; (with_reducible refine HQ.out.mono ?_); rintro e w' ⟨rfl, rfl⟩)
    | (go_at_call 41; (with_reducible refine HCL.out.mono ?_); rintro e w1 ⟨vv, rfl, h1, hb⟩; have HC := Lib.hid h1; have HB := Lib.hid hb; clear h1 hb))
  rcases HC.out with ⟨h, -⟩ | ⟨gr, s, rfl, hblk, hgr, hcap⟩
  · exact absurd h HL0.out
  obtain ⟨gd, hgd⟩ : ∃ gd, w.heap.size = gd := ⟨_, rfl⟩
  have hlt := HBB.out.lt
  have hst : TxS w w1 gr gd (l.length + s.length) x.toNat 9873 l s [] := by
    refine ⟨hblk, rfl, Hr.out.can, hl1, ?_, by simp, ⟨0, rfl⟩, Na.DgT.nil, by simp [Na.dn, Hr.out.val], B0.out.trans (HB.out.mono B0.out.size)⟩
    rw [List.append_nil, ← hgd]
    exact (HB.out.block _ hlt).trans HBB.out
  have hgg : gr ≠ gd := by simp at hgr; omega
  have hgw : w.heap.size ≤ gr := by simp at hgr; omega
  have hz : x.toNat < tenTop := by
    have h1 := Na.V_lt Hr.out.can.dg
    rw [Hr.out.val] at h1
    have h2 := Na.Bp_le hl1
    have h3 := bp_top
    omega
  have hz0 : 0 < x.toNat := by omega
  obtain ⟨z, hzz⟩ : ∃ z, x.toNat = z := ⟨_, rfl⟩
  rw [hzz] at hst hz hz0
  obtain ⟨C, hC⟩ : ∃ C, l.length + s.length = C := ⟨_, rfl⟩
  rw [hC] at hst ⊢
  have hCm : C ≤ maxLen := by omega
  have HST := Lib.hid hst; have HZ := Lib.hid hz; have HZZ := Lib.hid hzz; have HCM := Lib.hid hCm
  rw [hgd]
  clear HC HCL HBB HL0 B0 HB hblk hcap hst hz hne hC hCm hlt
  go_loopw [5, 6] (fun v5 v6 wr => ∃ (f : Nat) (r : List Int) (s : List Value) (ds : List UInt8), v5 = .int .i64 f ∧ v6 = .slice (some ⟨gr, 0, none⟩) r.length C ∧ f ≤ 9873 ∧ Hid (TxS w wr gr gd C z f r s ds)) (fun v5 _ _ => (intOf v5).toNat)
  case atStart => exact ⟨9873, l, s, [], rfl, rfl, Nat.le_refl _, HST⟩
  case round =>
    obtain ⟨f, r, s2, ds, rfl, rfl, hf, HS⟩ := hrel
    by_cases h0 : r = []
    · subst h0
      have hS := HS.out
      have hv := hS.val
      rw [show (Na.V []).toNat = 0 from rfl, Nat.zero_mul, Nat.zero_add] at hv
      have hfl := hS.fl
      have hl9 : ds.length = 9873 - f := by omega
      have hcv := run_convert_bytes_back (P := Tryd.prog) wr 72 9 5 ⟨gd, f, none⟩ (9873 - f) ds Tryd.underlying72 Tryd.underlying5 Tryd.underlying9 (fun i hi => by
        have ea : (⟨gd, f, none⟩ : Addr).add i = ⟨gd, f + i, none⟩ := by unfold Addr.add; split <;> simp [*]
        rw [ea, hS.bd.cell (f + i) (by simp; omega)]
        congr 3
        rw [List.getD_eq_getElem?_getD, List.getElem?_append_right (by simp)]
        simp [hi])
      rw [hl9] at hcv
      have htl := Tryd.strings_TrimLeft_one ⟨ds.toArray⟩ 48 (by decide) wr
      have htd := (Na.trim_dec hS.dgt).2 (by omega)
      have e1 : Lib.trimLeftB (ByteArray.mk ds.toArray).data.toList 48 = Lib.decDigits z := by
        rw [hv]
        exact htd
      rw [e1] at htl
      replace htl := htl.mono (fun e w' h => (show e = _ ∧ wr = w' from ⟨h.1, h.2.symm⟩))
      have HTL := Lib.hid htl; have HB := Lib.hid hS.bel
      have hf2 : f < 9873 := by
        rcases Nat.eq_zero_or_pos ds.length with c | c
        · have : ds = [] := List.eq_nil_of_length_eq_zero c
          rw [this] at hv
          simp [Na.dn] at hv
          omega
        · omega
      have hsl := slice_digits wr gd f hf2
      clear htl htd hv hl9 hfl hS e1
      go_wp2_with (go_at_call 46; (with_reducible refine HTL.out.mono ?_); rintro e w5 ⟨rfl, rfl⟩)
      go_ret2
      exact ⟨ret_si (by rw [HZZ.out]) rfl, HB.out⟩
    · have hS := HS.out
      have hpos := hS.can.pos h0
      have hlen := hS.len
      obtain ⟨j, hj⟩ := hS.nine
      have hroom := room_of HZ.out hS.val (by omega) hj
      have hfl := hS.fl
      have hf9 : 9 ≤ f := by omega
      have hr0 : (0 : Int) < (r.length : Int) := by have := List.length_pos_iff.2 h0; omega
      have htg := takeGroup_any gr C s2 r wr hS.br hS.can.dg (by omega)
      have HTG := Lib.hid htg
      clear htg hpos hj hroom h0
      go_wp2_with (go_at_call 45; (with_reducible refine HTG.out.mono ?_); rintro e w4 ⟨q, G, rfl, k1, k2, k3, k4, k5, k6, k7⟩; have HK := Lib.hid (And.intro k1 (And.intro k2 (And.intro k3 (And.intro k6 k7)))); clear k1 k2 k3 k6 k7)
      obtain ⟨Gn, rfl⟩ : ∃ Gn : Nat, G = Gn := ⟨G.toNat, by omega⟩
      have hin : TxI w4 w4 gd z f (Na.V q).toNat Gn ds 0 := by
        obtain ⟨k1, k2, k3, k6, k7⟩ := HK.out
        have hq0 := Na.V_nonneg k3
        refine ⟨hS.bd.kept k7 (by simpa using Ne.symm hgg), hfl, hS.dgt, by omega, ?_, grown_refl _ _⟩
        have e : (Na.V r).toNat = (Na.V q).toNat * 10 ^ (9 - 0) + Gn := by omega
        rw [← e]; exact hS.val
      have HIN := Lib.hid hin
      clear hin hS
      go_wp2_with fail
      go_loopw [5, 7, 23] (fun v5 v7 v23 wi => ∃ (t f' G' : Nat) (ds' : List UInt8), t ≤ 9 ∧ v5 = .int .i64 f' ∧ v7 = .int .u32 G' ∧ v23 = .int .i64 t ∧ f' + t = f ∧ G' < 1000000000 ∧ Hid (TxI w4 wi gd z f' (Na.V q).toNat G' ds' t)) (fun _ _ v23 _ => 9 - (intOf v23).toNat)
      case atStart => exact ⟨0, f, Gn, ds, by omega, rfl, rfl, rfl, rfl, by omega, HIN⟩
      case round =>
        obtain ⟨t, f', G', ds', ht, rfl, rfl, rfl, hft, hG, HI⟩ := hrel
        by_cases h9 : t = 9
        · subst h9
          obtain ⟨k1, k2, k3, k6, k7⟩ := HK.out
          have hI := HI.out
          have hg1 := hI.g1
          have hG0 : G' = 0 := by simp at hg1; omega
          have hbr := (k1.kept hI.frm (by simpa using hgg))
          have hsp := Na.trm_take q
          have hlt2 := Na.trm_len q
          have hbt : Blk wr gr [] (Na.trm q) ((q.drop (Na.trm q).length).map (Value.int .u32) ++ s2) := by
            refine Blk.fore.1 ?_
            rw [Na.trm_take q, List.length_take, show min (Na.trm q).length q.length = (Na.trm q).length by omega, List.take_append_drop]
            exact hbr
          have hcap := HS.out.cap
          have htr := trimmed_any (some ⟨gr, 0, none⟩) C q wr (hbr.rd rfl) (by omega) (by have := HCM.out; unfold maxLen at this; omega)
          rw [k2] at htr
          have hv := hI.val
          rw [hG0, Nat.sub_self, Nat.pow_zero, Nat.mul_one, Nat.add_zero] at hv
          have hnext : TxS w wr gr gd C z f' (Na.trm q) ((q.drop (Na.trm q).length).map (Value.int .u32) ++ s2) ds' := by
            refine ⟨hbt, by simp; omega, Na.Can.mk' k3, by have := HS.out.len; omega, hI.bd, hI.fl, ?_, hI.dgt, by rw [Na.V_trm]; exact hv, ?_⟩
            · obtain ⟨j, hj⟩ := HS.out.nine
              exact ⟨j + 1, by have := hI.fl; omega⟩
            · have b1 := HS.out.bel.grown k7 HS.out.bel.size (fun k hk => by cases hk; exact hgw)
              exact b1.grown hI.frm b1.size (fun k hk => by cases hk; omega)
          have HTR := Lib.hid htr; have HN := Lib.hid hnext
          clear htr hnext hbt hbr hsp hlt2 hv hI hg1 k1 k2 k3 k6 k7 hcap
          go_wp2_with (go_at_call 35; (with_reducible refine HTR.out.mono ?_); rintro e w5 ⟨rfl, rfl⟩)
          exact ⟨⟨f', Na.trm q, _, ds', rfl, rfl, by omega, HN⟩, by simp [intOf]; omega⟩
        · obtain ⟨f'', rfl⟩ : ∃ f'', f' = f'' + 1 := ⟨f' - 1, by omega⟩
          have hst := HI.out.step (by omega)
          have hc1 := HI.out.bd.cell f'' (by simp; omega)
          have hc2 := HI.out.bd.free f''
          have HST2 := Lib.hid hst
          have i0 : (0 : Int) ≤ (f'' : Int) := by omega
          have i1 : (f'' : Int) < 9873 := by omega
          have i2 : (t : Int) < 9 := by omega
          clear hst h9
          go_wp2_with fail
          have hst := HST2.out
          rw [← dig_int, show ((G' % 10 : Nat) : Int) = (G' : Int) % 10 by omega] at hst
          exact ⟨⟨t + 1, f'', G' / 10, _, by omega, rfl, by go_num, by go_num, by omega, by omega, Lib.hid hst⟩, by simp [intOf]; omega⟩

theorem text_zero (A : Option Addr) (ca : Nat) (w : World) :
    Calls Tryd.prog 25 #[.slice A 0 ca] w fun e w' => e = .returned (.tuple #[.string ⟨#[48]⟩, .int .i64 0]) ∧ w = w' := by
  have hp : Calls Tryd.prog 18 #[.slice A 0 ca] w fun e w' => e = .returned (.bool true) ∧ w = w' := right_any A ca [] w (RdK.nil _ _ _) (by simp)
  have HP := Lib.hid hp; clear hp
  go_enter Tryd.func25, Tryd.ntmps25
  go_wp2_with (go_at_call 18; (with_reducible refine HP.out.mono ?_); rintro e w' ⟨rfl, rfl⟩)
  go_ret2
  exact ⟨rfl, rfl⟩
theorem text_no (A : Option Addr) (ca : Nat) (l : List Int) (w : World) (hr : RdK .u32 w A l) (hl : l.length ≤ 9223372036854775807) (h : Na.rgt l = false) :
    Calls Tryd.prog 25 #[.slice A l.length ca] w fun e w' => e = .returned (.tuple #[.string ⟨#[]⟩, .int .i64 2]) ∧ w = w' := by
  have hp := right_any A ca l w hr hl
  rw [h] at hp
  have HP := Lib.hid hp; clear hp hr
  go_enter Tryd.func25, Tryd.ntmps25
  go_wp2_with (go_at_call 18; (with_reducible refine HP.out.mono ?_); rintro e w' ⟨rfl, rfl⟩)
  go_ret2
  exact ⟨rfl, rfl⟩
/-- the text of a number -/
theorem text_any (A : Option Addr) (ca : Nat) (l : List Int) (x : Int) (w : World) (hr : Num w A l x) :
    Calls Tryd.prog 25 #[.slice A l.length ca] w fun e w' => e = .returned (.tuple #[.string ⟨(Lib.decDigits x.toNat).toArray⟩, .int .i64 0]) ∧ Below w.heap.size w w' := by
  have h0 := hr.nn
  by_cases hx : x = 0
  · have hl : l = [] := hr.can.nil_iff.2 (by rw [hr.val]; exact hx)
    subst hl hx
    have e : Lib.decDigits (Int.toNat 0) = [48] := Na.dec_small (n := 0) (by omega)
    refine (text_zero A ca w).mono ?_
    rintro e' w' ⟨rfl, rfl⟩
    exact ⟨ret_si (by rw [e]) rfl, Below.refl _ _⟩
  · exact text_yes A ca l x w hr (by omega)

end Go.Proofs.YtgcfmkelanhdhaaDoor
