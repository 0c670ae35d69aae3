/-
  The walk of nat.DivMod.
-/
import Derived.Test.YtgbifcfdbelfpaaNatBack
import Derived.Test.YtgbifcfdbelfpaaNatPlain3
namespace Go.Proofs.Ytgbifcfdbelfpaa
open Go.RowKit
set_option linter.unusedVariables false

theorem Blk.below {w w' : World} {g : Nat} {p s : List Value} {m : List Int} (h : Blk w g p m s) (hb : Below w.heap.size w w') : Blk w' g p m s := (hb.block g h.lt).trans h

def PostDiv (x y : Int) (W : World) (e : Ending) (w' : World) : Prop :=
  ∃ A ca l B cb m, e = .returned (.tuple #[.slice A l.length ca, .slice B m.length cb, .int .i64 0]) ∧ Num w' A l (x / y) ∧ Num w' B m (x % y) ∧ Below W.heap.size W w'

/-- the state of the long division: k limbs of the quotient are to come -/
structure Lng (W w : World) (gr gd gq : Nat) (N : Nat) (R L t : List Int) (k : Nat) (XP : Int) (la : Nat) : Prop where
  br : Blk w gr [] R []
  bd : Blk w gd [] L []
  bq : Blk w gq [] (List.replicate k 0 ++ t) []
  lr : R.length = la + 1
  lt : k + t.length = N
  dr : Na.Dg R
  dt : Na.Dg t
  val : Na.V R + Na.V L * (Na.Bp k * Na.V t) = XP
  less : Na.V (R.drop k) < Na.V L
  bel : Below W.heap.size W w

set_option maxRecDepth 100000 in
set_option maxHeartbeats 4000000 in
theorem divmod_yes (A B : Option Addr) (ca cb : Nat) (l m : List Int) (x y : Int) (w : World) (hr : Num w A l x) (hs : Num w B m y) (hy : 0 < y) :
    Calls Try.prog 97 #[.slice A l.length ca, .slice B m.length cb] w (PostDiv x y w) := by
  have hl1 := hr.len
  have hm1 := hs.len
  have hq := right_any A ca l w hr.rd (by omega)
  have hp := right_any B cb m w hs.rd (by omega)
  rw [hr.rgt] at hq
  rw [hs.rgt] at hp
  have hm0 : m ≠ [] := by
    rintro rfl
    have := hs.val
    simp [Na.V] at this
    omega
  obtain ⟨n, hn⟩ : ∃ n, m.length = n + 1 := ⟨m.length - 1, by have := List.length_pos_iff.2 hm0; omega⟩
  have htop := hs.can.last (by omega)
  rw [hn, Nat.add_sub_cancel] at htop
  obtain ⟨t0, t1⟩ := hs.can.dg.at n
  obtain ⟨s, hs31, hsh, hsp⟩ := Na.shift_of (x := m.getD n 0) (by omega) t1
  obtain ⟨bm, om, rfl, hbm, hc⟩ := hs.rd (by omega)
  have hc1 := hc n (by omega); clear hc
  have hlz := Try.bits_LeadingZeros32 (m.getD n 0) w (by omega) (by omega)
  rw [hsh] at hlz
  replace hlz := hlz.mono (fun e w' h => (show e = _ ∧ w = w' from ⟨h.1, h.2.symm⟩))
  obtain ⟨N, hN⟩ : ∃ N, l.length + 1 - (n + 1) = N := ⟨_, rfl⟩
  have hmx : max ((l.length : Int) - (n + 1) + 1) 0 = (N : Int) := by omega
  have hmz : (((n : Int) + 1) == 0) = false := by rw [beq_eq_false_iff_ne]; omega
  obtain ⟨P0, P1⟩ := pow_bd s hs31
  have HSP := Lib.hid hsp
  have HN := Lib.hid hn
  rw [hn] at hp ⊢
  obtain ⟨tp, htp⟩ : ∃ tp, tp = m.getD n 0 := ⟨_, rfl⟩
  rw [← htp] at hc1 hlz
  have HQ := Lib.hid hq; have HP := Lib.hid hp; have HLZ := Lib.hid hlz; have Hr := Lib.hid hr; have Hs := Lib.hid hs; have HNN := Lib.hid hN
  have i0 : (0 : Int) ≤ (n : Int) := by omega
  have i1 : (n : Int) ≤ 1023 := by omega
  have i2 : (n : Int) < ((n + 1 : Nat) : Int) := by omega
  have i3 : n ≤ 1023 := by omega
  have hN2 : N ≤ 1024 := by omega
  have sh1 := shifted_any A ca l s w hr.rd hr.can.dg hl1 hs31
  have sh2 := fun wx (hbx : Below w.heap.size w wx) => shifted_any (some ⟨bm, om, none⟩) cb m s wx (hs.below hbx).rd hs.can.dg hm1 hs31
  rw [hn] at sh2
  rw [hr.val] at sh1
  rw [hs.val] at sh2
  have SH1 := Lib.hid sh1; have SH2 := Lib.hid sh2
  clear sh1 sh2
  clear hq hp hlz hr hs hm0 hn htop t0 t1 hsh hsp htp hN
  go_enter Try.func97, Try.ntmps97
  go_wp2_with (first
    | (go_at_call 59; (with_reducible refine HQ.out.mono ?_); rintro e w' ⟨rfl, rfl⟩)
    | (go_at_call 59; (with_reducible refine HP.out.mono ?_); rintro e w' ⟨rfl, rfl⟩)
    | (go_at_call 107; (with_reducible refine HLZ.out.mono ?_); rintro e w' ⟨rfl, rfl⟩)
    | (go_at_call 108; (with_reducible refine SH1.out.mono ?_); rintro e w1 ⟨gr, R, rfl, a1, a2, a3, a4, a5, a6⟩; have HR := Lib.hid (And.intro a1 (And.intro a2 (And.intro a3 (And.intro a4 (And.intro a5 a6))))); clear a1 a2 a3 a4 a5 a6)
    | (go_at_call 108; (with_reducible refine (SH2.out w1 HR.out.2.2.2.2.2).mono ?_); rintro e w2 ⟨gd, L, rfl, a1, a2, a3, a4, a5, a6⟩; have HL := Lib.hid (And.intro a1 (And.intro a2 (And.intro a3 (And.intro a4 (And.intro a5 a6))))); clear a1 a2 a3 a4 a5 a6)
    | (at_make; refine wpList_mk _ rfl _ _ rfl N _ _ rfl rfl ?c1 ?c2 ?c3 ?_))
  case c1 => omega
  case c2 => omega
  case c3 => omega
  intro w3 hB hG
  have HB := Lib.hid hB; have HG := Lib.hid hG; clear hB hG
  have hst : ∃ gq, w2.heap.size = gq ∧ Lng w w3 gr gd gq N R L [] N (x * 2 ^ s) l.length ∧ gr ≠ gd ∧ gr ≠ gq ∧ gd ≠ gq ∧ L.getD (n + 1) 0 = 0 ∧ 1 ≤ L.getD n 0 ∧ Na.V L < Na.Bp (n + 1) ∧ Na.Dg L ∧ L.length = n + 2 ∧ Na.V L = y * 2 ^ s ∧ w.heap.size ≤ gr ∧ w.heap.size ≤ gq := by
    obtain ⟨r1, r2, r3, r4, r5, r6⟩ := HR.out
    obtain ⟨l1, l2, l3, l4, l5, l6⟩ := HL.out
    obtain ⟨d1, d2, d3⟩ := Na.divisor_top Hs.out.can HN.out P0 HSP.out l3 l1 (by rw [l4, Hs.out.val])
    have hxl := Na.V_lt Hr.out.can.dg
    rw [Hr.out.val] at hxl
    have hyl := Hs.out.can.len (by intro e; have := HN.out; rw [e] at this; simp at this)
    rw [HN.out, Nat.add_sub_cancel, Hs.out.val] at hyl
    have hss := Na.rest_start (x := x) (y := y) (P := 2 ^ s) (n := n) r3 r1 HNN.out.symm Hr.out.nn hxl hyl P0 r4
    have g1 := r2.lt
    have g2 := l2.lt
    refine ⟨_, rfl, ⟨?_, ?_, ?_, r1, by simp, r3, Na.Dg.nil, by simp [Na.V, r4], by rw [l4]; exact hss, ?_⟩, by omega, by omega, by omega, d1, d2, d3, l3, by omega, l4, r5, by have := r6.size; have := l6.size; omega⟩
    · exact (r2.below l6).kept HG.out (by simp)
    · exact l2.kept HG.out (by simp)
    · simpa using HB.out
    · exact (r6.trans (l6.mono r6.size)).grown HG.out (by have := r6.size; have := l6.size; omega) (fun k hk => by cases hk)
  obtain ⟨gq, hgq, hst, e1, e2, e3, d1, d2, d3, d4, d5, d6, g1, g2⟩ := hst
  have HST := Lib.hid hst
  have HD := Lib.hid (And.intro d1 (And.intro d2 (And.intro d3 (And.intro d4 (And.intro d5 d6)))))
  rw [hgq]
  clear HB HG HR HL SH1 SH2 HSP hgq hst d1 d2 d3 d4 d5 d6 hmx hmz
  go_wp2_with fail
  go_loopw [11] (fun i wr => ∃ (k : Nat) (R t : List Int), k ≤ N ∧ i = .int .i64 ((k : Int) - 1) ∧ Hid (Lng w wr gr gd gq N R L t k (x * 2 ^ s) l.length)) (fun i _ => (intOf i + 1).toNat)
  case atStart => exact ⟨N, R, [], Nat.le_refl _, rfl, HST⟩
  case round =>
    obtain ⟨k, R, t, hk, rfl, HS⟩ := hrel
    by_cases h0 : k = 0
    · subst h0
      have hS := HS.out
      obtain ⟨d1, d2, d3, d4, d5, d6⟩ := HD.out
      have hbq := hS.bq
      rw [List.replicate_zero, List.nil_append] at hbq
      have hlt : t.length = N := by have := hS.lt; omega
      have q1 := fun wx (h : Blk wx gq [] t []) => trimmed_any (some ⟨gq, 0, none⟩) N t wx (h.rd rfl) (by omega) (by omega)
      rw [hlt] at q1
      have q2 := shiftedBack_any gr [] R s wr hS.br hS.dr (by rw [hS.lr]; omega) hs31
      rw [hS.lr] at q2
      simp only [List.length_nil, Nat.add_zero] at q2
      have hval := hS.val
      have hless := hS.less
      rw [List.drop_zero, d6] at hless
      rw [d6, show Na.Bp 0 = 1 from rfl, Int.one_mul] at hval
      obtain ⟨v1, v2⟩ := Na.div_end P0 (Na.V_nonneg hS.dr) hless hval hy
      have hq3 : ∀ wx (q : List Int), Blk wx gr [] q [] → q.length = l.length + 1 → Calls Try.prog 65 #[.slice (some ⟨gr, 0, none⟩) (l.length + 1) (l.length + 1)] wx fun e w' => e = .returned (.slice (some ⟨gr, 0, none⟩) (Na.trm q).length (l.length + 1)) ∧ wx = w' := by
        intro wx q h hl
        have := trimmed_any (some ⟨gr, 0, none⟩) (l.length + 1) q wx (h.rd rfl) (by omega) (by omega)
        rw [hl] at this
        exact this
      have HQ1 := Lib.hid q1; have HQ2 := Lib.hid q2; have HQ3 := Lib.hid hq3; have HBQ := Lib.hid hbq; have HV := Lib.hid (And.intro v1 v2); have HLT := Lib.hid hlt
      clear q1 q2 hq3 hbq v1 v2 hval hless hlt d1 d2 d3 d4 d5 d6
      have HDT := Lib.hid hS.dt; have HBEL := Lib.hid hS.bel
      clear hS
      go_wp2_with (first
        | (go_at_call 65; (with_reducible refine (HQ1.out _ HBQ.out).mono ?_); rintro e w4 ⟨rfl, rfl⟩)
        | (go_at_call 110; (with_reducible refine HQ2.out.mono ?_); rintro e w5 ⟨q, rfl, b1, b2, b3, b4, b5⟩; have HB := Lib.hid (And.intro b1 (And.intro b2 (And.intro b3 (And.intro b4 b5)))); clear b1 b2 b3 b4 b5)
        | (go_at_call 65; (with_reducible refine (HQ3.out _ q HB.out.2.1 (HB.out.1)).mono ?_); rintro e w6 ⟨rfl, rfl⟩))
      go_ret3
      obtain ⟨b1, b2, b3, b4, b5⟩ := HB.out
      have hbq5 := HBQ.out.kept b5 (by simp; omega)
      have hyx := Hs.out.nn
      have r0 := Int.emod_nonneg x (show y ≠ 0 by omega)
      have r1 := Int.emod_lt_of_pos x hy
      have ct := Na.Can.mk' HDT.out
      have cq := Na.Can.mk' b3
      have lt1 := Na.trm_len t
      have hym := Na.V_lt Hs.out.can.dg
      rw [Hs.out.val] at hym
      have hyB := Na.Bp_le hm1
      refine ⟨some ⟨gq, 0, none⟩, N, Na.trm t, some ⟨gr, 0, none⟩, l.length + 1, Na.trm q, rfl, ⟨rdk_trm (hbq5.rd rfl), ct, by have := HLT.out; omega, by rw [Na.V_trm]; exact HV.out.1⟩, ⟨rdk_trm (b2.rd rfl), cq, ?_, ?_⟩, ?_⟩
      · rw [cq.len_iff, Na.V_trm, b4, HV.out.2]; omega
      · rw [Na.V_trm, b4]; exact HV.out.2
      · exact HBEL.out.grown b5 HBEL.out.size (fun k hk => by cases hk; omega)
    · obtain ⟨j, rfl⟩ : ∃ j, k = j + 1 := ⟨k - 1, by omega⟩
      have e1 : ((j + 1 : Nat) : Int) - 1 = (j : Int) := by omega
      rw [e1]
      have j0 : (0 : Int) ≤ (j : Int) := by omega
      have j1 : (j : Int) < (N : Int) := by omega
      have j2 : (j : Int) + ((n : Int) + 1 + 1) ≤ (l.length : Int) + 1 := by have := HNN.out; omega
      obtain ⟨d1, d2, d3, d4, d5, d6⟩ := HD.out
      have hS := HS.out
      have hjR : j + (n + 2) ≤ R.length := by rw [hS.lr]; omega
      obtain ⟨w1', w2', w3'⟩ := Na.window hS.dr hjR hS.less d3
      have hVL0 : 0 < Na.V L := by rw [d6]; exact Int.mul_pos hy (by omega)
      have hsplit : R = R.take j ++ ((R.drop j).take (n + 2) ++ R.drop (j + (n + 2))) := by
        rw [show R.drop (j + (n + 2)) = (R.drop j).drop (n + 2) by rw [List.drop_drop], List.take_append_drop, List.take_append_drop]
      have hbr : Blk wr gr ((R.take j).map (Value.int .u32)) ((R.drop j).take (n + 2)) ((R.drop (j + (n + 2))).map (Value.int .u32)) := by
        have h1 := hS.br
        rw [hsplit] at h1
        simpa using Blk.split.1 h1
      have hpl : ((R.take j).map (Value.int .u32)).length = j := by rw [List.length_map, List.length_take]; omega
      have hwl : ((R.drop j).take (n + 2)).length = n + 2 := by rw [List.length_take, List.length_drop]; omega
      have hof := takeOften_any (some ⟨gd, 0, none⟩) gr j (l.length + 1 - j) (n + 2) n _ _ _ L wr hbr hpl ((hS.dr.drop j).take _) (hS.bd.off (by omega) rfl) d4 hwl d5 (by omega) d1 d2 w2'
      have hds := fun W hW hWl hW2 => Na.div_step (W := W) hS.dr hW hjR hWl w3' w1' hVL0 hS.val hW2
      have hlq : (List.replicate (j + 1) (0 : Int) ++ t).length = N := by simp; exact hS.lt
      have hcq := fun w4 (hg : wr.grownBy w4 (some gr)) => (hS.bq.kept hg (by simp; omega)).cell j (by omega) (i := j) (by simp)
      have hfq := fun w4 (hg : wr.grownBy w4 (some gr)) => (hS.bq.kept hg (by simp; omega)).free j
      have hsq := fun w4 (hg : wr.grownBy w4 (some gr)) v => (hS.bq.kept hg (by simp; omega)).set j (by omega) v (i := j) (by simp)
      have hq0 : 0 ≤ Na.V ((R.drop j).take (n + 2)) / Na.V L := Int.ediv_nonneg (Na.V_nonneg ((hS.dr.drop j).take _)) (by omega)
      have hq1 : Na.V ((R.drop j).take (n + 2)) / Na.V L < 4294967296 := by
        rw [Int.ediv_lt_iff_lt_mul hVL0, Int.mul_comm]; exact w2'
      have HOF := Lib.hid hof; have HDS := Lib.hid hds; have HCQ := Lib.hid hcq; have HFQ := Lib.hid hfq; have HSQ := Lib.hid hsq
      clear hof hds hcq hfq hsq hbr hsplit hpl hwl hjR hlq w1' w2' w3' d1 d2 d3 d4 d5 d6 hS hVL0 h0
      obtain ⟨v, hv⟩ : ∃ v, v = Na.V ((R.drop j).take (n + 2)) / Na.V L := ⟨_, rfl⟩
      have HV := Lib.hid hv
      rw [← hv] at hq0 hq1
      clear hv
      go_wp2_with (go_at_call 109; (with_reducible refine HOF.out.mono ?_); rintro e w4 ⟨W, rfl, k1, k2, k3, k4, k5⟩; rw [← HV.out]; have c1 := HCQ.out w4 k5; have c2 := HFQ.out w4 k5; have HK := Lib.hid (And.intro k1 (And.intro k2 (And.intro k3 (And.intro k4 k5)))); clear k1 k2 k3 k4 k5)
      obtain ⟨k1, k2, k3, k4, k5⟩ := HK.out
      obtain ⟨f1, f2, f3, f4⟩ := HDS.out W k3 k2 k4
      rw [← HV.out] at f1
      have hS := HS.out
      have hb3 := HSQ.out w4 k5 v
      have gs := grown_set w4 ⟨gq, j, none⟩ (.int .u32 v)
      have hnext : Lng w (w4.setCell ⟨gq, j, none⟩ (.int .u32 v)) gr gd gq N (R.take j ++ (W ++ R.drop (j + (n + 2)))) L (v :: t) j (x * 2 ^ s) l.length := by
        refine ⟨?_, ?_, ?_, by rw [f4]; exact hS.lr, by have := hS.lt; simp; omega, f3, Na.Dg.cons.2 ⟨⟨hq0, hq1⟩, hS.dt⟩, f1, f2, ?_⟩
        · refine Blk.kept ?_ gs (by simp; omega)
          exact Blk.split.2 (by simpa using k1)
        · exact (hS.bd.kept k5 (by simp; omega)).kept gs (by simp; omega)
        · have e : (List.replicate (j + 1) (0 : Int) ++ t).set j v = List.replicate j 0 ++ v :: t := by
            rw [List.replicate_succ', List.append_assoc, List.set_append_right _ _ (by simp)]
            simp
          rw [e] at hb3
          exact hb3
        · exact (hS.bel.grown k5 hS.bel.size (fun k hk => by cases hk; omega)).grown gs (by have := hS.bel.size; have := k5.size; omega) (fun k hk => by cases hk; exact g2)
      exact ⟨⟨j, _, _, by omega, by go_num, Lib.hid hnext⟩, by simp [intOf]⟩

def PostDivErr (W : World) (e : Ending) (w' : World) : Prop := e = .returned (.tuple #[.slice none 0 0, .slice none 0 0, .int .i64 2]) ∧ W = w'
theorem divmod_no (A B : Option Addr) (ca cb : Nat) (l m : List Int) (w : World) (hr : RdK .u32 w A l) (hs : RdK .u32 w B m) (hl : l.length ≤ 9223372036854775807) (hm : m.length ≤ 9223372036854775807) (h : Na.rgt l = false ∨ Na.rgt m = false) :
    Calls Try.prog 97 #[.slice A l.length ca, .slice B m.length cb] w (PostDivErr w) := by
  have hq := right_any A ca l w hr hl
  have hp := right_any B cb m w hs hm
  rcases (show Na.rgt l = false ∨ Na.rgt l = true ∧ Na.rgt m = false by cases e : Na.rgt l <;> simp_all) with e | ⟨e, e2⟩
  · rw [e] at hq
    have HQ := Lib.hid hq; clear hq hp hr hs e h
    go_enter Try.func97, Try.ntmps97
    go_wp2_with (go_at_call 59; refine HQ.out.mono ?_; rintro e w' ⟨rfl, rfl⟩)
    go_ret3
    exact ⟨rfl, rfl⟩
  · rw [e] at hq
    rw [e2] at hp
    have HQ := Lib.hid hq; have HP := Lib.hid hp; clear hq hp hr hs e e2 h
    go_enter Try.func97, Try.ntmps97
    go_wp2_with (first
      | (go_at_call 59; (with_reducible refine HQ.out.mono ?_); rintro e w' ⟨rfl, rfl⟩)
      | (go_at_call 59; (with_reducible refine HP.out.mono ?_); rintro e w' ⟨rfl, rfl⟩))
    go_ret3
    exact ⟨rfl, rfl⟩
theorem divmod_zero (A B : Option Addr) (ca cb : Nat) (l : List Int) (x : Int) (w : World) (hr : Num w A l x) :
    Calls Try.prog 97 #[.slice A l.length ca, .slice B 0 cb] w (PostDivErr w) := by
  have hq := right_any A ca l w hr.rd (by have := hr.len; omega)
  rw [hr.rgt] at hq
  have hp : Calls Try.prog 59 #[.slice B 0 cb] w fun e w' => e = .returned (.bool true) ∧ w = w' := right_any B cb [] w (RdK.nil _ _ _) (by simp)
  have HQ := Lib.hid hq; have HP := Lib.hid hp; clear hq hp hr
  go_enter Try.func97, Try.ntmps97
  go_wp2_with (first
    | (go_at_call 59; (with_reducible refine HQ.out.mono ?_); rintro e w' ⟨rfl, rfl⟩)
    | (go_at_call 59; (with_reducible refine HP.out.mono ?_); rintro e w' ⟨rfl, rfl⟩))
  go_ret3
  exact ⟨rfl, rfl⟩

end Go.Proofs.Ytgbifcfdbelfpaa
