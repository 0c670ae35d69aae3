/-
  The walk of nat.Add.
-/
import Derived.Test.YtgbifcfdbelfpaaNatSame
namespace Go.Proofs.Ytgbifcfdbelfpaa
open Go.RowKit
set_option linter.unusedVariables false

theorem wpList_mk {ops : Array Oper} {rest : List Oper} {o : Oper} {a : Act} {Q : Exit → Act → World → Prop} (w : World) (hg : o.guard = none) (l c : Operand) (hop : o.op = Op.makeSlice 29 l c)
    (n : Nat) (L C : Int) (hl : a.eval l = .int .i64 L) (hc : a.eval c = .int .i64 C) (hL : L = n) (hC : C = n) (hn : n ≤ 1000000)
    (hK : ∀ w', Blk w' w.heap.size [] (List.replicate n 0) [] → w.grownBy w' none → wpList Try.prog ops Q rest (a.put o.dst (.slice (some ⟨w.heap.size, 0, none⟩) n n)) w') : wpList Try.prog ops Q (o :: rest) a w := by
  obtain ⟨i0, hi, hz0, hz1, hz2⟩ := info_parts infoU32
  refine wpList_make_full w hg l c 29 hop w.heap.size 55 i0 (.int .u32 0) 1 Try.underlying29 hi hz0 hz1 _ _ L C n hl hc hL hC ?_ ?_ (Nat.le_refl _) ?_
  · rw [hz2]; omega
  · unfold maxLen; omega
  · intro w' ho hgr
    have e : (madeCells (Value.int .u32 0).cells (n * 1)).toList = (List.replicate n (0 : Int)).map (Value.int .u32) := by
      rw [Nat.mul_one, show (Value.int .u32 0).cells = #[Value.int .u32 0] from rfl, toList_madeCells_one, List.map_replicate]
    rw [e] at ho
    obtain ⟨s, h1, h2, h3, h4, h5⟩ := own_blk ho
    have : s = [] := List.eq_nil_of_length_eq_zero (by omega)
    subst this
    exact hK w' h1 hgr

/-- while limbs are laid one behind the other, and something is carried -/
structure Acc (W : World) (w : World) (g b n : Nat) (d : List Int) (c X : Int) : Prop where
  blk : Blk w g [] (d ++ List.replicate (n - d.length) 0) []
  one : One w b c
  c0 : 0 ≤ c
  c1 : c < 4294967296
  dg : Na.Dg d
  val : Na.V d + c * Na.Bp d.length = X
  bel : Below W.heap.size W w
theorem rep_drop (n k : Nat) : List.replicate (n - k) (0 : Int) = (List.replicate n (0 : Int)).drop k := by simp
/-- a round -/
theorem Acc.step {W w w1 : World} {g b n : Nat} {d : List Int} {c X x : Int} (h : Acc W w g b n d c X) (hd : d.length < n) (h0 : 0 ≤ x) (h1 : x ≤ 18446744069414584320) (hgb : g ≠ b) (hg : W.heap.size ≤ g) (hb : W.heap.size ≤ b)
    (ho : One w1 b ((x + c) / 4294967296)) (hgr : w.grownBy w1 (some b)) :
    Acc W (w1.setCell ⟨g, d.length, none⟩ (.int .u32 ((x + c) % 4294967296))) g b n (d ++ [(x + c) % 4294967296]) ((x + c) / 4294967296) (X + Na.Bp d.length * x) := by
  have hb1 := h.blk.kept hgr (by simpa using hgb)
  have hc0 := h.c0
  have hc1 := h.c1
  have hl : d.length < (d ++ List.replicate (n - d.length) (0 : Int)).length := by simp; omega
  refine ⟨?_, ho.kept (grown_set _ _ _) (by simpa using (Ne.symm hgb)), by omega, by omega, h.dg.snoc (by omega) (by omega), ?_, ?_⟩
  · have := hb1.set d.length hl ((x + c) % 4294967296) (i := d.length) (by simp)
    rw [rep_drop n d.length, Na.set_win rfl (by simp; omega)] at this
    rw [List.length_append, List.length_singleton, rep_drop]
    exact this
  · rw [List.length_append, List.length_singleton]
    exact Na.acc rfl h.val (Na.lohi (x + c))
  · exact (h.bel.grown hgr h.bel.size (fun k hk => by cases hk; exact hb)).setCell hg _

def PostSum (z : Int) (W : World) (e : Ending) (w' : World) : Prop :=
  (z < Na.Bp 1024 ∧ PostNumE z W e w') ∨ (¬ z < Na.Bp 1024 ∧ PostErr 3 W e w')
/-- at the end nothing is carried -/
theorem Acc.done {W w : World} {g b n : Nat} {d : List Int} {c X : Int} (h : Acc W w g b n d c X) (hd : d.length = n) (hX : X < Na.Bp n) :
    Na.V (Na.trm d) = X ∧ Na.Can (Na.trm d) ∧ (Na.trm d).length ≤ n ∧ RdK .u32 w (some ⟨g, 0, none⟩) d := by
  have hv := h.val
  have h0 := Na.V_nonneg h.dg
  have hc : c = 0 := by
    have c0 := h.c0
    by_cases k : 0 < c
    · have : 1 * Na.Bp n ≤ c * Na.Bp n := Int.mul_le_mul_of_nonneg_right (by omega) (by have := Na.Bp_pos n; omega)
      rw [hd] at hv; omega
    · omega
  rw [hc] at hv
  have hb := h.blk
  rw [show n - d.length = 0 by omega, List.replicate_zero, List.append_nil] at hb
  exact ⟨by rw [Na.V_trm]; omega, Na.Can.mk' h.dg, hd ▸ Na.trm_len d, hb.rd rfl⟩

set_option maxRecDepth 100000 in
set_option maxHeartbeats 1000000 in
theorem add_any (A B : Option Addr) (ca cb : Nat) (l m : List Int) (x y : Int) (w : World) (hr : Num w A l x) (hs : Num w B m y) :
    Calls Try.prog 25 #[.slice A l.length ca, .slice B m.length cb] w (PostSum (x + y) w) := by
  have hl1 := hr.len
  have hm1 := hs.len
  have hq := right_any A ca l w hr.rd (by omega)
  have hp := right_any B cb m w hs.rd (by omega)
  rw [hr.rgt] at hq
  rw [hs.rgt] at hp
  have HQ := Lib.hid hq; have HP := Lib.hid hp; clear hq hp
  obtain ⟨n, hn⟩ : ∃ n, max l.length m.length + 1 = n := ⟨_, rfl⟩
  have e1 : ((max l.length m.length : Nat) : Int) + 1 = (n : Int) := by omega
  have hln : l.length < n := by omega
  have hmn : m.length < n := by omega
  have hnn : n ≤ 1025 := by omega
  have Hr := Lib.hid hr; have Hs := Lib.hid hs; clear hr hs hn
  go_enter Try.func25, Try.ntmps25
  go_wp2_with (first
    | (go_at_call 59; (with_reducible refine HQ.out.mono ?_); rintro e w' ⟨rfl, rfl⟩)
    | (go_at_call 59; (with_reducible refine HP.out.mono ?_); rintro e w' ⟨rfl, rfl⟩)
    | (at_make; refine wpList_mk _ rfl _ _ rfl n _ _ rfl rfl ?c1 ?c2 ?c3 ?_))
  case c1 => first | rfl | omega
  case c2 => first | rfl | omega
  case c3 => omega
  intro w1 hB hG
  have B1 := Lib.hid ((Below.refl w.heap.size w).grown hG (Nat.le_refl _) (fun k hk => by cases hk))
  have HB := Lib.hid hB; clear hB hG HQ HP
  go_wp2_with (go_at_call 60; refine (carrying_any _ _).mono ?_; rintro e w2 ⟨rfl, h2⟩; have H2 := Lib.hid h2; clear h2)
  obtain ⟨b, hb⟩ : ∃ b, w1.heap.size = b := ⟨_, rfl⟩
  rw [hb]
  have hlt := HB.out.lt
  have hA : Acc w w2 w.heap.size b n [] 0 0 := by
    subst hb
    have h2 := H2.out
    subst h2
    exact ⟨by simpa using HB.out.alloc _, One.new _ _, by omega, by omega, Na.Dg.nil, by simp [Na.V], B1.out.alloc B1.out.size _⟩
  have hgb : w.heap.size ≠ b := by omega
  have hbw : w.heap.size ≤ b := by omega
  have HA := Lib.hid hA; clear hA HB B1 H2 hlt hb
  go_loopw [27] (fun i wr => ∃ (k : Nat) (d : List Int) (c : Int), k ≤ n ∧ i = .int .i64 k ∧ Hid (d.length = k) ∧ Hid (Acc w wr w.heap.size b n d c (Na.V (l.take k) + Na.V (m.take k)))) (fun i _ => n - (intOf i).toNat)
  case atStart => exact ⟨0, [], 0, by omega, rfl, Lib.hid rfl, HA⟩
  case round =>
    obtain ⟨k, d, c, hk, rfl, HD, HS⟩ := hrel
    have hd := HD.out
    by_cases h0 : k = n
    · subst h0
      have h := HS.out
      rw [List.take_of_length_le (by omega), List.take_of_length_le (by omega), Hr.out.val, Hs.out.val] at h
      obtain ⟨hv, hcan, hlen, hrd⟩ := h.done hd (by
        have a1 := Na.V_lt Hr.out.can.dg
        have a2 := Na.V_lt Hs.out.can.dg
        rw [Hr.out.val] at a1
        rw [Hs.out.val] at a2
        obtain ⟨p, rfl⟩ : ∃ p, k = p + 1 := ⟨k - 1, by omega⟩
        have a3 := Na.Bp_le (show l.length ≤ p by omega)
        have a4 := Na.Bp_le (show m.length ≤ p by omega)
        have := Na.Bp_pos p
        rw [Na.Bp]; omega)
      have hbd := bounded_any (some ⟨w.heap.size, 0, none⟩) d.length d wr hrd (Nat.le_refl _) (by omega)
      have hl2 : (Na.trm d).length ≤ 1024 ↔ x + y < Na.Bp 1024 := by rw [hcan.len_iff, hv]
      have hrt := rdk_trm hrd
      generalize Na.trm d = t at *
      rw [hd] at hbd
      have HBD := Lib.hid hbd; have HRT := Lib.hid hrt; have HF := Lib.hid h.bel; have HL := Lib.hid hl2
      clear hbd hrt h hrd hd hl2
      by_cases hc : t.length ≤ 1024
      · go_wp2_with (go_at_call 62; (with_reducible refine HBD.out.mono ?_); rintro e w3 ⟨h3, rfl⟩; rcases h3 with ⟨-, rfl⟩ | ⟨h3, -⟩; rotate_left; exact absurd hc (by omega))
        go_ret2
        exact .inl ⟨HL.out.1 hc, _, _, t, rfl, ⟨HRT.out, hcan, hc, hv⟩, HF.out⟩
      · go_wp2_with (go_at_call 62; (with_reducible refine HBD.out.mono ?_); rintro e w3 ⟨h3, rfl⟩; rcases h3 with ⟨h3, -⟩ | ⟨-, rfl⟩; exact absurd h3 hc)
        go_ret2
        exact .inr ⟨fun z => hc (HL.out.2 z), rfl, HF.out⟩
    · have q1 := limb_any A ca l k wr (Hr.out.below HS.out.bel).rd (by omega)
      have q2 := limb_any B cb m k wr (Hs.out.below HS.out.bel).rd (by omega)
      obtain ⟨x0, x1⟩ := Hr.out.can.dg.at k
      obtain ⟨y0, y1⟩ := Hs.out.can.dg.at k
      have v1 := Na.V_take l k
      have v2 := Na.V_take m k
      generalize l.getD k 0 = u at *
      generalize m.getD k 0 = v at *
      have hS := HS.out
      have nx := next_any (u + v) c b wr hS.one (by omega) hS.c0 (by have := hS.c1; omega)
      have st := fun w3 => hS.step (w1 := w3) (x := u + v) (by omega) (by omega) (by omega) hgb (Nat.le_refl _) hbw
      rw [hd] at st
      have NX := Lib.hid nx; have ST := Lib.hid st
      have hcc := fun w3 (hgr : wr.grownBy w3 (some b)) => ((hS.blk.kept hgr (by simpa using hgb)).cell k (by simp; omega) (i := k) (by simp))
      have hcf := fun w3 (hgr : wr.grownBy w3 (some b)) => ((hS.blk.kept hgr (by simpa using hgb)).free k)
      have HCC := Lib.hid hcc; have HCF := Lib.hid hcf
      have i0 : (0 : Int) ≤ (k : Int) := by omega
      have i1 : (k : Int) < (n : Int) := by omega
      clear nx st hS hcc hcf h0
      have Q1 := Lib.hid q1; have Q2 := Lib.hid q2; have V12 := Lib.hid (And.intro v1 v2)
      clear q1 q2 v1 v2
      go_wp2_with (first
        | (go_at_call 61; (with_reducible refine Q1.out.mono ?_); rintro e w' ⟨rfl, rfl⟩)
        | (go_at_call 61; (with_reducible refine Q2.out.mono ?_); rintro e w' ⟨rfl, rfl⟩)
        | (go_at_call 82; (with_reducible refine NX.out.mono ?_); rintro e w3 ⟨rfl, ho, hgr⟩; have hc1 := HCC.out w3 hgr; have hc2 := HCF.out w3 hgr; have HST := Lib.hid (ST.out w3 ho hgr); clear ho hgr))
      have hst := HST.out
      rw [show Na.V (l.take k) + Na.V (m.take k) + Na.Bp k * (u + v) = Na.V (l.take (k + 1)) + Na.V (m.take (k + 1)) by rw [V12.out.1, V12.out.2]; grind] at hst
      exact ⟨⟨k + 1, _, _, by omega, by go_num, Lib.hid (by rw [List.length_append, HD.out]; rfl), Lib.hid hst⟩, by simp [intOf]; omega⟩

theorem add_no (A B : Option Addr) (ca cb : Nat) (l m : List Int) (w : World) (hr : RdK .u32 w A l) (hs : RdK .u32 w B m) (hl : l.length ≤ 9223372036854775807) (hm : m.length ≤ 9223372036854775807) (h : Na.rgt l = false ∨ Na.rgt m = false) :
    Calls Try.prog 25 #[.slice A l.length ca, .slice B m.length cb] w fun e w' => e = .returned (.tuple #[.slice none 0 0, .int .i64 2]) ∧ w = w' := by
  have hq := right_any A ca l w hr hl
  have hp := right_any B cb m w hs hm
  rcases (show Na.rgt l = false ∨ Na.rgt l = true ∧ Na.rgt m = false by cases e : Na.rgt l <;> simp_all) with e | ⟨e, e2⟩
  · rw [e] at hq
    have HQ := Lib.hid hq; clear hq hp hr hs e h
    go_enter Try.func25, Try.ntmps25
    go_wp2_with (go_at_call 59; refine HQ.out.mono ?_; rintro e w' ⟨rfl, rfl⟩)
    go_ret2
    exact ⟨rfl, rfl⟩
  · rw [e] at hq
    rw [e2] at hp
    have HQ := Lib.hid hq; have HP := Lib.hid hp; clear hq hp hr hs e e2 h
    go_enter Try.func25, Try.ntmps25
    go_wp2_with (first
      | (go_at_call 59; (with_reducible refine HQ.out.mono ?_); rintro e w' ⟨rfl, rfl⟩)
      | (go_at_call 59; (with_reducible refine HP.out.mono ?_); rintro e w' ⟨rfl, rfl⟩))
    go_ret2
    exact ⟨rfl, rfl⟩

end Go.Proofs.Ytgbifcfdbelfpaa
