/-
  The walk of money.Split.
-/
import Derived.Test.YtbbmpjndalkgbaaDoorMonWalk1
import Derived.Test.YtbbmpjndalkgbaaDoorMonPlain4
namespace Go.Proofs.YtbbmpjndalkgbaaDoor
open Go.RowKit
set_option linter.unusedVariables false

def twV (zs : List Int) : Int := if Mo.wts zs = true then Mo.sumZ zs else 0
def twB (zs : List Int) : Bool := Mo.wts zs && decide (0 < Mo.sumZ zs)
theorem tw_yes {zs : List Int} (h : Mo.wts zs = true) : twV zs = Mo.sumZ zs ∧ twB zs = decide (0 < Mo.sumZ zs) := by rw [twV, twB, h]; exact ⟨rfl, rfl⟩
theorem tw_no {zs : List Int} (h : Mo.wts zs = false) : twV zs = 0 ∧ twB zs = false := by rw [twV, twB, h]; exact ⟨rfl, rfl⟩
set_option maxHeartbeats 400000 in
theorem tw_any (A : Option Addr) (cap : Nat) (zs : List Int) (w : World) (hr : Rd w A zs) (hl : zs.length ≤ 4096) :
    Calls Tryd.prog 32 #[.slice A zs.length cap] w fun e w' => e = .returned (.tuple #[.int .i64 (twV zs), .bool (twB zs)]) ∧ w = w' := by
  have Hr := Lib.hid hr; clear hr
  go_enter Tryd.func32, Tryd.ntmps32
  go_wp2
  go_loop [4, 9] (fun s i => ∃ (k : Nat), k ≤ zs.length ∧ i = .int .i64 k ∧ s = .int .i64 (Mo.sumZ (zs.take k)) ∧ Hid (Mo.wts (zs.take k) = true)) (fun _ i => zs.length - (intOf i).toNat)
  case atStart => exact ⟨0, by omega, rfl, rfl, by simp [Hid, Mo.wts]⟩
  case round =>
    obtain ⟨k, hk, rfl, rfl, hm⟩ := hrel
    have hb := Mo.wts_sum hm.out
    have hlen : (zs.take k).length = k := by rw [List.length_take]; omega
    rw [hlen] at hb
    clear hlen
    obtain ⟨s0, s1⟩ := hb
    by_cases hlt : k < zs.length
    · obtain ⟨b, off, rfl, hbl, hc⟩ := Hr.out.at (by omega)
      have hc1 := hc k hlt; clear hc
      have e1 := Mo.sumZ_take zs k hlt
      have e2 := Mo.wts_take zs k hlt
      have e3 := Mo.wts_of_take zs (k + 1)
      obtain ⟨z, hz⟩ : ∃ z, z = zs.getD k 0 := ⟨_, rfl⟩
      rw [← hz] at hc1 e1 e2
      have E1 := Lib.hid e1; clear e1
      have E2 := Lib.hid e2; clear e2
      have E3 := Lib.hid e3; clear e3
      clear hz
      generalize Mo.sumZ (zs.take k) = s at *
      by_cases hz : 0 ≤ z ∧ z ≤ 1000000
      · have hm2 := Lib.hid (show Mo.wts (zs.take (k + 1)) = true by rw [E2.out, hm.out, decide_eq_true hz]; rfl)
        obtain ⟨z0, z1⟩ := hz
        clear hm
        go_wp2
        exact ⟨⟨k + 1, by omega, by go_num, by rw [E1.out], hm2⟩, by simp [intOf]; omega⟩
      · have hm2 := Lib.hid (tw_no (E3.out (show Mo.wts (zs.take (k + 1)) = false by rw [E2.out, hm.out, decide_eq_false hz]; rfl)))
        clear hm
        rcases (show z < 0 ∨ 1000000 < z by omega) with c | c
        · clear hz
          go_wp2
          go_ret2
          exact ⟨ret_ib hm2.out.1.symm hm2.out.2.symm, rfl⟩
        · have f : decide (z < 0) = false := decide_eq_false (by omega)
          clear hz
          go_wp2
          go_ret2
          exact ⟨ret_ib hm2.out.1.symm hm2.out.2.symm, rfl⟩
    · have htk : zs.take k = zs := List.take_of_length_le (by omega)
      rw [htk] at hm s0 s1 ⊢
      clear htk
      go_wp2
      go_ret2
      exact ⟨ret_ib (tw_yes hm.out).1.symm (tw_yes hm.out).2.symm, rfl⟩

/-- what a split answers: its parts lie in memory of their own -/
def PostSplit (c : Int) (ws : List Int) (w : World) (e : Ending) (w' : World) : Prop :=
  ∃ A cap, e = .returned (.tuple #[.slice A (Mo.spV c ws).length cap, .int .i64 (Mo.spE c ws)]) ∧ w'.ownsRow w.heap.size 3 1 (.slice A (Mo.spV c ws).length cap) (Mo.spV c ws).length ((Mo.spV c ws).map (Value.int .i64)) ∧ Below w.heap.size w w'
theorem own_nil (w : World) (base : Nat) (l : List Int) (h : l = []) : w.ownsRow base 3 1 (.slice none l.length 0) l.length (l.map (Value.int .i64)) := by
  subst h; exact World.ownsRow_nil _ _ _ _

set_option maxHeartbeats 400000 in
theorem split_many (c : Int) (A : Option Addr) (cap : Nat) (ws : List Int) (w : World) (h : 4096 < ws.length) (hl : ws.length ≤ 9223372036854775807) :
    Calls Tryd.prog 15 #[.int .i64 c, .slice A ws.length cap] w (PostSplit c ws w) := by
  obtain ⟨h1, h2⟩ := Mo.spE_many (c := c) h
  have H1 := Lib.hid h1; have H2 := Lib.hid h2; clear h1 h2
  go_enter Tryd.func15, Tryd.ntmps15
  go_wp2
  go_ret2
  exact ⟨none, 0, by rw [H1.out, H2.out]; rfl, own_nil _ _ _ H2.out, Below.refl _ _⟩

set_option maxHeartbeats 400000 in
theorem split_bad (c : Int) (A : Option Addr) (cap : Nat) (ws : List Int) (w : World) (hr : Rd w A ws) (h : ws.length ≤ 4096) (hn : Mo.spOk c ws = false) :
    Calls Tryd.prog 15 #[.int .i64 c, .slice A ws.length cap] w (PostSplit c ws w) := by
  obtain ⟨h1, h2⟩ := Mo.spE_bad (c := c) h hn
  have H1 := Lib.hid h1; have H2 := Lib.hid h2; clear h1 h2
  have hq : ∀ W, Calls Tryd.prog 23 #[.int .i64 c] W fun e w' => e = .returned (.bool (Mo.rt c)) ∧ W = w' := fun W => mRight_any c W
  have ht := tw_any A cap ws w hr h
  have hx : (Mo.rt c && twB ws) = false := by unfold twB; rw [← Bool.and_assoc]; exact hn
  generalize Mo.rt c = x at *
  generalize twV ws = y at *
  generalize twB ws = z at *
  have HQ := Lib.hid hq; clear hq
  have HT := Lib.hid ht; clear ht hn hr
  have ho : x = false ∨ x = true ∧ z = false := by cases x <;> cases z <;> simp_all
  clear hx
  rcases ho with rfl | ⟨rfl, rfl⟩
  all_goals
    go_enter Tryd.func15, Tryd.ntmps15
    go_wp2_with (first
      | (go_at_call 32; refine HT.out.mono ?_; rintro e w' ⟨rfl, rfl⟩)
      | (go_at_call 23; refine (HQ.out _).mono ?_; rintro e w' ⟨rfl, rfl⟩))
    go_ret2
    exact ⟨none, 0, by rw [H1.out, H2.out]; rfl, own_nil _ _ _ H2.out, Below.refl _ _⟩

/-- a row of ints of one's own: a cell read, a cell written -/
theorem rowi_at {w : World} {base g n cap : Nat} {xs : List Int} (h : w.ownsRow base 3 1 (.slice (some ⟨g, 0, none⟩) n cap) n (xs.map (Value.int .i64))) (k : Nat) (hk : k < n) : w.cell? ⟨g, k, none⟩ = some (.int .i64 (xs.getD k 0)) := by
  have hl := h.1
  simp at hl
  rw [h.cellAt k (by omega), List.getElem?_map, List.getElem?_eq_getElem (by omega), List.getD_eq_getElem?_getD, List.getElem?_eq_getElem (by omega)]; rfl
theorem rowi_set {w : World} {base g n cap : Nat} {xs ys : List Int} (h : w.ownsRow base 3 1 (.slice (some ⟨g, 0, none⟩) n cap) n (xs.map (Value.int .i64))) (k : Nat) (x : Int) (hy : xs.set k x = ys) : (w.setCell ⟨g, k, none⟩ (.int .i64 x)).ownsRow base 3 1 (.slice (some ⟨g, 0, none⟩) n cap) n (ys.map (Value.int .i64)) := by
  have := (h.stored k (.int .i64 x)).1
  rw [← List.map_set, hy] at this
  exact this

set_option maxRecDepth 100000 in
set_option maxHeartbeats 4000000 in
theorem split_ok (c : Int) (A : Option Addr) (cap : Nat) (ws : List Int) (w : World) (hr : Rd w A ws) (h : ws.length ≤ 4096) (hn : Mo.spOk c ws = true) :
    Calls Tryd.prog 15 #[.int .i64 c, .slice A ws.length cap] w (PostSplit c ws w) := by
  obtain ⟨i0, hi, hz0, hz1, hz2⟩ := info_parts infoInt
  obtain ⟨h1, h2⟩ := Mo.spE_ok (c := c) h hn
  have H1 := Lib.hid h1; have H2 := Lib.hid h2; clear h1 h2
  obtain ⟨hc, hw, hT⟩ := (Mo.spOk_iff c ws).1 hn
  have hq : ∀ W, Calls Tryd.prog 23 #[.int .i64 c] W fun e w' => e = .returned (.bool true) ∧ W = w' := fun W => hc ▸ mRight_any c W
  have ht := tw_any A cap ws w hr h
  rw [(tw_yes hw).1, (tw_yes hw).2, decide_eq_true hT] at ht
  obtain ⟨c0, c1⟩ := (Mo.rt_iff c).1 hc
  have hmem := Mo.wts_mem hw
  have hle := Mo.sumZ_mem (fun x hx => (hmem x hx).1)
  have hsum := (Mo.wts_sum hw).2
  have hlft := Mo.lft_bd c ws hT (fun x hx => (hmem x hx).1)
  have hpl := Mo.pos_le ws
  have hlf : Mo.lft c (Mo.sumZ ws) ws = c - Mo.sumZ (Mo.bs c (Mo.sumZ ws) ws) := rfl
  generalize Mo.sumZ ws = T at *
  have hwk : ∀ k, k < ws.length → 0 ≤ ws.getD k 0 ∧ ws.getD k 0 ≤ 1000000 ∧ ws.getD k 0 ≤ T := fun k hk => ⟨(hmem _ (Mo.getD_mem ws k hk)).1, (hmem _ (Mo.getD_mem ws k hk)).2, hle _ (Mo.getD_mem ws k hk)⟩
  have hbs : ∀ k, k ≤ ws.length → -1000000000000000 * (k : Int) ≤ Mo.sumZ (Mo.bs c T (ws.take k)) ∧ Mo.sumZ (Mo.bs c T (ws.take k)) ≤ 1000000000000000 * (k : Int) := by
    intro k hk
    have := Mo.bs_bd c T hT (ws.take k) (fun x hx => ⟨(hmem x (List.mem_of_mem_take hx)).1, hle x (List.mem_of_mem_take hx)⟩) c0 c1
    rw [List.length_take, show min k ws.length = k by omega] at this
    exact this
  have HQ := Lib.hid hq; clear hq
  have HT := Lib.hid ht; clear ht hn hc hw hmem hle
  have Hr := Lib.hid hr; clear hr
  have HWK := Lib.hid hwk; clear hwk
  have HBS := Lib.hid hbs; clear hbs
  have HLF := Lib.hid hlf; clear hlf
  have hTb : T ≤ 4096000000 := by omega
  go_enter Tryd.func15, Tryd.ntmps15
  go_wp2_with (first
    | (go_at_call 32; refine HT.out.mono ?_; rintro e w' ⟨rfl, rfl⟩)
    | (go_at_call 23; refine (HQ.out _).mono ?_; rintro e w' ⟨rfl, rfl⟩)
    | (at_make; refine wpList_make_full _ rfl _ _ 22 rfl w.heap.size 3 i0 (.int .i64 0) 1 Tryd.underlying22 hi hz0 hz1 _ _ _ _ ws.length rfl rfl rfl rfl ?b1 ?b2 ?b3 ?_))
  case b1 => rw [hz2]; omega
  case b2 => unfold maxLen; omega
  case b3 => exact Nat.le_refl _
  intro w1 hown hgrow
  have B1 := Lib.hid ((Below.refl w.heap.size w).grown hgrow (Nat.le_refl _) (fun k hk => by cases hk))
  rw [toList_madeCells_one, ← List.map_replicate (f := Value.int .i64), ← Mo.L1_zero c T ws] at hown
  have HO := Lib.hid hown
  clear hown hgrow HT HQ hi hz0 hz1 hz2 i0
  go_wp2_with fail
  go_loopw [9, 35] (fun l i wr => ∃ k : Nat, k ≤ ws.length ∧ i = .int .i64 k ∧ l = .int .i64 (c - Mo.sumZ (Mo.bs c T (ws.take k))) ∧ Hid (wr.ownsRow w.heap.size 3 1 (.slice (some ⟨w.heap.size, 0, none⟩) ws.length ws.length) ws.length ((Mo.L1 c T ws k).map (Value.int .i64))) ∧ Hid (Below w.heap.size w wr)) (fun _ i _ => ws.length - (intOf i).toNat)
  case atStart => exact ⟨0, by omega, rfl, by simp [Mo.bs, Mo.sumZ], HO, B1⟩
  case round =>
    obtain ⟨k, hk, rfl, rfl, HOK, HB⟩ := hrel
    have hsb := HBS.out k hk
    by_cases hlt : k < ws.length
    · obtain ⟨b, off, rfl, hbl, hcl⟩ := (Hr.out.below HB.out).at (by omega)
      have hc1 := hcl k hlt; clear hcl
      have e1 := Mo.bs_take_succ c T ws k hlt
      have e2 := Mo.L1_set c T ws k hlt
      obtain ⟨w0, w1', w2⟩ := HWK.out k hlt
      have hold := rowi_at HOK.out k hlt
      have hfz := HOK.out.frozenAt k
      have hpo : ∀ W, Calls Tryd.prog 33 #[.int .i64 c, .int .i64 (ws.getD k 0), .int .i64 T] W fun e w' => e = .returned (.tuple #[.int .i64 (c * ws.getD k 0 / T), .int .i64 (c * ws.getD k 0 % T)]) ∧ ∃ n, w' = W.drewN n :=
        fun W => portion_any c _ T W hT hTb w0 w2 w1' c0 c1
      have pb := Mo.part_bd c _ T hT w0 w2 c0 c1
      generalize c * ws.getD k 0 / T = x at *
      generalize c * ws.getD k 0 % T = y at *
      generalize ws.getD k 0 = z at *
      generalize (Mo.L1 c T ws k).getD k 0 = old at *
      generalize Mo.sumZ (Mo.bs c T (ws.take k)) = sm at *
      obtain ⟨p0, p1⟩ := pb
      obtain ⟨s0, s1⟩ := hsb
      have E1 := Lib.hid e1; clear e1
      have E2 := Lib.hid e2; clear e2
      have HP := Lib.hid hpo; clear hpo
      have HF := Lib.hid (And.intro hc1 (And.intro hold hfz)); clear hc1 hold hfz
      have hk2 : (k : Int) < ws.length := by omega
      have hc1 := HF.out.1
      go_wp2_with (go_at_call 33; refine (HP.out _).mono ?_; rintro e w3 ⟨rfl, nn, hnn⟩; have hold : w3.cell? ⟨w.heap.size, k, none⟩ = some (.int .i64 old) := by { rw [hnn]; exact HF.out.2.1 }; have hfz : w3.frozen? ⟨w.heap.size, k, none⟩ = false := by { rw [hnn]; exact HF.out.2.2 }; have HO3 := Lib.hid (show w3.ownsRow w.heap.size 3 1 (.slice (some ⟨w.heap.size, 0, none⟩) ws.length ws.length) ws.length ((Mo.L1 c T ws k).map (Value.int .i64)) by { rw [hnn]; exact HOK.out }); have HB3 := Lib.hid (show Below w.heap.size w w3 by { rw [hnn]; exact below_drewN HB.out nn }); clear hnn)
      exact ⟨⟨k + 1, by omega, by go_num, congrArg (Value.int .i64) (by rw [E1.out]; omega), Lib.hid (rowi_set HO3.out k x E2.out), Lib.hid (HB3.out.setCell (p := ⟨w.heap.size, k, none⟩) (Nat.le_refl _) _)⟩, by simp [intOf]; omega⟩
    · have hke : k = ws.length := by omega
      subst hke
      rw [Mo.L1_all, ← Mo.L2_zero c T (Mo.lft c T ws)] at HOK
      rw [List.take_length, ← HLF.out]
      obtain ⟨l0, l1⟩ := hlft
      have hlf := fun k => Mo.lf_bd (Mo.lft c T ws) l0 (ws.take k)
      have hat := fun k h => Mo.L2_at c T (Mo.lft c T ws) ws k h
      have hst := fun k h => Mo.L2_set c T (Mo.lft c T ws) ws k h
      have hsk := fun k h => Mo.L2_skip c T (Mo.lft c T ws) ws k h
      have hal := Mo.L2_all c T (Mo.lft c T ws) ws
      have hls := fun k h => Mo.lf_step (Mo.lft c T ws) ws k h
      have pbd := fun k h => Mo.part_bd c (ws.getD k 0) T hT (HWK.out k h).1 (HWK.out k h).2.2 c0 c1
      generalize Mo.lft c T ws = l at *
      rw [← hal] at H2
      have HLB := Lib.hid hlf; clear hlf
      have HAT := Lib.hid hat; clear hat
      have HSE := Lib.hid hst; clear hst
      have HSK := Lib.hid hsk; clear hsk
      have HLS := Lib.hid hls; clear hls
      have HPB := Lib.hid pbd; clear pbd
      clear hal HBS HLF B1 HO hsb
      go_wp2_with fail
      obtain ⟨wo, hwo⟩ : ∃ wo : World, wo = wr := ⟨_, rfl⟩
      rw [← hwo] at HOK HB ⊢
      clear hwo
      go_loopw [9, 59] (fun s i wr => ∃ k : Nat, k ≤ ws.length ∧ i = .int .i64 k ∧ s = .int .i64 (Mo.lf l (ws.take k)) ∧ Hid (wr.ownsRow w.heap.size 3 1 (.slice (some ⟨w.heap.size, 0, none⟩) ws.length ws.length) ws.length ((Mo.L2 c T l ws k).map (Value.int .i64))) ∧ Hid (Below w.heap.size w wr)) (fun _ i _ => ws.length - (intOf i).toNat)
      case atStart => exact ⟨0, by omega, rfl, rfl, HOK, HB⟩
      case round =>
        obtain ⟨k, hk, rfl, rfl, HOK, HB⟩ := hrel
        have hlb := HLB.out k
        by_cases hlt : k < ws.length
        · obtain ⟨b, off, rfl, hbl, hcl⟩ := (Hr.out.below HB.out).at (by omega)
          have hc1 := hcl k hlt; clear hcl
          have e1 := HLS.out k hlt
          have e2 := HSE.out k hlt
          have e3 := HSK.out k hlt
          have hold := rowi_at HOK.out k hlt
          rw [HAT.out k hlt] at hold
          have hfz := HOK.out.frozenAt k
          obtain ⟨w0, w1', w2⟩ := HWK.out k hlt
          have pb := HPB.out k hlt
          generalize c * ws.getD k 0 / T = x at *
          generalize ws.getD k 0 = z at *
          generalize Mo.lf l (ws.take k) = s at *
          obtain ⟨s0, s1⟩ := hlb
          obtain ⟨p0, p1⟩ := pb
          have hk2 : (k : Int) < ws.length := by omega
          by_cases hs : 0 < s
          · by_cases hz : 0 < z
            · rw [if_pos ⟨hs, hz⟩] at e1
              have e2 := e2 hs hz
              have E1 := Lib.hid e1; clear e1
              have E2 := Lib.hid e2; clear e2 e3
              go_wp2_with fail
              exact ⟨⟨k + 1, by omega, by go_num, congrArg (Value.int .i64) E1.out.symm, Lib.hid (rowi_set HOK.out k _ E2.out), Lib.hid (HB.out.setCell (p := ⟨w.heap.size, k, none⟩) (Nat.le_refl _) _)⟩, by simp [intOf]; omega⟩
            · rw [if_neg (fun y => hz y.2)] at e1
              have e3 := e3 (fun y => hz y.2)
              rw [← e3] at HOK
              have E1 := Lib.hid e1; clear e1
              clear e2 e3
              have hz2 : decide (0 < z) = false := decide_eq_false hz
              go_wp2_with fail
              exact ⟨⟨k + 1, by omega, by go_num, congrArg (Value.int .i64) E1.out.symm, HOK, HB⟩, by simp [intOf]; omega⟩
          · rw [if_neg (fun y => hs y.1)] at e1
            have e3 := e3 (fun y => hs y.1)
            rw [← e3] at HOK
            have E1 := Lib.hid e1; clear e1
            clear e2 e3
            have hs2 : decide (0 < s) = false := decide_eq_false hs
            go_wp2_with fail
            exact ⟨⟨k + 1, by omega, by go_num, congrArg (Value.int .i64) E1.out.symm, HOK, HB⟩, by simp [intOf]; omega⟩
        · have hke : k = ws.length := by omega
          subst hke
          rw [← H2.out] at HOK
          have hlen : (Mo.spV c ws).length = ws.length := by rw [H2.out, Mo.L2_len]
          have HLEN := Lib.hid hlen; clear hlen
          clear hlb
          go_wp2_with fail
          go_ret2
          exact ⟨some ⟨w.heap.size, 0, none⟩, ws.length, by rw [H1.out, HLEN.out]; rfl, by rw [HLEN.out]; exact HOK.out, HB.out⟩

theorem split_any (c : Int) (A : Option Addr) (cap : Nat) (ws : List Int) (w : World) (hr : Rd w A ws) (hl : ws.length ≤ 9223372036854775807) :
    Calls Tryd.prog 15 #[.int .i64 c, .slice A ws.length cap] w (PostSplit c ws w) := by
  by_cases h : 4096 < ws.length
  · exact split_many c A cap ws w h hl
  · cases hn : Mo.spOk c ws
    · exact split_bad c A cap ws w hr (by omega) hn
    · exact split_ok c A cap ws w hr (by omega) hn

end Go.Proofs.YtbbmpjndalkgbaaDoor
