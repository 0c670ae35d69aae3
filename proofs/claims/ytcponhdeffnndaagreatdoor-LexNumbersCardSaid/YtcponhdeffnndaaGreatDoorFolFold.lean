/-
  The walk of Fold.
-/
import Derived.Test.YtcponhdeffnndaaGreatDoorFolWalk2
import Derived.Lib.AppendStr
import Derived.Lib.UnsafeStr
namespace Go.Proofs.YtcponhdeffnndaaGreatDoor
open Go.RowKit
set_option linter.unusedVariables false
set_option linter.unusedSimpArgs false

theorem infoU8 : (Tryz.prog.info? 5).map (fun i => (i.zero, i.size, i.bytes)) = some (some (.int .u8 0), 1, 1) := by kernel_rfl
theorem own_ne {w : World} {base e size n : Nat} {v : Value} {xs : List Value} (h : w.ownsRow base e size v n xs) {g t : Nat} {cs : Array Value} {fr : Nat × Nat} (hg : w.heap[g]? = some (.cells cs t fr)) (hne : e ≠ t) : some g ≠ v.ownBlock := by
  rcases h.2 with ⟨rfl, _⟩ | ⟨g', cap, cur, rfl, _, hh, _⟩
  · simp [Value.ownBlock]
  · intro he
    have : g = g' := by simpa [Value.ownBlock] using he
    subst this
    rw [hh] at hg
    injection hg with hg
    injection hg with _ ht
    exact hne ht
/-- bytes of one's own at a block g -/
def OwnB (base : Nat) (w : World) (g n c : Nat) (l : List UInt8) : Prop := l.length = n ∧ w.ownsRow base 5 1 (.slice (some ⟨g, 0, none⟩) n c) n (Lib.byteCells l)
theorem wpList_appS {ops : Array Oper} {rest : List Oper} {o : Oper} {a : Act} {Q : Exit → Act → World → Prop} (w : World) (hg : o.guard = none) (s x : Operand)
    (hop : o.op = .call { callee := .builtin .append, args := #[s, x], argTypes := #[35, 9] }) (base g n c : Nat) (l : List UInt8) (hv : a.eval s = .slice (some ⟨g, 0, none⟩) n c)
    (hown : OwnB base w g n c l) (S : ByteArray) (hx : a.eval x = .string S) (hl : n + S.size ≤ 1000000000) (hb : base ≤ w.heap.size)
    (hK : ∀ g' m c' w', m = n + S.size → OwnB base w' g' m c' (l ++ S.data.toList) → w.grownBy w' (some g) → wpList Tryz.prog ops Q rest (a.put o.dst (.slice (some ⟨g', 0, none⟩) m c')) w') :
    wpList Tryz.prog ops Q (o :: rest) a w := by
  obtain ⟨i0, hi, hz0, hz1, hz2⟩ := info_parts infoU8
  refine Lib.wpList_append_own_string w hg s x 35 9 hop base 5 i0 Tryz.underlying35 Tryz.underlying9 hi hz0 hz1 hz2 _ _ _ hv hown.2 S hx (by unfold maxLen; omega) (by omega) hb ?_
  intro v' w' h1 h2 h3
  have hlen := hown.1
  rcases h1.2 with ⟨rfl, h4⟩ | ⟨g', cap, cur, rfl, h5, h6, h7⟩
  · exact absurd (h3.1 rfl).1 (by simp)
  · refine hK g' _ cap w' rfl ⟨by simp [hlen], ?_⟩ h2
    rw [Lib.byteCells_append, ← Lib.strCells_eq]
    exact h1
theorem conv_ownB {base g n c : Nat} {l : List UInt8} {w : World} (h : OwnB base w g n c l) : (convert 35 9 (.slice (some ⟨g, 0, none⟩) n c)).run Tryz.prog w = .ok (.string ⟨l.toArray⟩) w := by
  obtain ⟨hl, ho⟩ := h
  subst hl
  refine run_convert_bytes_back (P := Tryz.prog) w 35 9 5 ⟨g, 0, none⟩ c l Tryz.underlying35 Tryz.underlying5 Tryz.underlying9 (fun j hj => ?_)
  exact ho.cells (g := g) rfl j _ (by simp [Lib.byteCells, hj])

def PostStr (l : List UInt8) (w : World) (e : Ending) (w' : World) : Prop := e = .returned (.string ⟨l.toArray⟩) ∧ Below w.heap.size w w'
/-- what the loop keeps -/
structure FoldS (s : ByteArray) (w wr : World) (g n c b k : Nat) (gap : Bool) (out : List UInt8) : Prop where
  own : OwnB w.heap.size wr g n c out
  bel : Below w.heap.size w wr
  box : wr.heap[b]? = some (.cells #[.string s] 9 (0, 0))
  val : Fo.sq out gap (Fo.conv (s.data.toList.drop k)) = Fo.fold s.data.toList
  len : n + (if gap then 1 else 0) ≤ k
theorem FoldS.grown {s : ByteArray} {w wr w' : World} {g n c b k : Nat} {gap : Bool} {out : List UInt8} (h : FoldS s w wr g n c b k gap out) (hg : wr.grownBy w' (some g)) :
    w'.heap[b]? = some (.cells #[.string s] 9 (0, 0)) ∧ Below w.heap.size w w' := by
  have hne := own_ne h.own.2 h.box (by decide)
  refine ⟨(hg.block b (lt_of_heap h.box) hne).trans h.box, h.bel.grown hg h.bel.size (fun k hk => ?_)⟩
  cases hk
  exact (h.own.2.lt g rfl).1

set_option maxHeartbeats 1000000 in
theorem conversion_any (s : ByteArray) (w : World) : Calls Tryz.prog 71 #[.string s] w fun e w' => e = .returned (.func (.func 149) #[] #[.pointer (some ⟨w.heap.size, 0, none⟩)]) ∧ w' = w.alloc (.cells #[.string s] 9) := by
  go_enter Tryz.func71, Tryz.ntmps71
  go_wp2
  go_ret
  exact ⟨rfl, rfl⟩
theorem below_next {w w1 w2 : World} (h : Below w.heap.size w w1) (h2 : Below w1.heap.size w1 w2) : Below w.heap.size w w2 := h.trans (h2.mono h.size)

set_option maxRecDepth 100000 in
set_option maxHeartbeats 8000000 in
theorem fold_any (s : ByteArray) (w : World) (hw : Rdy w) (hs : s.size ≤ 100000000) : Calls Tryz.prog 31 #[.string s] w (PostStr (Fo.fold s.data.toList) w) := by
  obtain ⟨i0, hi, hz0, hz1, hz2⟩ := info_parts infoU8
  have HRdy := Lib.hid hw; clear hw
  have hL : s.data.toList.length = s.size := by simp
  have HL := Lib.hid hL; clear hL
  go_enter Tryz.func31, Tryz.ntmps31
  go_wp2_with (at_make; refine wpList_make_own _ rfl _ _ 35 rfl w.heap.size 5 i0 (.int .u8 0) 1 Tryz.underlying35 hi hz0 hz1 _ _ _ s.size rfl rfl ?b0 ?b1 ?b2 ?b3 ?_)
  case b0 => rfl
  case b1 => rw [hz2]; omega
  case b2 => unfold maxLen; omega
  case b3 => exact Nat.le_refl _
  intro w1 hown hgrow
  have hb1 : Below w.heap.size w w1 := (Below.refl _ _).grown hgrow (Nat.le_refl _) (fun k hk => by cases hk)
  have hbs : w.heap.size < w1.heap.size := (hown.lt w.heap.size rfl).2
  have HS0 := Lib.hid (show FoldS s w (w1.alloc (.cells #[.string s] 9)) w.heap.size 0 s.size w1.heap.size 0 false [] from
    ⟨⟨rfl, hown.alloc _⟩, hb1.alloc hb1.size _, heap_alloc_new _ _, rfl, by simp⟩)
  have HC := Lib.hid (conversion_any s w1)
  obtain ⟨b, hb⟩ : ∃ b, b = w1.heap.size := ⟨_, rfl⟩
  rw [← hb] at HS0 HC
  clear hown hgrow hb1 hbs hi hz0 hz1 hz2 hb
  go_wp2_with (go_at_call 71; (with_reducible refine HC.out.mono ?_); rintro e w2 ⟨rfl, rfl⟩)
  clear HC
  go_loopw [3, 5, 6] (fun s3 s5 s6 wr => ∃ (g n c k : Nat) (gap : Bool) (out : List UInt8), s3 = .slice (some ⟨g, 0, none⟩) n c ∧ s5 = .bool gap ∧ s6 = .int .i64 k ∧ k ≤ s.size ∧ Hid (FoldS s w wr g n c b k gap out)) (fun _ _ s6 _ => s.size - (intOf s6).toNat)
  case atStart => exact ⟨w.heap.size, 0, s.size, 0, false, [], rfl, rfl, rfl, Nat.zero_le _, HS0⟩
  case round =>
    obtain ⟨g, n, c, k, gap, out, rfl, rfl, rfl, hk, HS⟩ := hrel
    by_cases hlt : k < s.size
    · have hlt2 : (k : Int) < s.size := by omega
      have hS := HS.out
      have hR : Rdy wr := HRdy.out.below hS.bel
      have hbc := becomes_any s b k wr hR (by omega) hlt (by rw [cell_of_row _ _ 0 _ _ _ hS.box]; rfl)
      have hne : s.data.toList.drop k ≠ [] := by
        intro e
        have := congrArg List.length e
        rw [List.length_drop, HL.out] at this
        simp at this; omega
      have hp := Fo.pc_len _ hne
      have hv := hS.val
      rw [Fo.conv_pc _ hne, List.drop_drop] at hv
      rw [List.length_drop, HL.out] at hp
      obtain ⟨T, hT⟩ : ∃ T, (Fo.pc (s.data.toList.drop k)).1 = T := ⟨_, rfl⟩
      obtain ⟨m, hm⟩ : ∃ m, (Fo.pc (s.data.toList.drop k)).2 = m := ⟨_, rfl⟩
      rw [hT, hm] at hp hv
      have hbc2 : Calls Tryz.prog 149 #[.int .i64 k, .pointer (some ⟨b, 0, none⟩)] wr fun e w' => e = .returned (.tuple #[.string ⟨T.toArray⟩, .int .i64 m]) ∧ wr = w' := by
        rw [← hT, ← hm]; exact hbc
      obtain ⟨p1, p2, p3, p4, p5, p6⟩ := hp
      have hkm : (k : Int) + m ≤ 100000000 := by omega
      have hkm2 : k + m ≤ s.size := by omega
      clear hbc hne hT hm
      rcases p5 with ⟨rfl, rfl⟩ | p5
      · have HB := Lib.hid hbc2
        have HV := Lib.hid hv
        clear hbc2 hv p4 p6 hS hR
        go_wp2_with (go_at_call 149; (with_reducible refine HB.out.mono ?_); rintro e w' ⟨rfl, rfl⟩)
        go_roundw
        case rel => exact ⟨g, n, c, k + 1, true, out, rfl, rfl, by go_num, by omega, Lib.hid ⟨HS.out.own, HS.out.bel, HS.out.box, by rw [← HV.out]; rfl, by have := HS.out.len; simp; split at this <;> omega⟩⟩
        case measure => simp [intOf]; omega
      · have hsg := Fo.sq_signs T out (Fo.conv (s.data.toList.drop (k + m))) gap p4 p5
        rw [hsg] at hv
        obtain ⟨S, hSS⟩ : ∃ S : ByteArray, S = ⟨T.toArray⟩ := ⟨_, rfl⟩
        rw [← hSS] at hbc2
        have hb32 : (S.toList == [32]) = false := by
          rw [ByteArray.toList_eq, beq_eq_false_iff_ne, hSS]
          intro e
          have e' : T = [32] := e
          exact p5 32 (by rw [e']; simp) rfl
        have hsz : S.size = T.length := by rw [hSS]; show Array.size _ = _; simp
        have hSd : S.data.toList = T := by rw [hSS]
        have HB := Lib.hid hbc2
        have HSd := Lib.hid hSd
        have HV := Lib.hid hv
        have hn100 : n + 1 + S.size ≤ 1000000000 := by have := hS.len; split at this <;> omega
        have hol := hS.own.1
        clear hbc2 hv hsg hSS hSd p4 p5 hS hR
        by_cases hg1 : gap = true ∧ 0 < n
        · obtain ⟨rfl, hn0⟩ := hg1
          have hn1 : decide (0 < n) = true := decide_eq_true hn0
          have HV2 : Hid (Fo.sq (out ++ [32] ++ T) false (Fo.conv (s.data.toList.drop (k + m))) = Fo.fold s.data.toList) := by
            have := HV.out
            rw [show (true && !out.isEmpty) = true by cases out <;> simp_all, if_pos rfl] at this
            exact Lib.hid this
          clear HV
          go_wp2_with (first
            | (go_at_call 149; (with_reducible refine HB.out.mono ?_); rintro e w' ⟨rfl, rfl⟩)
            | (at_builtin; with_reducible refine wpList_appS wr rfl _ _ rfl w.heap.size g n c out rfl HS.out.own ⟨#[32]⟩ rfl ?c1 ?c2 ?c3)
            )
          case c1 => show n + 1 ≤ _; omega
          case c2 => exact HS.out.bel.size
          intro g1 n1 c1 w2 hn2 ho1 hgr1
          have hn2' : n1 = n + 1 := hn2
          obtain ⟨hbx, hbl⟩ := HS.out.grown hgr1
          have HO1 := Lib.hid ho1; have HBX := Lib.hid hbx; have HBL := Lib.hid hbl
          have HN2 := Lib.hid hn2'
          clear ho1 hbx hbl hgr1 hn2 hn2'
          go_wp2_with (at_builtin; with_reducible refine wpList_appS w2 rfl _ _ rfl w.heap.size g1 n1 c1 _ rfl HO1.out S rfl ?d1 ?d2 ?d3)
          case d1 => rw [HN2.out]; exact hn100
          case d2 => exact HBL.out.size
          intro g2 n2 c2 w3 hn3 ho2 hgr2
          have HN3 := Lib.hid hn3
          have hx : FoldS s w w3 g2 n2 c2 b (k + m) false (out ++ [32] ++ T) := by
            refine ⟨by rw [← HSd.out]; simpa using ho2, ?_, ?_, HV2.out, ?_⟩
            · refine HBL.out.grown hgr2 HBL.out.size (fun k hk => ?_)
              cases hk
              exact (HO1.out.2.lt g1 rfl).1
            · exact (hgr2.block b (lt_of_heap HBX.out) (own_ne HO1.out.2 HBX.out (by decide))).trans HBX.out
            · have h1 := HS.out.len
              have h2 := HN2.out
              have h3 := HN3.out
              simp at h1 ⊢
              omega
          have HX := Lib.hid hx
          clear hx ho2 hgr2 hn3
          go_wp2
          go_roundw
          case rel => exact ⟨g2, n2, c2, k + m, false, _, rfl, rfl, by go_num, hkm2, HX⟩
          case measure => simp [intOf]; omega
        · have HV2 : Hid (Fo.sq (out ++ T) false (Fo.conv (s.data.toList.drop (k + m))) = Fo.fold s.data.toList) := by
            have := HV.out
            rw [show (gap && !out.isEmpty) = false by
              cases gap
              · rfl
              · have : n = 0 := by
                  rcases Nat.eq_zero_or_pos n with h | h
                  · exact h
                  · exact absurd ⟨rfl, h⟩ hg1
                rw [this] at hol
                rw [List.eq_nil_of_length_eq_zero hol]; rfl] at this
            exact Lib.hid this
          clear HV
          have hg2 : gap = false ∨ (gap = true ∧ decide (0 < n) = false) := by
            cases gap
            · exact .inl rfl
            · refine .inr ⟨rfl, decide_eq_false (fun h => hg1 ⟨rfl, h⟩)⟩
          clear hg1
          rcases hg2 with rfl | ⟨rfl, hn1⟩
          all_goals
            go_wp2_with (first
              | (go_at_call 149; (with_reducible refine HB.out.mono ?_); rintro e w' ⟨rfl, rfl⟩)
              | (at_builtin; with_reducible refine wpList_appS wr rfl _ _ rfl w.heap.size g n c out rfl HS.out.own S rfl (by omega) HS.out.bel.size ?_))
            intro g1 n1 c1 w2 hn2 ho1 hgr1
            obtain ⟨hbx, hbl⟩ := HS.out.grown hgr1
            have hx : FoldS s w w2 g1 n1 c1 b (k + m) false (out ++ T) := by
              refine ⟨by rw [← HSd.out]; exact ho1, hbl, hbx, HV2.out, ?_⟩
              have h1 := HS.out.len
              simp at h1 ⊢
              omega
            have HX := Lib.hid hx
            clear hx ho1 hbx hbl hgr1 hn2
            go_wp2
            go_roundw
            case rel => exact ⟨g1, n1, c1, k + m, false, _, rfl, rfl, by go_num, hkm2, HX⟩
            case measure => simp [intOf]; omega
    · have hge : ¬ (k : Int) < s.size := by omega
      have hcv := conv_ownB HS.out.own
      have hv := HS.out.val
      rw [List.drop_of_length_le (by rw [HL.out]; omega)] at hv
      have hv2 : out = Fo.fold s.data.toList := hv
      rw [hv2] at hcv
      clear hv hv2
      have HBL := Lib.hid HS.out.bel
      clear HS
      go_wp2
      go_ret
      exact ⟨rfl, HBL.out⟩
end Go.Proofs.YtcponhdeffnndaaGreatDoor
