/-
  The walk of Apply.
-/
import Derived.Test.YthojojjdamchpaaEdiEffect
import Derived.Test.YthojojjdamchpaaEdiFirst
import Derived.Lib.AppendStr
import Derived.Lib.UnsafeStr
namespace Go.Proofs.Ythojojjdamchpaa
open Go.RowKit Go.Shelf
set_option linter.unusedVariables false
set_option linter.unusedSimpArgs false

theorem infoU8 : (Try.prog.info? 5).map (fun i => (i.zero, i.size, i.bytes)) = some (some (.int .u8 0), 1, 1) := by kernel_rfl
/-- bytes of one's own, or none -/
def OwnU (base : Nat) (w : World) (A : Option Addr) (n c : Nat) (l : List UInt8) : Prop := l.length = n ∧ w.ownsRow base 5 1 (.slice A n c) n (Lib.byteCells l)
theorem OwnU.nil (base : Nat) (w : World) : OwnU base w none 0 0 [] := ⟨rfl, World.ownsRow_nil _ _ _ _⟩
theorem OwnU.below {base : Nat} {w w' : World} {A : Option Addr} {n c : Nat} {l : List UInt8} (h : OwnU base w A n c l) (hb : Below w.heap.size w w') : OwnU base w' A n c l := ⟨h.1, own_keep h.2 hb⟩
theorem wpList_appU {ops : Array Oper} {rest : List Oper} {o : Oper} {a : Act} {Q : Exit → Act → World → Prop} (w : World) (hg : o.guard = none) (s x : Operand)
    (hop : o.op = .call { callee := .builtin .append, args := #[s, x], argTypes := #[53, 9] }) (base n c : Nat) (A : Option Addr) (l : List UInt8) (hv : a.eval s = .slice A n c)
    (hown : OwnU base w A n c l) (S : ByteArray) (hx : a.eval x = .string S) (hl : n + S.size ≤ 1000000000) (hb : base ≤ w.heap.size)
    (hK : ∀ A' m c' w', m = n + S.size → OwnU base w' A' m c' (l ++ tx S) → w.grownBy w' (Value.slice A n c).ownBlock → wpList Try.prog ops Q rest (a.put o.dst (.slice A' m c')) w') :
    wpList Try.prog ops Q (o :: rest) a w := by
  obtain ⟨i0, hi, hz0, hz1, hz2⟩ := info_parts infoU8
  refine Lib.wpList_append_own_string w hg s x 53 9 hop base 5 i0 Try.underlying53 Try.underlying9 hi hz0 hz1 hz2 _ _ _ hv hown.2 S hx (by unfold maxLen; omega) (by omega) hb ?_
  intro v' w' h1 h2 h3
  have hlen := hown.1
  have e : Lib.byteCells (l ++ tx S) = Lib.byteCells l ++ Lib.strCells S := by rw [Lib.byteCells_append]; unfold tx; rw [← Lib.strCells_eq]
  rcases h1.2 with ⟨rfl, h4⟩ | ⟨g', cap, cur, rfl, h5, h6, h7⟩
  · have h4 : n + S.size = 0 := h4
    refine hK none 0 0 w' h4.symm ⟨?_, ?_⟩ h2
    · have : S.size = 0 := by omega
      have : (tx S).length = 0 := by rw [tx_len]; exact this
      rw [List.length_append]; omega
    · rw [e]; rw [h4] at h1; exact h1
  · exact hK _ _ cap w' rfl ⟨by simp [hlen, tx_len], by rw [e]; exact h1⟩ h2
theorem conv_ownU {base n c : Nat} {A : Option Addr} {l : List UInt8} {w : World} (h : OwnU base w A n c l) : (convert 53 9 (.slice A n c)).run Try.prog w = .ok (.string ⟨l.toArray⟩) w := by
  obtain ⟨hl, ho⟩ := h
  subst hl
  rcases ho.2 with ⟨hv, h2⟩ | ⟨g, cap, cur, hv, h3⟩
  · have hnil : l = [] := List.eq_nil_of_length_eq_zero h2
    subst hnil
    rw [hv]
    rfl
  · have hA : A = some ⟨g, 0, none⟩ := by injection hv
    subst hA
    refine run_convert_bytes_back (P := Try.prog) w 53 9 5 ⟨g, 0, none⟩ c l Try.underlying53 Try.underlying5 Try.underlying9 (fun j hj => ?_)
    exact ho.cells (g := g) rfl j _ (by simp [Lib.byteCells, hj])
/-- what Apply returns -/
def appS (l : List (Nat × Nat)) (s : ByteArray) : ByteArray := if 60 < s.size ∨ 120 < l.length then ⟨#[]⟩ else match Ed.app l (tx s) with | none => ⟨#[]⟩ | some t => ⟨t.toArray⟩
def appE (l : List (Nat × Nat)) (s : ByteArray) : Int := if 60 < s.size ∨ 120 < l.length then 3 else match Ed.app l (tx s) with | none => 60 | some _ => 0
def PostA (l : List (Nat × Nat)) (s : ByteArray) (w : World) (e : Ending) (w' : World) : Prop := e = .returned (.tuple #[.string (appS l s), .int .i64 (appE l s)]) ∧ Below w.heap.size w w'
set_option maxHeartbeats 2000000 in
theorem apply_long (A : Option Addr) (len cap : Nat) (l : List (Nat × Nat)) (s : ByteArray) (w : World) (hl : l.length = len) (h : 60 < s.size ∨ 120 < l.length) : Calls Try.prog 12 #[.string s, .slice A len cap] w (PostA l s w) := by
  unfold PostA appS appE
  rw [if_pos h, if_pos h]
  by_cases h1 : 60 < s.size
  · have i1 : decide ((60 : Int) < (s.size : Int)) = true := decide_eq_true (by omega)
    clear h
    go_enter Try.func12, Try.ntmps12
    go_wp2
    go_ret2
    exact ⟨rfl, Below.refl _ _⟩
  · have i1 : decide ((60 : Int) < (s.size : Int)) = false := decide_eq_false (by omega)
    have i2 : decide ((120 : Int) < (len : Int)) = true := decide_eq_true (by omega)
    clear h hl
    go_enter Try.func12, Try.ntmps12
    go_wp2
    go_ret2
    exact ⟨rfl, Below.refl _ _⟩
/-- the state of Apply's loop -/
structure AS (l : List (Nat × Nat)) (s : ByteArray) (w W : World) (A : Option Addr) (n c : Nat) (S : ByteArray) (i : Nat) : Prop where
  bel : Below w.heap.size w W
  size : S.size ≤ 60
  own : ∃ u, OwnU w.heap.size W A n c u ∧ Ed.app l (tx s) = (Ed.app (l.drop i) (tx S)).map (u ++ ·) ∧ n ≤ 2 * i
theorem eff_wr {o : Nat × Nat} {s r u : List UInt8} (h : Ed.eff o s = some (r, u)) : u.length ≤ 2 := by
  obtain ⟨k, y⟩ := o
  unfold Ed.eff at h
  split at h
  · injection h with h; injection h with h1 h2; subst h2; simp
  · match s with
    | [] => cases h
    | x :: t =>
      simp only at h
      split at h
      · split at h
        · cases h
        · injection h with h; injection h with h1 h2; subst h2; simp
      · split at h
        · cases h
        · split at h
          · injection h with h; injection h with h1 h2; subst h2; simp
          · split at h
            · injection h with h; injection h with h1 h2; subst h2; simp
            · split at h
              · match t with
                | [] => cases h
                | z :: t2 =>
                  simp only at h
                  split at h
                  · cases h
                  · injection h with h; injection h with h1 h2; subst h2; simp
              · cases h
theorem app_step (o : Nat × Nat) (l : List (Nat × Nat)) (s : List UInt8) : Ed.app (o :: l) s = (match Ed.eff o s with | none => none | some (r, w) => (Ed.app l r).map (w ++ ·)) := rfl
theorem tx_ex (S : ByteArray) (t : Nat) : tx (S.extract t S.size) = (tx S).drop t := tx_extract S t
theorem list_nil (s : ByteArray) (h : s.size = 0) : (s.toList == []) = true := by rw [size_zero s h, ByteArray.toList_eq]; rfl
theorem tx_mk (u : List UInt8) : tx ⟨u.toArray⟩ = u := by simp [tx]

theorem app_some {l : List (Nat × Nat)} {s : ByteArray} (h : ¬ (60 < s.size ∨ 120 < l.length)) {u : List UInt8} (ha : Ed.app l (tx s) = some u) : appS l s = ⟨u.toArray⟩ ∧ appE l s = 0 := by
  unfold appS appE; rw [if_neg h, if_neg h, ha]; exact ⟨rfl, rfl⟩
theorem app_none {l : List (Nat × Nat)} {s : ByteArray} (h : ¬ (60 < s.size ∨ 120 < l.length)) (ha : Ed.app l (tx s) = none) : appS l s = ⟨#[]⟩ ∧ appE l s = 60 := by
  unfold appS appE; rw [if_neg h, if_neg h, ha]; exact ⟨rfl, rfl⟩

set_option maxRecDepth 100000 in
set_option maxHeartbeats 4000000 in
theorem apply_in (A : Option Addr) (len cap : Nat) (l : List (Nat × Nat)) (s : ByteArray) (w : World) (hl : l.length = len) (hby : ∀ o, o ∈ l → o.2 < 256) (hrd : RdO w A l) (h : ¬ (60 < s.size ∨ 120 < l.length)) : Calls Try.prog 12 #[.string s, .slice A len cap] w (PostA l s w) := by
  unfold PostA
  obtain ⟨RS, hRS⟩ : ∃ x, appS l s = x := ⟨_, rfl⟩
  obtain ⟨RE, hRE⟩ : ∃ x, appE l s = x := ⟨_, rfl⟩
  have hsome := fun u ha => app_some (u := u) h ha
  have hnone := fun ha => app_none h ha
  simp only [hRS, hRE] at hsome hnone
  rw [hRS, hRE]
  have HSome := Lib.hid hsome; have HNone := Lib.hid hnone
  clear hRS hRE hsome hnone
  have i1 : decide ((60 : Int) < (s.size : Int)) = false := decide_eq_false (by omega)
  have i2 : decide ((120 : Int) < (len : Int)) = false := decide_eq_false (by omega)
  have hlen : len ≤ 120 := by omega
  have hleni : (len : Int) ≤ 120 := by omega
  have HS0 : Hid (AS l s w w none 0 0 s 0) := Lib.hid ⟨Below.refl _ _, by omega, [], OwnU.nil _ _, by simp, by omega⟩
  have HL := Lib.hid hl; have HBY := Lib.hid hby; have HRD := Lib.hid hrd
  clear h hl hby hrd
  go_enter Try.func12, Try.ntmps12
  go_wp2
  clear i1 i2
  go_loopw [0, 6, 22] (fun s0 s6 s22 wr => ∃ (i : Nat) (P : Option Addr) (n c : Nat) (S : ByteArray), s22 = .int .i64 i ∧ s6 = .slice P n c ∧ s0 = .string S ∧ i ≤ len ∧ Hid (AS l s w wr P n c S i)) (fun _ _ s22 _ => len - (intOf s22).toNat)
  case atStart => exact ⟨0, none, 0, 0, s, rfl, rfl, rfl, Nat.zero_le _, HS0⟩
  case round =>
    obtain ⟨i, P, n, c, S, rfl, rfl, rfl, hi, HS⟩ := hrel
    clear HS0
    by_cases hlt : i < len
    · have hlti : (i : Int) < (len : Int) := by omega
      obtain ⟨b, off, rfl, hbl, hcs⟩ := HRD.out (by have := HL.out; omega)
      obtain ⟨c0, c1⟩ := hcs i (by have := HL.out; omega)
      have hil : i < l.length := by have := HL.out; omega
      have hdrop : l.drop i = l[i] :: l.drop (i + 1) := List.drop_eq_getElem_cons _
      have hy := HBY.out l[i] (List.getElem_mem _)
      obtain ⟨o, ho⟩ : ∃ o, l[i] = o := ⟨_, rfl⟩
      rw [ho] at c0 c1 hdrop hy
      obtain ⟨k, y⟩ := o
      have hef := fun V => effect_any k y hy S V
      have d0 := cell_keep c0 HS.out.bel
      have d1 := cell_keep c1 HS.out.bel
      rw [← Nat.add_assoc] at d1
      obtain ⟨hbel, hsz, u0, hu, happ, hn⟩ := HS.out
      rw [hdrop, app_step] at happ
      unfold opV PostEff at hef
      simp only at d0 d1 hef
      cases he : Ed.eff (k, y) (tx S) with
      | none =>
        rw [he] at happ
        simp only [he] at hef
        have hap : Ed.app l (tx s) = none := happ
        have HEF := Lib.hid hef; have HAP := Lib.hid hap; have HB := Lib.hid hbel
        clear hef hap hbel happ hdrop ho hy he hu c0 c1 hcs
        go_wp2_with (go_at_call 23; (with_reducible refine (HEF.out _).mono ?_); rintro e V ⟨t, T, rfl, -, hb⟩; have hb2 := HB.out.trans (((below_new wr (.cells #[.int .u8 k, .int .u8 y] 51)).trans (hb.mono (by simp))).mono HB.out.size); have HB2 := Lib.hid hb2; clear hb hb2)
        go_ret2
        obtain ⟨e1, e2⟩ := HNone.out HAP.out
        exact ⟨by rw [e1, e2]; rfl, HB2.out⟩
      | some p =>
        obtain ⟨r, u⟩ := p
        rw [he] at happ
        have hwr := eff_wr he
        have hap : Ed.app l (tx s) = (Ed.app (l.drop (i + 1)) r).map ((u0 ++ u) ++ ·) := by
          rw [happ]; simp only [Option.map_map]
          congr 1
          funext x
          simp [List.append_assoc]
        have hef2 : ∀ V, Calls Try.prog 23 #[.agg #[.int .u8 k, .int .u8 y], .string S] V fun e w' => ∃ (t : Nat) (T : ByteArray), e = .returned (.tuple #[.int .i64 t, .string T, .bool true]) ∧ (t ≤ S.size ∧ r = (tx S).drop t ∧ T = ⟨u.toArray⟩) ∧ Below V.heap.size V w' := fun V =>
          (hef V).mono fun e w' ⟨t, T, h1, h2, h3⟩ => ⟨t, T, by rw [h1, he]; rfl, h2 r u he, h3⟩
        have HEF := Lib.hid hef2; have HAP := Lib.hid hap; have HB := Lib.hid hbel; have HU := Lib.hid hu; have HWR := Lib.hid hwr
        clear hef hef2 hap hbel happ hdrop ho hy he hu c0 c1 hcs hwr
        go_wp2_with (first
          | (go_at_call 23; (with_reducible refine (HEF.out _).mono ?_); rintro e V ⟨t, T, rfl, ⟨ht, hr, hT⟩, hb⟩; go_loud (have hti : (t : Int) ≤ (S.size : Int) := (by omega); have hb2 := ((below_new wr (.cells #[.int .u8 k, .int .u8 y] 51)).trans (hb.mono (by simp))); have HB2 := Lib.hid hb2; have HTT := Lib.hid (And.intro hr hT); have hts : T.size ≤ 2 := (by rw [show T.size = u.length from congrArg ByteArray.size hT]; exact HWR.out); clear hb hb2 hr hT))
          | (at_builtin; refine wpList_appU _ rfl (.tmp 38) (.tmp 39) rfl w.heap.size n c P u0 rfl (HU.out.below HB2.out) T rfl (by omega) (HB.out.trans (HB2.out.mono HB.out.size)).size ?_; intro P2 n2 c2 w5 hn2 hu5 hg5; have HN2 := Lib.hid hn2; have HU5 := Lib.hid hu5; have HB5 := Lib.hid ((HB.out.trans (HB2.out.mono HB.out.size)).grown hg5 (HB.out.trans (HB2.out.mono HB.out.size)).size (fun q hq => (HU.out.2.lt q hq).1)); clear hn2 hu5 hg5))
        go_roundw
        case rel =>
          refine ⟨i + 1, P2, n2, c2, S.extract t S.size, by go_num, rfl, rfl, by omega, Lib.hid ⟨HB5.out, ?_, u0 ++ tx T, HU5.out, ?_, ?_⟩⟩
          · rw [ByteArray.size_extract]; omega
          · have e1 : tx T = u := by rw [HTT.out.2, tx_mk]
            rw [HAP.out, tx_extract, ← HTT.out.1, e1]
          · have := HN2.out; omega
        case measure => simp [intOf]; omega
    · obtain rfl : i = len := by omega
      obtain ⟨hbel, hsz, u, hu, happ, hn⟩ := HS.out
      rw [List.drop_of_length_le (by have := HL.out; omega)] at happ
      have hcv := conv_ownU hu
      have HB := Lib.hid hbel
      by_cases h0 : S.size = 0
      · have hap : Ed.app l (tx s) = some u := by
          rw [happ, size_zero S h0]; show (some ([] : List UInt8)).map (u ++ ·) = some u
          simp
        have hs0 := list_nil S h0
        have HAP := Lib.hid hap
        clear hu happ hbel hap
        go_wp2
        go_ret2
        obtain ⟨e1, e2⟩ := HSome.out u HAP.out
        exact ⟨by rw [e1, e2]; rfl, HB.out⟩
      · have hap : Ed.app l (tx s) = none := by
          rw [happ, tx_cons S (by omega)]; rfl
        have hs0 := list_some S (by omega)
        have HAP := Lib.hid hap
        clear hu happ hbel hap hcv
        go_wp2
        go_ret2
        obtain ⟨e1, e2⟩ := HNone.out HAP.out
        exact ⟨by rw [e1, e2]; rfl, HB.out⟩
theorem apply_any (A : Option Addr) (len cap : Nat) (l : List (Nat × Nat)) (s : ByteArray) (w : World) (hl : l.length = len) (hby : ∀ o, o ∈ l → o.2 < 256) (hrd : RdO w A l) : Calls Try.prog 12 #[.string s, .slice A len cap] w (PostA l s w) :=
  if h : 60 < s.size ∨ 120 < l.length then apply_long A len cap l s w hl h else apply_in A len cap l s w hl hby hrd h
end Go.Proofs.Ythojojjdamchpaa
