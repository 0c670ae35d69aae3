/-
  hits: the iterator over the words within a limit.
-/
import Derived.Test.YtioncjnjhmnlaaaLexTold
namespace Go.Proofs.Ytioncjnjhmnlaaa
open Go.RowKit Go.Shelf Lx
set_option linter.unusedVariables false
set_option linter.unusedSimpArgs false

/-- the hits of the first k words, by their numbers -/
def HL (c : Ed.Cst) (ws : List ByteArray) (s : ByteArray) (most : Int) (k : Nat) : List (Int × Int) :=
  (List.range k).filterMap fun i => if Ed.D c (tx s) (tx (ws.getD i ByteArray.empty)) ≤ most then some ((i : Int), Ed.D c (tx s) (tx (ws.getD i ByteArray.empty))) else none
theorem HL_yes {c : Ed.Cst} {ws : List ByteArray} {s : ByteArray} {most : Int} {k : Nat} (h : Ed.D c (tx s) (tx (ws.getD k ByteArray.empty)) ≤ most) : HL c ws s most (k + 1) = HL c ws s most k ++ [((k : Int), Ed.D c (tx s) (tx (ws.getD k ByteArray.empty)))] := by
  unfold HL
  rw [List.range_succ, List.filterMap_append]
  congr 1
  rw [List.filterMap_cons, if_pos h]; rfl
theorem HL_no {c : Ed.Cst} {ws : List ByteArray} {s : ByteArray} {most : Int} {k : Nat} (h : ¬ Ed.D c (tx s) (tx (ws.getD k ByteArray.empty)) ≤ most) : HL c ws s most (k + 1) = HL c ws s most k := by
  unfold HL
  rw [List.range_succ, List.filterMap_append, List.filterMap_cons, if_neg h]
  exact List.append_nil _
theorem HL_len (c : Ed.Cst) (ws : List ByteArray) (s : ByteArray) (most : Int) (k : Nat) : (HL c ws s most k).length ≤ k := by
  have := List.length_filterMap_le (fun i => if Ed.D c (tx s) (tx (ws.getD i ByteArray.empty)) ≤ most then some ((i : Int), Ed.D c (tx s) (tx (ws.getD i ByteArray.empty))) else none) (List.range k)
  rwa [List.length_range] at this
theorem HL_mem {c : Ed.Cst} {ws : List ByteArray} {s : ByteArray} {most : Int} {k : Nat} {x : Int × Int} : x ∈ HL c ws s most k ↔ ∃ i : Nat, i < k ∧ Ed.D c (tx s) (tx (ws.getD i ByteArray.empty)) ≤ most ∧ x = ((i : Int), Ed.D c (tx s) (tx (ws.getD i ByteArray.empty))) := by
  unfold HL
  rw [List.mem_filterMap]
  constructor
  · rintro ⟨i, hi, h⟩
    by_cases hd : Ed.D c (tx s) (tx (ws.getD i ByteArray.empty)) ≤ most
    · rw [if_pos hd] at h; cases h
      exact ⟨i, List.mem_range.1 hi, hd, rfl⟩
    · rw [if_neg hd] at h; cases h
  · rintro ⟨i, hi, hd, rfl⟩
    exact ⟨i, List.mem_range.2 hi, by rw [if_pos hd]⟩
/-- all blocks below n but one are as they were -/
structure KN (q n : Nat) (X Y : World) : Prop where
  size : X.heap.size ≤ Y.heap.size
  same : ∀ (k : Nat) (o : Obj), k ≠ q → k < n → X.heap[k]? = some o → Y.heap[k]? = some o
theorem KN.trans {q n : Nat} {X Y Z : World} (h : KN q n X Y) (g : KN q n Y Z) : KN q n X Z := ⟨Nat.le_trans h.size g.size, fun k o hk hl ho => g.same k o hk hl (h.same k o hk hl ho)⟩
theorem KN.below {q n : Nat} {X Y : World} (hb : Below X.heap.size X Y) : KN q n X Y := ⟨hb.size, fun k o _ _ ho => heap_keep ho hb⟩
theorem KN.putObj {q n : Nat} (X : World) (k : Nat) (o' : Obj) (h : n ≤ k) : KN q n X (X.putObj k o') := ⟨by simp, fun j u _ hj ho => (World.putObj_heap_other (by omega)).trans ho⟩
theorem KN.cell {q n b o : Nat} {X Y : World} {v : Value} (h : KN q n X Y) (hq : b ≠ q) (hn : b < n) (hc : X.cell? ⟨b, o, none⟩ = some v) : Y.cell? ⟨b, o, none⟩ = some v := by
  obtain ⟨u, hu, -⟩ := cells_of hc
  have h2 := h.same b u hq hn hu
  unfold World.cell? at *
  simp only at *
  rw [hu] at hc; rw [h2]; exact hc
/-- what the iterator has caught -/
structure CapH (c : Ed.Cst) (ws : List ByteArray) (s : ByteArray) (most : Int) (x B q n : Nat) (A : Option Addr) (cp : Nat) (w : World) : Prop where
  ob : w.cell? ⟨B, 0, none⟩ = some (.pointer (some ⟨x, 0, none⟩))
  tx : w.cell? ⟨B + 1, 0, none⟩ = some (.string s)
  c0 : w.cell? ⟨B + 2, 0, none⟩ = some (.int .i64 c.ins)
  c1 : w.cell? ⟨B + 2, 1, none⟩ = some (.int .i64 c.del)
  c2 : w.cell? ⟨B + 2, 2, none⟩ = some (.int .i64 c.chg)
  c3 : w.cell? ⟨B + 2, 3, none⟩ = some (.int .i64 c.swp)
  mo : w.cell? ⟨B + 3, 0, none⟩ = some (.int .i64 most)
  lex : w.cell? ⟨x, 0, none⟩ = some (.slice A ws.length cp)
  wds : 0 < ws.length → ∃ b off, A = some ⟨b, off, none⟩ ∧ b ≠ q ∧ b < n ∧ ∀ i, i < ws.length → w.cell? ⟨b, off + i, none⟩ = some (.string (ws.getD i ByteArray.empty))
  lx : x ≠ q ∧ x < n
  lb : q < B ∧ B + 3 < n
theorem CapH.kn {c : Ed.Cst} {ws : List ByteArray} {s : ByteArray} {most : Int} {x B q n : Nat} {A : Option Addr} {cp : Nat} {X Y : World} (h : CapH c ws s most x B q n A cp X) (k : KN q n X Y) : CapH c ws s most x B q n A cp Y :=
  have hb := h.lb
  ⟨k.cell (by omega) (by omega) h.ob, k.cell (by omega) (by omega) h.tx, k.cell (by omega) (by omega) h.c0, k.cell (by omega) (by omega) h.c1, k.cell (by omega) (by omega) h.c2, k.cell (by omega) (by omega) h.c3, k.cell (by omega) (by omega) h.mo, k.cell h.lx.1 h.lx.2 h.lex,
    fun h0 => by obtain ⟨b, off, e, h1, h2, h3⟩ := h.wds h0; exact ⟨b, off, e, h1, h2, fun i hi => k.cell h1 h2 (h3 i hi)⟩, h.lx, h.lb⟩
set_option maxHeartbeats 1000000 in
theorem hits_any (x : Nat) (s : ByteArray) (c : Ed.Cst) (most : Int) (w : World) :
    Calls Try.prog 24 #[.pointer (some ⟨x, 0, none⟩), .string s, .agg #[.int .i64 c.ins, .int .i64 c.del, .int .i64 c.chg, .int .i64 c.swp], .int .i64 most] w fun e w' =>
      e = .returned (.func (.func 36) #[] #[.pointer (some ⟨w.heap.size, 0, none⟩), .pointer (some ⟨w.heap.size + 1, 0, none⟩), .pointer (some ⟨w.heap.size + 2, 0, none⟩), .pointer (some ⟨w.heap.size + 3, 0, none⟩)]) ∧
      Below w.heap.size w w' ∧ w'.heap.size = w.heap.size + 4 ∧ w'.cell? ⟨w.heap.size, 0, none⟩ = some (.pointer (some ⟨x, 0, none⟩)) ∧ w'.cell? ⟨w.heap.size + 1, 0, none⟩ = some (.string s) ∧
      (w'.cell? ⟨w.heap.size + 2, 0, none⟩ = some (.int .i64 c.ins) ∧ w'.cell? ⟨w.heap.size + 2, 1, none⟩ = some (.int .i64 c.del) ∧ w'.cell? ⟨w.heap.size + 2, 2, none⟩ = some (.int .i64 c.chg) ∧ w'.cell? ⟨w.heap.size + 2, 3, none⟩ = some (.int .i64 c.swp)) ∧
      w'.cell? ⟨w.heap.size + 3, 0, none⟩ = some (.int .i64 most) := by
  go_enter Try.func24, Try.ntmps24
  go_wp2
  go_ret
  refine ⟨rfl, ?_, by simp, by go_simp, by go_simp, ⟨by go_simp, by go_simp, by go_simp, by go_simp⟩, by go_simp⟩
  exact (((((Below.refl _ w).alloc (Nat.le_refl _) _).alloc (by simp) _).alloc (by simp; omega) _).alloc (by simp; omega) _)
set_option maxRecDepth 100000 in
set_option maxHeartbeats 4000000 in
theorem hits_told (c : Ed.Cst) (hc : c.ok) (ws : List ByteArray) (hw : Wds ws) (s : ByteArray) (hs : s.size ≤ 60) (most : Int) (x B q n : Nat) (A : Option Addr) (cp : Nat) (w0 : World) (hn : n ≤ w0.heap.size) (hcap : CapH c ws s most x B q n A cp w0) :
    TolB Try.prog 36 #[.pointer (some ⟨B, 0, none⟩), .pointer (some ⟨B + 1, 0, none⟩), .pointer (some ⟨B + 2, 0, none⟩), .pointer (some ⟨B + 3, 0, none⟩)] (fun y : Int × Int => #[.agg #[.int .i64 y.1, .int .i64 y.2]])
      (fun pre y _ => pre.length ≤ 1000) (KN q n) (fun xs => xs = HL c ws s most ws.length) (fun _ => True) w0 := by
  intro l J Jx W hW hJ hJx hY h0
  have hcw : CapH c ws s most x B q n A cp W := hcap.kn (KN.below hW)
  have HC := Lib.hid hcw
  have HY := Lib.hid hY; have H0 := Lib.hid h0; have HJ := Lib.hid hJ
  have HOK := Lib.hid hc; have HWD := Lib.hid hw
  have c1 := hcw.ob
  have c2 := hcw.lex
  have hmany := hw.many
  clear hY hJ hJx h0 hW hcap hcw hc hw
  refine (callsIn_wide (n := 5)).1 ?_
  refine callsIn_of_wp Try.func36 rfl trivial ?_ rfl
  simp only [Try.ntmps36, List.size_toArray, List.length_cons, List.length_nil, Nat.reduceAdd, Nat.reduceSub, Array.replicate_succ, Array.replicate_zero, List.push_toArray, List.append_toArray, List.nil_append, List.cons_append]
  gi_wp2
  clear c1 c2
  gi_loopw [16] (fun i wr => ∃ k : Nat, k ≤ ws.length ∧ i = .int .i64 k ∧ Hid (J (HL c ws s most k) wr) ∧ Hid (KN q n W wr)) (fun i _ => ws.length - (intOf i).toNat)
  case atStart => exact ⟨0, Nat.zero_le _, rfl, H0, Lib.hid ⟨Nat.le_refl _, fun _ _ _ _ h => h⟩⟩
  case round =>
    obtain ⟨k, hk, rfl, hJs, hkn⟩ := hrel
    by_cases hlt : k < ws.length
    · have hcr := HC.out.kn hkn.out
      obtain ⟨b, off, rfl, -, -, hcx⟩ := hcr.wds (by omega)
      have hck := hcx k hlt
      have d1 := hcr.tx; have d2 := hcr.mo
      have q0 := hcr.c0; have q1 := hcr.c1; have q2 := hcr.c2; have q3 := hcr.c3
      have hwk : (ws.getD k ByteArray.empty).size ≤ 40 := by
        have := (HWD.out.size (tx (ws.getD k ByteArray.empty)) (by have := txs_at ws k hlt; exact List.mem_of_getElem? this)).2
        rwa [tx_len] at this
      have hyes := @HL_yes c ws s most k
      have hno := @HL_no c ws s most k
      have HIN := fun V => within_any c s (ws.getD k ByteArray.empty) most V
      have he : errOf c s (ws.getD k ByteArray.empty) = 0 := by
        unfold errOf
        rw [if_pos HOK.out, if_neg (by omega)]
      have hwy := fun h => withinD_yes (most := most) he h
      have hwn := fun h => withinD_no (c := c) (a := s) (b := ws.getD k ByteArray.empty) (most := most) h
      generalize ws.getD k ByteArray.empty = u at hck hwk hyes hno HIN he hwy hwn
      have HIN := Lib.hid HIN
      unfold PostW cstV at HIN
      clear hcr hcx
      have hl1 : (HL c ws s most k).length ≤ 1000 := by have := HL_len c ws s most k; omega
      by_cases hd : Ed.D c (tx s) (tx u) ≤ most
      · obtain ⟨v1, v2⟩ := hwy hd
        have hyes2 := hyes hd
        clear hyes
        rw [v1, v2, he] at HIN
        generalize Ed.D c (tx s) (tx u) = d at *
        have HYES := Lib.hid hyes2
        clear hyes2 hno hwy hwn v1 v2
        gi_wp2_with (refine ⟨trivial, ?_⟩; gi_at_call 37; (with_reducible refine (callsIn_wide.2 (HIN.out _)).mono ?_); rintro e w2 ⟨rfl, h2⟩; have hj2 := HJ.out _ _ _ hJs.out h2; have HB2 := Lib.hid h2; obtain ⟨fn, tmps, assign, body, hy, hR⟩ := HY.out (HL c ws s most k) ((k : Int), d) w2 hj2 hl1; have HR := Lib.hid hR; clear hj2 h2 hR)
        refine (roundIn_any HR.out).mono ?_
        rintro e W3 (⟨rfl, hJ3, hk3⟩ | ⟨rfl, hJx3⟩)
        · have HJ3 := Lib.hid hJ3; have HK3 := Lib.hid hk3
          clear hJ3 hk3
          gi_wp2
          go_roundw
          case rel => exact ⟨k + 1, by omega, by go_num, by rw [HYES.out]; exact HJ3, Lib.hid ((hkn.out.trans (KN.below HB2.out)).trans HK3.out)⟩
          case measure => simp [intOf]; omega
        · gi_wp2
          refine bodyPost_ret (results_none rfl _ _ _) rfl ?_
          exact ⟨⟨_, rfl⟩, .inr ⟨_, trivial, hJx3⟩⟩
      · obtain ⟨v1, v2⟩ := hwn hd
        have hno2 := hno hd
        clear hno
        rw [v1, v2, he] at HIN
        generalize Ed.D c (tx s) (tx u) = d at *
        have HNO := Lib.hid hno2
        clear hyes hno2 hwy hwn v1 v2 hd
        gi_wp2_with (refine ⟨trivial, ?_⟩; gi_at_call 37; (with_reducible refine (callsIn_wide.2 (HIN.out _)).mono ?_); rintro e w2 ⟨rfl, h2⟩; have hj2 := Lib.hid (HJ.out _ _ _ hJs.out h2); have HB2 := Lib.hid h2; clear h2)
        refine ⟨fun f hf => (by cases hf), ?_⟩
        gi_wp2
        go_roundw
        case rel => exact ⟨k + 1, by omega, by go_num, by rw [HNO.out]; exact hj2, Lib.hid (hkn.out.trans (KN.below HB2.out))⟩
        case measure => simp [intOf]; omega
    · obtain rfl : k = ws.length := by omega
      gi_wp2
      go_end0
      exact ⟨⟨_, rfl⟩, .inl ⟨_, rfl, hJs.out⟩⟩
end Go.Proofs.Ytioncjnjhmnlaaa
