/-
  The iterator over the words of lines.
-/
import Derived.Test.YtcponhdeffnndaaGreatDoorTokLn
import Derived.Test.YtcponhdeffnndaaGreatDoorTokPos
namespace Go.Proofs.YtcponhdeffnndaaGreatDoor
open Go.RowKit Go.Shelf
set_option linter.unusedVariables false
set_option linter.unusedSimpArgs false
attribute [local go_sem] Oper.semAt_some

def encT (x : Tk.T) : Array Value := #[.agg #[.string ⟨x.text.toArray⟩, .int .i64 x.line, .int .i64 x.at', .int .u16 0]]
/-- blocks of cells below N stay, but for those from p to below r, and so do all of texts -/
structure KT (p r N : Nat) (X Y : World) : Prop where
  size : X.heap.size ≤ Y.heap.size
  low : ∀ (k : Nat) (o : Obj), k < N → ¬ (p ≤ k ∧ k < r) → X.heap[k]? = some o → o.isCells = true → Y.heap[k]? = some o
  str : ∀ (k : Nat) (cs : Array Value) (fr : Nat × Nat), X.heap[k]? = some (.cells cs 9 fr) → Y.heap[k]? = some (.cells cs 9 fr)
theorem KT.trans {p r N : Nat} {X Y Z : World} (h : KT p r N X Y) (g : KT p r N Y Z) : KT p r N X Z :=
  ⟨Nat.le_trans h.size g.size, fun k o h1 h2 ho hc => g.low k o h1 h2 (h.low k o h1 h2 ho hc) hc, fun k cs fr ho => g.str k cs fr (h.str k cs fr ho)⟩
theorem KT.below {p r N : Nat} {X Y : World} (hb : Below X.heap.size X Y) : KT p r N X Y := ⟨hb.size, fun k o _ _ ho _ => heap_keep ho hb, fun k cs fr ho => heap_keep ho hb⟩
theorem KT.putObj {p r N : Nat} (X : World) (k : Nat) (o o' : Obj) (h : X.heap[k]? = some o) (hc : o.isCells = false) : KT p r N X (X.putObj k o') := by
  have hne : ∀ j u, X.heap[j]? = some u → u.isCells = true → j ≠ k := fun j u h1 h2 e => by subst e; rw [h] at h1; cases h1; rw [hc] at h2; cases h2
  exact ⟨by simp, fun j u _ _ h1 h2 => (World.putObj_heap_other (hne j u h1 h2)).trans h1, fun j cs fr h1 => (World.putObj_heap_other (hne j _ h1 rfl)).trans h1⟩
theorem cells_of {W : World} {b o : Nat} {v : Value} (h : W.cell? ⟨b, o, none⟩ = some v) : ∃ u : Obj, W.heap[b]? = some u ∧ u.isCells = true := by
  unfold World.cell? at h
  cases ho : W.heap[b]? with
  | none => simp [ho] at h
  | some u => exact ⟨u, rfl, by cases u <;> simp_all [Obj.isCells]⟩
theorem KT.cell {p r N b o : Nat} {X Y : World} {v : Value} (h : KT p r N X Y) (h1 : b < N) (h2 : ¬ (p ≤ b ∧ b < r)) (hc : X.cell? ⟨b, o, none⟩ = some v) : Y.cell? ⟨b, o, none⟩ = some v := by
  obtain ⟨u, hu, hk⟩ := cells_of hc
  rw [← hc]; exact World.cell?_of_block ((h.low b u h1 h2 hu hk).trans hu.symm)
/-- lines that may be divided -/
structure Ok (ls : List (List UInt8)) : Prop where
  few : ls.length ≤ 6
  len : ∀ l ∈ ls, l.length ≤ 60
  rgt : ∀ l ∈ ls, Fo.fold l = l
/-- what the iterator has caught -/
structure CapW (p r N B : Nat) (A : Option Addr) (c : Nat) (ls : List (List UInt8)) (w : World) : Prop where
  bx : w.cell? ⟨B, 0, none⟩ = some (.slice A ls.length c)
  bn : B < N ∧ ¬ (p ≤ B ∧ B < r)
  rd : 0 < ls.length → ∃ b off, A = some ⟨b, off, none⟩ ∧ (b < N ∧ ¬ (p ≤ b ∧ b < r)) ∧ ∀ i, i < ls.length → w.cell? ⟨b, off + i, none⟩ = some (.string ⟨(ls.getD i []).toArray⟩)
theorem CapW.kt {p r N B : Nat} {A : Option Addr} {c : Nat} {ls : List (List UInt8)} {X Y : World} (h : CapW p r N B A c ls X) (k : KT p r N X Y) : CapW p r N B A c ls Y :=
  ⟨k.cell h.bn.1 h.bn.2 h.bx, h.bn, fun h0 => by obtain ⟨b, off, e, h1, h2⟩ := h.rd h0; exact ⟨b, off, e, h1, fun i hi => k.cell h1.1 h1.2 (h2 i hi)⟩⟩
theorem Strs.blk {base : Nat} {w : World} {A : Option Addr} {n c : Nat} {l : List (List UInt8)} (h : Strs base w A n c l) {p r N : Nat} {Y : World} (k : KT p r N w Y) : Strs base Y A n c l := by
  refine ⟨h.1, h.2.1, ?_⟩
  rcases h.2.2 with h2 | ⟨g, cap, cur, h3, h4, h5, h6⟩
  · exact .inl h2
  · exact .inr ⟨g, cap, cur, h3, h4, k.str _ _ _ h5, h6⟩
theorem words_box (A : Option Addr) (n c : Nat) (w : World) : Calls Tryz.prog 67 #[.slice A n c] w fun e w' => e = .returned (.func (.func 135) #[] #[.pointer (some ⟨w.heap.size, 0, none⟩)]) ∧ w' = w.alloc (.cells #[.slice A n c] 23) := by
  go_enter Tryz.func67, Tryz.ntmps67
  go_wp2
  go_ret
  exact ⟨rfl, rfl⟩
set_option maxRecDepth 100000 in
set_option maxHeartbeats 2000000 in
theorem words_told (ls : List (List UInt8)) (hok : Ok ls) (p r N B : Nat) (A : Option Addr) (c : Nat) (w0 : World) (hcap : CapW p r N B A c ls w0) :
    TolC Tryz.prog 135 #[.pointer (some ⟨B, 0, none⟩)] encT
      (fun pre x _ => x.text.length ≤ 60 ∧ ∃ q, Tk.tokensOf ls = pre ++ x :: q) (KT p r N) (fun X Y => Below X.heap.size X Y) (fun xs => xs = Tk.tokensOf ls) (fun pre => ∃ q, Tk.tokensOf ls = pre ++ q) w0 := by
  intro l J Jx W hW hJ hJx hY h0
  have hcw := hcap.kt (KT.below hW)
  have HC := Lib.hid hcw
  have HY := Lib.hid hY; have HJ := Lib.hid hJ; have H0 := Lib.hid h0; have HOK := Lib.hid hok
  have c1 := hcw.bx
  obtain ⟨n, hn⟩ : ∃ n, ls.length = n := ⟨_, rfl⟩
  have HN := Lib.hid hn
  rw [hn] at c1
  have hn6 : n ≤ 6 := by rw [← hn]; exact hok.few
  clear hY hJ hJx h0 hW hcap hcw hn hok
  refine (callsIn_wide (n := 5)).1 ?_
  refine callsIn_of_wp Tryz.func135 rfl trivial ?_ rfl
  simp only [Tryz.ntmps135, List.size_toArray, List.length_cons, List.length_nil, Nat.reduceAdd, Nat.reduceSub, Array.replicate_succ, Array.replicate_zero, List.push_toArray, List.append_toArray, List.nil_append, List.cons_append]
  gi_wp2
  clear c1
  gi_loopw [3, 4, 5, 7, 10] (fun _ _ _ _ s10 wr => ∃ k : Nat, k ≤ n ∧ s10 = .int .i64 k ∧ Hid (J (Tk.tokensFrom 0 (ls.take k)) wr) ∧ Hid (KT p r N W wr)) (fun _ _ _ _ s10 _ => n - (intOf s10).toNat)
  case atStart => exact ⟨0, Nat.zero_le _, rfl, H0, Lib.hid ⟨Nat.le_refl _, fun _ _ _ _ h _ => h, fun _ _ _ h => h⟩⟩
  case round =>
    obtain ⟨k, hk, rfl, hJs, hkt⟩ := hrel
    by_cases hlt : k < n
    · have hkl : k < ls.length := by rw [HN.out]; exact hlt
      have hlt2 : (k : Int) < n := by omega
      have hle : ¬ n ≤ k := by omega
      obtain ⟨b, off, rfl, -, hcx⟩ := (HC.out.kt hkt.out).rd (by omega)
      have hck := hcx k hkl
      have hmem : ls.getD k [] ∈ ls := by rw [List.getD_eq_getElem?_getD, List.getElem?_eq_getElem hkl]; exact List.getElem_mem hkl
      have h60 := HOK.out.len _ hmem
      have hrg := HOK.out.rgt _ hmem
      have hnx := fun j => Tk.next_pre ls k j hkl
      have hft := Tk.from_take ls 0 k hkl
      rw [Nat.zero_add] at hft
      obtain ⟨ln, hln⟩ : ∃ ln, ls.getD k [] = ln := ⟨_, rfl⟩
      rw [hln] at hck h60 hrg hnx hft
      obtain ⟨LB, hLB⟩ : ∃ LB : ByteArray, LB = ⟨ln.toArray⟩ := ⟨_, rfl⟩
      rw [← hLB] at hck
      have hwd := fun V => words_any LB V (by rw [hLB, size_of]; omega)
      have hLd : LB.data.toList = ln := by rw [hLB]
      rw [hLd] at hwd
      have hps := fun j (h : j ≤ (Fo.words ln).length) => Tk.right_pos hrg j h
      have hwl := fun j (h : j < (Fo.words ln).length) => (Tk.right_word hrg j h).1
      have hcnt := Tk.right_count hrg
      have htt := fun j (h : j < (Fo.words ln).length) => Tk.toks_take k (Fo.words ln) 0 j h
      obtain ⟨ws, hws⟩ : ∃ ws, Fo.words ln = ws := ⟨_, rfl⟩
      rw [hws] at hwd hnx hft hps hcnt
      simp only [hws] at hwl htt
      simp only [Nat.zero_add] at htt
      obtain ⟨P0, hP0⟩ : ∃ P0, Tk.tokensFrom 0 (ls.take k) = P0 := ⟨_, rfl⟩
      have HWD := Lib.hid hwd; have HNX := Lib.hid hnx; have HFT := Lib.hid hft; have HPS := Lib.hid hps; have HWL := Lib.hid hwl; have HTT := Lib.hid htt; have HP0 := Lib.hid hP0
      have hm62 : ws.length ≤ 61 := by omega
      have HM62 := Lib.hid hm62; have H60 := Lib.hid h60
      clear hwd hnx hft hps hwl htt hP0 hLB hLd hrg hcx hln hmem hws hcnt hm62 h60
      gi_wp2_with (refine ⟨trivial, ?_⟩; gi_at_call 27; (with_reducible refine (callsIn_wide.2 (HWD.out _)).mono ?_); rintro e w5 ⟨A2, n2, c2, rfl, hS, hb⟩; have HS := Lib.hid hS; have H5 := Lib.hid hb; clear hS hb)
      obtain ⟨wo, rfl⟩ : ∃ X, X = wr := ⟨_, rfl⟩
      have hlen2 := HS.out.len
      have HL2 := Lib.hid hlen2
      have h61 := HM62.out
      rw [hlen2] at h61
      have hj5 := HJ.out _ _ _ hJs.out H5.out
      rw [HP0.out] at hj5
      have HJ5 := Lib.hid (show J (P0 ++ Tk.toks k 0 (ws.take 0)) w5 by simpa [Tk.toks] using hj5)
      have HK5 := Lib.hid (hkt.out.trans (KT.below H5.out))
      clear hlen2 hj5
      gi_loopw [5, 7, 18] (fun s5 _ s18 wy => ∃ j : Nat, j ≤ n2 ∧ s18 = .int .i64 j ∧ s5 = .int .i64 (Tk.pos ws j) ∧ Hid (J (P0 ++ Tk.toks k 0 (ws.take j)) wy) ∧ Hid (KT p r N w5 wy)) (fun _ _ s18 _ => n2 - (intOf s18).toNat)
      case atStart => exact ⟨0, Nat.zero_le _, rfl, rfl, HJ5, Lib.hid ⟨Nat.le_refl _, fun _ _ _ _ h _ => h, fun _ _ _ h => h⟩⟩
      case round =>
        obtain ⟨j, hj, rfl, rfl, hJy, hky⟩ := hrel
        by_cases hjl : j < n2
        · have hjw : j < ws.length := by rw [HL2.out]; exact hjl
          have hjl2 : (j : Int) < n2 := by omega
          have hjle : ¬ n2 ≤ j := by omega
          obtain ⟨b2, off2, hA2, -, hc2⟩ := (HS.out.blk hky.out).rd (by omega)
          subst hA2
          have hcw2 := hc2 j hjw
          have hpos := HPS.out j (by omega)
          have hwlen := HWL.out j hjw
          have htt := HTT.out j hjw
          obtain ⟨q1, hq1⟩ := HNX.out (j + 1)
          have hpp : Tk.pos ws (j + 1) = Tk.pos ws j + (ws.getD j []).length + 1 := rfl
          rw [htt, HP0.out] at hq1
          obtain ⟨P, hP⟩ : ∃ P, Tk.pos ws j = P := ⟨_, rfl⟩
          rw [hP] at hpos htt hq1 hpp ⊢
          obtain ⟨wd, hwd⟩ : ∃ wd, ws.getD j [] = wd := ⟨_, rfl⟩
          rw [hwd] at hcw2 hwlen htt hq1 hpp
          obtain ⟨WB, hWB⟩ : ∃ WB : ByteArray, WB = ⟨wd.toArray⟩ := ⟨_, rfl⟩
          rw [← hWB] at hcw2
          have hWs : WB.size = wd.length := by rw [hWB, size_of]
          have h60 := H60.out
          have hw60 : WB.size ≤ 60 := by omega
          have hP61 : P ≤ 61 := by omega
          obtain ⟨fn, tmps, assign, body, hy, hR⟩ := HY.out (P0 ++ Tk.toks k 0 (ws.take j)) ⟨wd, k, P⟩ wr hJy.out ⟨by show wd.length ≤ 60; omega, q1, by rw [hq1]; simp⟩
          have HR := Lib.hid hR; have HQ1 := Lib.hid hq1
          unfold encT at hy
          simp only [← hWB] at hy
          have HT := Lib.hid htt; have HPP := Lib.hid hpp; have HWs := Lib.hid hWs
          clear hc2 hP hwd hWB hR htt hpp hq1 hwlen hpos h60 hWs hjw
          gi_wp2
          refine (roundIn_any HR.out).mono ?_
          rintro e W3 (⟨rfl, hJ3, hk3⟩ | ⟨rfl, hJx3⟩)
          · have HJ3 := Lib.hid hJ3; have HK3 := Lib.hid (hky.out.trans hk3)
            clear hJ3 hk3 hy hcw2
            gi_wp2
            go_roundw
            case rel => exact ⟨j + 1, by omega, by go_num, by rw [HPP.out, ← HWs.out]; go_num, by rw [HT.out, ← List.append_assoc]; exact HJ3, HK3⟩
            case measure => simp [intOf]; omega
          · have HJ3 := Lib.hid hJx3
            clear hJx3
            gi_wp2
            refine bodyPost_ret (results_none rfl _ _ _) rfl ?_
            exact ⟨⟨_, rfl⟩, .inr ⟨_, ⟨q1, by rw [HQ1.out]; simp⟩, HJ3.out⟩⟩
        · obtain rfl : j = n2 := by omega
          have hall : ws.take j = ws := List.take_of_length_le (by rw [HL2.out]; exact Nat.le_refl _)
          have hjf := hJy.out
          rw [hall, ← HP0.out, ← HFT.out] at hjf
          have HJF := Lib.hid hjf
          clear hall hjf
          gi_wp2
          go_roundw
          case rel => exact ⟨k + 1, by omega, by go_num, HJF, Lib.hid (HK5.out.trans hky.out)⟩
          case measure => simp [intOf]; omega
    · obtain rfl : k = n := by omega
      have hall : ls.take k = ls := List.take_of_length_le (by rw [HN.out]; exact Nat.le_refl _)
      have HALL := Lib.hid hall
      clear hall
      gi_wp2
      go_end0
      exact ⟨⟨_, rfl⟩, .inl ⟨_, by rw [HALL.out]; rfl, hJs.out⟩⟩
end Go.Proofs.YtcponhdeffnndaaGreatDoor
