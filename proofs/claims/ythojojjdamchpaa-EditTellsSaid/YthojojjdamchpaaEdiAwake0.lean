/-
  The examples of the chapter, as facts; what is kept while they are laid.
-/
import Derived.Test.YthojojjdamchpaaEdiLaw
namespace Go.Proofs.Ythojojjdamchpaa
open Go.RowKit Go.Shelf
set_option linter.unusedVariables false
set_option linter.unusedSimpArgs false

def cDear : Ed.Cst := ⟨1, 1, 3, 1⟩
def sROAD : ByteArray := ⟨#[82, 79, 65, 68]⟩
def sRAOD : ByteArray := ⟨#[82, 65, 79, 68]⟩
def sMAIN : ByteArray := ⟨#[77, 65, 73, 78]⟩
def sMAINE : ByteArray := ⟨#[77, 65, 73, 78, 69]⟩
def sMINE : ByteArray := ⟨#[77, 73, 78, 69]⟩
def sAB : ByteArray := ⟨#[65, 66]⟩
def sCA : ByteArray := ⟨#[67, 65]⟩
def sABC : ByteArray := ⟨#[65, 66, 67]⟩
def sA : ByteArray := ⟨#[65]⟩
def sB : ByteArray := ⟨#[66]⟩
def s0 : ByteArray := ⟨#[]⟩
theorem ex1 : distOf c1s sROAD sRAOD = 1 ∧ errOf c1s sROAD sRAOD = 0 ∧ pathOf c1s sROAD sRAOD = [(1, 0), (3, 0), (1, 0)] := by decide +kernel
theorem ex2 : distOf c1s sMAIN sMAINE = 1 ∧ errOf c1s sMAIN sMAINE = 0 ∧ pathOf c1s sMAIN sMAINE = [(1, 0), (1, 0), (1, 0), (1, 0), (5, 69)] := by decide +kernel
theorem ex3 : distOf c1s sAB s0 = 2 ∧ errOf c1s sAB s0 = 0 ∧ pathOf c1s sAB s0 = [(4, 0), (4, 0)] := by decide +kernel
theorem ex4 : distOf c1s sCA sABC = 3 ∧ errOf c1s sCA sABC = 0 ∧ pathOf c1s sCA sABC = [(2, 65), (2, 66), (5, 67)] := by decide +kernel
theorem ex5 : distOf cDear sA sB = 2 ∧ errOf cDear sA sB = 0 ∧ pathOf cDear sA sB = [(4, 0), (5, 66)] := by decide +kernel
theorem exw : withinD c1s sMAIN sMINE 1 = 0 ∧ withinB c1s sMAIN sMINE 1 = false ∧ errOf c1s sMAIN sMINE = 0 ∧ withinD c1s sMAIN sMINE 2 = 2 ∧ withinB c1s sMAIN sMINE 2 = true := by decide +kernel
theorem exk1 : kindsL (tx s0) [1, 3, 1] = [(1, 0), (3, 0), (1, 0)] := by decide +kernel
theorem exk2 : kindsL (tx ⟨#[69]⟩) [1, 1, 1, 1, 5] = [(1, 0), (1, 0), (1, 0), (1, 0), (5, 69)] := by decide +kernel
theorem exk3 : kindsL (tx s0) [4, 4] = [(4, 0), (4, 0)] := by decide +kernel
theorem exk4 : kindsL (tx sABC) [2, 2, 5] = [(2, 65), (2, 66), (5, 67)] := by decide +kernel
theorem exk5 : kindsL (tx sB) [4, 5] = [(4, 0), (5, 66)] := by decide +kernel
theorem exk6 : kindsL (tx s0) [3] = [(3, 0)] ∧ kindsL (tx s0) [1] = [(1, 0)] ∧ kindsL (tx sA) [2] = [(2, 65)] := by decide +kernel
theorem exa1 : appS [(3, 0)] sAB = ⟨#[66, 65]⟩ ∧ appE [(3, 0)] sAB = 0 := ⟨by rfl, by decide +kernel⟩
theorem exa2 : appE [(3, 0)] ⟨#[65, 65]⟩ = 60 := by decide +kernel
theorem exa3 : appE [(1, 0)] sAB = 60 := by decide +kernel
theorem exa4 : appE [(2, 65)] sA = 60 := by decide +kernel

/-- the dear costs' cells, and scripts that can be read -/
structure AW (w V : World) (q : Nat) (L : List (Option Addr × List (Nat × Nat))) : Prop where
  bel : Below w.heap.size w V
  dear : V.cell? ⟨q, 0, none⟩ = some (.int .i64 1) ∧ V.cell? ⟨q, 1, none⟩ = some (.int .i64 1) ∧ V.cell? ⟨q, 2, none⟩ = some (.int .i64 3) ∧ V.cell? ⟨q, 3, none⟩ = some (.int .i64 1)
  rd : ∀ p, p ∈ L → RdO V p.1 p.2
theorem AW.next {w V V' : World} {q : Nat} {L : List (Option Addr × List (Nat × Nat))} (h : AW w V q L) (hb : Below V.heap.size V V') : AW w V' q L :=
  ⟨h.bel.trans (hb.mono h.bel.size), ⟨cell_keep h.dear.1 hb, cell_keep h.dear.2.1 hb, cell_keep h.dear.2.2.1 hb, cell_keep h.dear.2.2.2 hb⟩, fun p hp => (h.rd p hp).below hb⟩
theorem AW.alloc {w V : World} {q : Nat} {L : List (Option Addr × List (Nat × Nat))} (h : AW w V q L) (o : Obj) : AW w (V.alloc o) q L := h.next (below_new V o)
theorem AW.drew {w V : World} {q : Nat} {L : List (Option Addr × List (Nat × Nat))} (h : AW w V q L) : AW w V.drew q L := h.next (Below.refl _ _).drew
theorem AW.more {w V V' : World} {q : Nat} {L : List (Option Addr × List (Nat × Nat))} {o : Obj} {A : Option Addr} {n c : Nat} {l : List (Nat × Nat)} (h : AW w V q L) (hb : Below (V.alloc o).heap.size (V.alloc o) V') (ho : OwnO (V.alloc o).heap.size 51 V' A n c l) : AW w V' q ((A, l) :: L) := by
  have h1 := (h.alloc o).next hb
  refine ⟨h1.bel, h1.dear, fun p hp => ?_⟩
  rcases List.mem_cons.1 hp with rfl | hp
  · exact ho.rd
  · exact h1.rd p hp
theorem AW.add {w V V' : World} {q base : Nat} {L : List (Option Addr × List (Nat × Nat))} {A : Option Addr} {n c : Nat} {l : List (Nat × Nat)} (h : AW w V q L) (hb : Below V.heap.size V V') (ho : OwnO base 51 V' A n c l) : AW w V' q ((A, l) :: L) := by
  have h1 := h.next hb
  refine ⟨h1.bel, h1.dear, fun p hp => ?_⟩
  rcases List.mem_cons.1 hp with rfl | hp
  · exact ho.rd
  · exact h1.rd p hp
theorem bytes_new (V : World) (ks : List Nat) (i : Nat) (h : i < ks.length) : (V.alloc (.cells (ks.map fun (k : Nat) => Value.int .u8 k).toArray 5)).cell? ⟨V.heap.size, i, none⟩ = some (.int .u8 (ks[i])) := by
  rw [cell_of_row _ _ i _ _ _ (heap_alloc_new V _)]
  simp [h]
/-- kinds, of bytes that have just been laid -/
theorem kinds_new (bs : ByteArray) (hbs : bs.size ≤ 1000) (ks : List Nat) (n c : Nat) (hn : ks.length = n) (hn2 : n ≤ 1000) (l : List (Nat × Nat)) (hl : kindsL (tx bs) ks = l) (V : World) :
    Calls Try.prog 7 #[.string bs, .slice (some ⟨V.heap.size, 0, none⟩) n c] (V.alloc (.cells (ks.map fun (k : Nat) => Value.int .u8 k).toArray 5)) (PostK l (V.alloc (.cells (ks.map fun (k : Nat) => Value.int .u8 k).toArray 5))) := by
  subst hl
  exact kinds_any bs V.heap.size n c ks _ hbs hn hn2 (bytes_new V ks)
/-- kinds, of bytes that have been laid before -/
theorem kinds_old (bs : ByteArray) (hbs : bs.size ≤ 1000) (ks : List Nat) (n c : Nat) (hn : ks.length = n) (hn2 : n ≤ 1000) (l : List (Nat × Nat)) (hl : kindsL (tx bs) ks = l) (V X : World) (hX : Below (V.alloc (.cells (ks.map fun (k : Nat) => Value.int .u8 k).toArray 5)).heap.size (V.alloc (.cells (ks.map fun (k : Nat) => Value.int .u8 k).toArray 5)) X) :
    Calls Try.prog 7 #[.string bs, .slice (some ⟨V.heap.size, 0, none⟩) n c] X (PostK l X) := by
  subst hl
  exact kinds_any bs V.heap.size n c ks _ hbs hn hn2 (fun i hi => cell_keep (bytes_new V ks i hi) hX)
end Go.Proofs.Ythojojjdamchpaa
