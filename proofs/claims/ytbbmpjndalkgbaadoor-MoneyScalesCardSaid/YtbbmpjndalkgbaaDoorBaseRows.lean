/-
  Three rows of ints of one's own that grow beside one another.
-/
import Derived.Maps.AppendAt
import Derived.Test.YtbbmpjndalkgbaaDoorBaseApp
namespace Go.Proofs.YtbbmpjndalkgbaaDoor
open Go.RowKit
set_option linter.unusedVariables false

def Ap (a b : Value) : Prop := ∀ g, a.ownBlock = some g → b.ownBlock = some g → False
theorem Ap.symm {a b : Value} (h : Ap a b) : Ap b a := fun g x y => h g y x
def Ow (w : World) (base : Nat) (v : Value) (xs : List Int) : Prop := w.ownsRow base 3 1 v xs.length (xs.map (Value.int .i64))

theorem wpList_app2 {ops : Array Oper} {rest : List Oper} {o : Oper} {a : Act} {Q : Exit → Act → World → Prop} (w : World) (hg : o.guard = none) (s x : Operand)
    (hop : o.op = .call { callee := .builtin .append, args := #[s, x], argTypes := #[22, 22] }) (base : Nat) (v : Value) (xs : List Int) (hv : a.eval s = v)
    (hown : w.ownsRow base 3 1 v xs.length (xs.map (Value.int .i64))) (g : Nat) (y : Int) (hx : a.eval x = .slice (some ⟨g, 0, none⟩) 1 1) (hc : w.cell? ⟨g, 0, none⟩ = some (.int .i64 y)) (hl : xs.length + 1 ≤ 1000000000) (hb : base ≤ w.heap.size)
    (hK : ∀ v' w', w'.ownsRow base 3 1 v' (xs ++ [y]).length ((xs ++ [y]).map (Value.int .i64)) → w.grownBy w' v.ownBlock → (v'.ownBlock = v.ownBlock ∨ v'.ownBlock = some w.heap.size) → wpList Tryd.prog ops Q rest (a.put o.dst v') w') :
    wpList Tryd.prog ops Q (o :: rest) a w := by
  obtain ⟨i0, hi, hz0, hz1, hz2⟩ := info_parts infoInt
  refine wpList_append_own_at _ hg s x 22 hop base 3 i0 (.int .i64 0) 1 8 Tryd.underlying22 hi hz0 hz1 hz2 rfl (by decide) _ _ _ hv hown ⟨g, 0, none⟩ 1 1 [.int .i64 y] hx rfl ?_ ?_ ?_ ?_ hb ?_
  · intro j u hj
    match j, hj with
    | 0, hj => simp at hj; subst hj; simpa [Addr.add] using hc
  · intro u hu; simp at hu; subst hu; rfl
  · unfold maxLen; omega
  · omega
  · intro v' w' h1 h2 _ h4
    exact hK v' w' (by simpa using h1) h2 h4

structure Rows3 (w : World) (base : Nat) (v1 v2 v3 : Value) (x1 x2 x3 : List Int) : Prop where
  r1 : Ow w base v1 x1
  r2 : Ow w base v2 x2
  r3 : Ow w base v3 x3
  a12 : Ap v1 v2
  a13 : Ap v1 v3
  a23 : Ap v2 v3
theorem Rows3.rot {w : World} {base : Nat} {v1 v2 v3 : Value} {x1 x2 x3 : List Int} (h : Rows3 w base v1 v2 v3 x1 x2 x3) : Rows3 w base v2 v3 v1 x2 x3 x1 :=
  ⟨h.r2, h.r3, h.r1, h.a23, h.a12.symm, h.a13.symm⟩
theorem Ow.kept {w w' : World} {base : Nat} {v u : Value} {xs : List Int} (h : Ow w base v xs) (hg : w.grownBy w' u.ownBlock) (ha : Ap v u) : Ow w' base v xs := by
  refine World.ownsRow.kept h hg ?_
  cases e : v.ownBlock with
  | none => exact .inl rfl
  | some g => exact .inr fun hc => ha g e hc.symm
theorem Ow.alloc {w : World} {base : Nat} {v : Value} {xs : List Int} (h : Ow w base v xs) (o : Obj) : Ow (w.alloc o) base v xs := World.ownsRow.alloc h o
theorem Rows3.alloc {w : World} {base : Nat} {v1 v2 v3 : Value} {x1 x2 x3 : List Int} (h : Rows3 w base v1 v2 v3 x1 x2 x3) (o : Obj) : Rows3 (w.alloc o) base v1 v2 v3 x1 x2 x3 :=
  ⟨h.r1.alloc o, h.r2.alloc o, h.r3.alloc o, h.a12, h.a13, h.a23⟩
theorem Ap.next {w : World} {base : Nat} {v v' u : Value} {xs : List Int} (h : Ap v u) (hu : Ow w base u xs) (hv : v'.ownBlock = v.ownBlock ∨ v'.ownBlock = some w.heap.size) : Ap v' u := by
  intro g x y
  rcases hv with hv | hv
  · exact h g (by rw [← hv]; exact x) y
  · rw [hv] at x
    cases x
    exact absurd (hu.lt _ y).2 (by omega)
theorem Rows3.grow {w w' : World} {base : Nat} {v1 v1' v2 v3 : Value} {x1 y1 x2 x3 : List Int} (h : Rows3 w base v1 v2 v3 x1 x2 x3) (ho : w'.ownsRow base 3 1 v1' y1.length (y1.map (Value.int .i64))) (hg : w.grownBy w' v1.ownBlock)
    (hv : v1'.ownBlock = v1.ownBlock ∨ v1'.ownBlock = some w.heap.size) : Rows3 w' base v1' v2 v3 y1 x2 x3 :=
  ⟨ho, h.r2.kept hg h.a12.symm, h.r3.kept hg h.a13.symm, h.a12.next h.r2 hv, h.a13.next h.r3 hv, h.a23⟩
theorem Rows3.nil (w : World) (base : Nat) : Rows3 w base (.slice none 0 0) (.slice none 0 0) (.slice none 0 0) [] [] [] := by
  refine ⟨World.ownsRow_nil _ _ _ _, World.ownsRow_nil _ _ _ _, World.ownsRow_nil _ _ _ _, ?_, ?_, ?_⟩ <;> (intro g x y; cases x)

end Go.Proofs.YtbbmpjndalkgbaaDoor
