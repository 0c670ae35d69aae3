/-
  A map whose entries are known one by one (keys of an integer kind): an entry more, and a look-up.
-/
import Derived.Maps.Own
import Derived.Maps.OwnOps
namespace Go.Proofs.Ythojojjdamchpaa
open Go.ChangeMaps (setBlock heap_setBlock_same heap_setBlock_other)
open Go.MapKept (run_setObj_map run_checkKey IsKey)
set_option linter.unusedVariables false

section
variable {P : Program} {w : World} {t k e : TypeId} {kd : IntKind} {b clock : Nat} {es : Array MapEntry}
theorem run_findKey_now (hk : P.underlying k = some (.int kd)) (n : Int) (l : List MapEntry) (r : Option (Nat × Value)) (hf : Instr.findNow (.int kd) (.int kd n) l 0 = some r) : (Instr.findKey k (.int kd n) l).run P w = .ok r w := by
  simp [Instr.findKey, run_underlying hk, hf, Result.andThen]
theorem run_insert_lit (ht : P.underlying t = some (.map k e)) (hk : P.underlying k = some (.int kd)) (hb : w.heap[b]? = some (.map es clock)) (n : Int) (val : Value) (hf : Instr.findNow (.int kd) (.int kd n) es.toList 0 = some none) :
    (Instr.mapUpdate t (.map (some b)) (.int kd n) val).run P w = .ok () (setBlock w b (.map (es.push ⟨.int kd n, val, clock⟩) (clock + 1))) := by
  simp [Instr.mapUpdate, run_underlying ht, MapKept.run_getObj_map hb, run_checkKey hk (k := .int kd n) (by simp [IsKey]) false 9999, run_findKey_now hk n _ _ hf, run_setObj_map _ hb, Result.andThen, setBlock]
theorem run_lookup_hit (ht : P.underlying t = some (.map k e)) (hk : P.underlying k = some (.int kd)) (hb : w.heap[b]? = some (.map es clock)) (n : Int) (i : Nat) (v : Value) (hf : Instr.findNow (.int kd) (.int kd n) es.toList 0 = some (some (i, v))) :
    (Instr.lookup t (.map (some b)) (.int kd n) true).run P w = .ok (.tuple #[v, .bool true]) w := by
  simp [Instr.lookup, run_underlying ht, MapKept.run_getObj_map hb, run_checkKey hk (k := .int kd n) (by simp [IsKey]) _ 9999, run_findKey_now hk n _ _ hf, Result.andThen]
theorem run_lookup_miss (ht : P.underlying t = some (.map k e)) (hk : P.underlying k = some (.int kd)) (hb : w.heap[b]? = some (.map es clock)) (n : Int) (z : Value) (hz : (zeroValue e).run P w = .ok z w) (hf : Instr.findNow (.int kd) (.int kd n) es.toList 0 = some none) :
    (Instr.lookup t (.map (some b)) (.int kd n) true).run P w = .ok (.tuple #[z, .bool false]) w := by
  simp [Instr.lookup, run_underlying ht, MapKept.run_getObj_map hb, run_checkKey hk (k := .int kd n) (by simp [IsKey]) _ 9999, run_findKey_now hk n _ _ hf, hz, Result.andThen]
end

/-- .. laid ahead of the walk, as an equation -/
theorem insert_ex {P : Program} {w : World} {b : Nat} {es : Array MapEntry} (t k e : TypeId) (kd : IntKind) (clock : Nat) (ht : P.underlying t = some (.map k e)) (hk : P.underlying k = some (.int kd)) (hb : w.heap[b]? = some (.map es clock)) (n : Int) (val : Value) (hf : Instr.findNow (.int kd) (.int kd n) es.toList 0 = some none) :
    ∃ w', (Instr.mapUpdate t (.map (some b)) (.int kd n) val).run P w = .ok () w' ∧ w'.heap[b]? = some (.map (es.push ⟨.int kd n, val, clock⟩) (clock + 1)) ∧ w.grownBy w' (some b) :=
  ⟨_, run_insert_lit ht hk hb n val hf, heap_setBlock_same hb _, ⟨rfl, rfl, rfl, by simp [setBlock], fun i _ hi => heap_setBlock_other hb _ (fun e => hi (by rw [e]))⟩⟩
theorem map_new (W : World) (o : Obj) (n : Nat) (h : n = W.heap.size) : (W.alloc o).heap[n]? = some o := by subst h; exact (MapKept.heap_alloc W o).1

theorem wpList_insert_lit {P : Program} (w : World) {ops : Array Oper} {rest : List Oper} {o : Oper} {a : Act} {Q : Exit → Act → World → Prop}
    (hg : o.guard = none) (m x v : Operand) (t : TypeId) (hop : o.op = Op.insert t m x v) (k e : TypeId) (kd : IntKind) (ht : P.underlying t = some (.map k e)) (hk : P.underlying k = some (.int kd))
    (b clock : Nat) (es : Array MapEntry) (hm : a.eval m = .map (some b)) (hb : w.heap[b]? = some (.map es clock)) (n : Int) (val : Value) (hx : a.eval x = .int kd n) (hv : a.eval v = val)
    (hf : Instr.findNow (.int kd) (.int kd n) es.toList 0 = some none)
    (hK : ∀ w', w'.heap[b]? = some (.map (es.push ⟨.int kd n, val, clock⟩) (clock + 1)) → w.grownBy w' (some b) → wpList P ops Q rest (a.put o.dst undef) w') :
    wpList P ops Q (o :: rest) a w := by
  refine wpList_plain hg fun K' hK' => ?_
  have hrun := run_insert_lit (P := P) ht hk hb n val hf
  unfold Oper.wp
  simp [execOp, hop, hm, hx, hv, hrun, Result.andThen]
  exact hK' _ _ (hK _ (heap_setBlock_same hb _) ⟨rfl, rfl, rfl, by simp [setBlock], fun i _ hi => heap_setBlock_other hb _ (fun e => hi (by rw [e]))⟩)

end Go.Proofs.Ythojojjdamchpaa
