/-
  Words of our own, of no program: rows whose elements have several cells: copied, cleared, made longer; a row of our own cut and joined.
-/
import Derived.Test.YtjgbiffgmafhmaaLtOList
import Derived.Test.YtjgbiffgmafhmaaLtOOwn
import Derived.Lib.AppendZeros
import Derived.Lib.Overlaps
import Derived.Lib.SliceRun
import Derived.Laws.CopyRow
import Derived.Laws.Externs
import Derived.StillTailTactics
namespace Go
section
variable {P : Program} (w : World)
theorem run_sliceLo {ρ : Operand → Value} {d : Option Tmp} {ty : TypeId} {pos : String} {af : Array Edge} {g : Option (Nat × Bool)} {v : Value} {t : TypeId} {x y : Operand} {u1 u2 : Value} (hx : ρ x = u1) (hy : ρ y = u2) (h : (Instr.sliceAt t u1 (some u2) none none).run P w = .ok v w) : (execOp ρ ⟨d, .slice t x (some y) none none, ty, pos, af, g⟩).run P w = .ok (.value v) w := by
  simp only [execOp, hx, hy, Option.map_some, Option.map_none, Sem.run_bind, h, Result.andThen_ok, Sem.run_pure]
theorem ro_slice_to (t e : TypeId) (ht : P.underlying t = some (.slice e)) {ie : TypeInfo} (hi : P.info? e = some ie) (a : Addr) (n cap j : Nat) (hj : j ≤ cap) :
    (Instr.sliceAt t (.slice (some a) n cap) none (some (.int .i64 (j : Int))) none).run P w = .ok (.slice (some a) j cap) w := by
  simp [go_sem, Instr.sliceAt, Instr.slice, Instr.sliceBounds, Instr.sliceBound, asIntOf, run_underlying ht, hj, sizeOf, typeInfo, hi]
theorem ro_slice_both (t e : TypeId) (size : Nat) (ht : P.underlying t = some (.slice e)) (hs : (P.info? e).map (·.size) = some size) (a : Addr) (n cap i j : Nat) (hi : i ≤ j) (hn : j ≤ cap) :
    (Instr.sliceAt t (.slice (some a) n cap) (some (.int .i64 (i : Int))) (some (.int .i64 (j : Int))) none).run P w = .ok (.slice (some (if cap = i then a else a.add (i * size))) (j - i) (cap - i)) w := by
  cases hq : P.info? e with
  | none => simp [hq] at hs
  | some ie =>
    have hs' : ie.size = size := by simpa [hq] using hs
    simp [go_sem, Instr.sliceAt, Instr.slice, Instr.sliceBounds, Instr.sliceBound, asIntOf, run_underlying ht, hi, hn, sizeOf, typeInfo, hq, hs']
    split <;> rfl
end
end Go
