/-
  Words of our own, of no program: 'a && b && ..' in one statement, walked over a frame that stays a letter: a law a limb; no case is parted.
-/
import Derived.Test.YtjgbiffgmafhmaaLtOBase
namespace Go
/-- Behind a stretch of a walk: the frame below slot lo is as it was. -/
structure Keep (lo : Nat) (a a' : Act) : Prop where
  size : a'.tmps.size = a.tmps.size
  defs : a'.defers = a.defers
  low : ∀ j, j < lo → a'.tmps[j]? = a.tmps[j]?
theorem Keep.refl (lo : Nat) (a : Act) : Keep lo a a := ⟨rfl, rfl, fun _ _ => rfl⟩
theorem Keep.put {lo : Nat} {a a' : Act} (h : Keep lo a a') (d : Nat) (hd : lo ≤ d) (v : Value) : Keep lo a (a'.put (some d) v) :=
  ⟨by simp [Act.put, h.size], h.defs, fun j hj => by
    have := h.low j hj
    simp only [Act.put, Array.getElem?_setIfInBounds]
    rw [if_neg (by omega)]; exact this⟩
theorem Keep.trans {lo : Nat} {a b c : Act} (h : Keep lo a b) (h2 : Keep lo b c) : Keep lo a c := ⟨h2.size.trans h.size, h2.defs.trans h.defs, fun j hj => (h2.low j hj).trans (h.low j hj)⟩
theorem Keep.mono {lo lo' : Nat} {a b : Act} (h : Keep lo a b) (hl : lo' ≤ lo) : Keep lo' a b := ⟨h.size, h.defs, fun j hj => h.low j (by omega)⟩
theorem put_get (a : Act) (d : Nat) (v : Value) (h : d < a.tmps.size) : (a.put (some d) v).tmps[d]? = some v := by simp [Act.put, h]
theorem put_far (a : Act) (d j : Nat) (v : Value) (h : d ≠ j) : (a.put (some d) v).tmps[j]? = a.tmps[j]? := by simp [Act.put, h]
theorem put_size (a : Act) (d : Nat) (v : Value) : (a.put (some d) v).tmps.size = a.tmps.size := by simp [Act.put]
theorem eval_of {a : Act} {j : Nat} {v : Value} (h : a.tmps[j]? = some v) : a.eval (.tmp j) = v := by
  simp [Act.eval, Array.getD_eq_getD_getElem?, h]
/-- One operation carried out, to a value: by itself, or by a call. -/
def opTo (P : Program) (o : Oper) (a : Act) (w : World) (K : Value → World → Prop) : Prop :=
  (∃ v w1, (execOp a.eval o).run P w = .ok (.value v) w1 ∧ K v w1) ∨ (∃ f args, (execOp a.eval o).run P w = .ok (.enter f args) w ∧ Calls P f args w fun e w' => ∃ v, e = .returned v ∧ K v w') ∨ (∃ w1, (execOp a.eval o).run P w = .ok .skip w1 ∧ K undef w1)
theorem opTo_wp {P : Program} {Q : Exit → Act → World → Prop} {o : Oper} {a : Act} {w : World} {K : Value → World → Prop} {N : Act → World → Prop} (h : opTo P o a w K) (hk : ∀ v w', K v w' → N (a.put o.dst v) w') : o.wp P a w N Q := by
  unfold Oper.wp
  rcases h with ⟨v, w1, hr, h⟩ | ⟨f, args, hr, h⟩ | ⟨w1, hr, h⟩
  · rw [hr]; exact hk _ _ h
  · rw [hr, Oper.upon_enter]
    refine h.mono ?_
    rintro e w' ⟨v, rfl, h⟩
    exact hk _ _ h
  · rw [hr]; exact hk _ _ h
section
variable {P : Program} {ops : Array Oper} {Q : Exit → Act → World → Prop} {a : Act} {w : World} {rest : List Oper}
theorem yields {f fs : Nat} {b : Bool} (hfs : (ops[f]?).bind (·.dst) = some fs) (hf : a.tmps[fs]? = some (.bool b)) : yielded ops a.tmps f = some b := by
  simp [yielded, hfs, hf]
end
/-! a few operations by their values -/
section
variable {P : Program} {w : World}
theorem run_fieldAddr {ρ : Operand → Value} {d : Option Tmp} {s : TypeId} {x : Operand} {k : Nat} {ty : TypeId} {pos : String} {af : Array Edge} {g : Option (Nat × Bool)} {u v : Value} (hx : ρ x = u) (h : (Instr.fieldAt s u k).run P w = .ok v w) :
    (execOp ρ ⟨d, .fieldAddr s x k, ty, pos, af, g⟩).run P w = .ok (.value v) w := by
  simp only [execOp, hx, Sem.run_bind, h, Result.andThen_ok, Sem.run_pure]
theorem run_loadOp {ρ : Operand → Value} {d : Option Tmp} {t : TypeId} {x : Operand} {ty : TypeId} {pos : String} {af : Array Edge} {g : Option (Nat × Bool)} {u v : Value} (hx : ρ x = u) (h : (Instr.loadAt t u).run P w = .ok v w) :
    (execOp ρ ⟨d, .load t x, ty, pos, af, g⟩).run P w = .ok (.value v) w := by
  simp only [execOp, hx, Sem.run_bind, h, Result.andThen_ok, Sem.run_pure]
theorem run_binOp {ρ : Operand → Value} {d : Option Tmp} {op : BinOp} {t t2 : TypeId} {x y : Operand} {ty : TypeId} {pos : String} {af : Array Edge} {g : Option (Nat × Bool)} {u1 u2 v : Value} (hx : ρ x = u1) (hy : ρ y = u2) (hg : (eqGuard op t x y u1 u2).run P w = .ok () w) (h : (binOp op t u1 u2).run P w = .ok v w) :
    (execOp ρ ⟨d, .binOp op t x y t2, ty, pos, af, g⟩).run P w = .ok (.value v) w := by
  simp only [execOp, hx, hy, Sem.run_bind, hg, h, Result.andThen_ok, Sem.run_pure]
theorem run_callOp {a : Act} {d : Option Tmp} {f : FuncId} {fn : Func} {xs : Array Operand} {ts : Array TypeId} {ty : TypeId} {pos : String} {af : Array Edge} {g : Option (Nat × Bool)} {vs : Array Value} (hf : P.funcs[f]? = some fn) (hn : (fn.name == "runtime.NumGoroutine") = false) (hb : fn.body.isNone = false) (hx : xs.map a.eval = vs) :
    (execOp a.eval ⟨d, .call { callee := .value (.func f), args := xs, argTypes := ts }, ty, pos, af, g⟩).run P w = .ok (.enter f vs) w := by
  show (callFunc f (#[] ++ xs.map a.eval ++ #[])).run P w = _
  unfold callFunc
  have hn' : ¬ fn.name = "runtime.NumGoroutine" := by simpa using hn
  have hb' : ¬ fn.body = none := by intro h; rw [h] at hb; cases hb
  simp [go_sem, hf, hn', hb', hx]
theorem run_notOp {ρ : Operand → Value} {d : Option Tmp} {t : TypeId} {x : Operand} {ty : TypeId} {pos : String} {af : Array Edge} {g : Option (Nat × Bool)} {b : Bool} (hx : ρ x = .bool b) :
    (execOp ρ ⟨d, .unOp .not t x, ty, pos, af, g⟩).run P w = .ok (.value (.bool (!b))) w := by
  simp [execOp, hx, Op.unary, go_sem]
theorem run_lenOp {ρ : Operand → Value} {d : Option Tmp} {x : Operand} {t e : TypeId} {ty : TypeId} {pos : String} {af : Array Edge} {g : Option (Nat × Bool)} {ao : Option Addr} {n c : Nat} (ht : P.underlying t = some (.slice e)) (hx : ρ x = .slice ao n c) :
    (execOp ρ ⟨d, .call { callee := .builtin .len, args := #[x], argTypes := #[t] }, ty, pos, af, g⟩).run P w = .ok (.value (.int .i64 n)) w := by
  simp [hx, go_sem, Builtin.len_, underlying, ht]
end
end Go
