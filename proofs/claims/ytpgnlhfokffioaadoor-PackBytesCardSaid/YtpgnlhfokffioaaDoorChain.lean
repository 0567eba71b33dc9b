/-
  Words of our own, of no program: 'a && b && ..' in one statement, walked over a frame that stays a letter: a law a limb; no case is parted.
-/
import Derived.Test.YtpgnlhfokffioaaDoorBase
namespace Go
/-- Behind a stretch of a walk: the frame below slot lo is as it was. -/
structure Keep (lo : Nat) (a a' : Act) : Prop where
  size : a'.tmps.size = a.tmps.size
  defs : a'.defers = a.defers
  low : ∀ j, j < lo → a'.tmps[j]? = a.tmps[j]?
theorem Keep.refl (lo : Nat) (a : Act) : Keep lo a a := ⟨rfl, rfl, fun _ _ => rfl⟩
theorem Keep.put {lo : Nat} {a a' : Act} (h : Keep lo a a') (d : Nat) (hd : lo ≤ d) (v : Value) : Keep lo a (a'.put (some d) v) :=
  ⟨by simp [Act.put, h.size], h.defs, fun j hj => by
    have := h.low j hj
    simp only [Act.put, Array.getElem?_setIfInBounds]
    rw [if_neg (by omega)]; exact this⟩
theorem Keep.trans {lo : Nat} {a b c : Act} (h : Keep lo a b) (h2 : Keep lo b c) : Keep lo a c := ⟨h2.size.trans h.size, h2.defs.trans h.defs, fun j hj => (h2.low j hj).trans (h.low j hj)⟩
theorem Keep.mono {lo lo' : Nat} {a b : Act} (h : Keep lo a b) (hl : lo' ≤ lo) : Keep lo' a b := ⟨h.size, h.defs, fun j hj => h.low j (by omega)⟩
theorem put_get (a : Act) (d : Nat) (v : Value) (h : d < a.tmps.size) : (a.put (some d) v).tmps[d]? = some v := by simp [Act.put, h]
theorem put_far (a : Act) (d j : Nat) (v : Value) (h : d ≠ j) : (a.put (some d) v).tmps[j]? = a.tmps[j]? := by simp [Act.put, h]
theorem put_size (a : Act) (d : Nat) (v : Value) : (a.put (some d) v).tmps.size = a.tmps.size := by simp [Act.put]
theorem eval_of {a : Act} {j : Nat} {v : Value} (h : a.tmps[j]? = some v) : a.eval (.tmp j) = v := by
  simp [Act.eval, Array.getD_eq_getD_getElem?, h]
theorem eval_same (a : Act) (d : Nat) (v : Value) (h : d < a.tmps.size) : (a.put (some d) v).eval (.tmp d) = v := eval_of (put_get a d v h)
theorem eval_far (a : Act) (d j : Nat) (v : Value) (h : d ≠ j) : (a.put (some d) v).eval (.tmp j) = a.eval (.tmp j) := by
  simp only [Act.eval, Array.getD_eq_getD_getElem?, put_far a d j v h]
theorem eval_cst (a : Act) (v : Value) : a.eval (.const v) = v := rfl
/-- One operation carried out, to a value: by itself, or by a call. -/
def opTo (P : Program) (o : Oper) (a : Act) (w : World) (K : Value → World → Prop) : Prop :=
  (∃ v w1, (execOp a.eval o).run P w = .ok (.value v) w1 ∧ K v w1) ∨ (∃ f args, (execOp a.eval o).run P w = .ok (.enter f args) w ∧ Calls P f args w fun e w' => ∃ v, e = .returned v ∧ K v w') ∨ (∃ w1, (execOp a.eval o).run P w = .ok .skip w1 ∧ K undef w1)
theorem opTo_wp {P : Program} {Q : Exit → Act → World → Prop} {o : Oper} {a : Act} {w : World} {K : Value → World → Prop} {N : Act → World → Prop} (h : opTo P o a w K) (hk : ∀ v w', K v w' → N (a.put o.dst v) w') : o.wp P a w N Q := by
  unfold Oper.wp
  rcases h with ⟨v, w1, hr, h⟩ | ⟨f, args, hr, h⟩ | ⟨w1, hr, h⟩
  · rw [hr]; exact hk _ _ h
  · rw [hr, Oper.upon_enter]
    refine h.mono ?_
    rintro e w' ⟨v, rfl, h⟩
    exact hk _ _ h
  · rw [hr]; exact hk _ _ h
/-- A few operations, each carried out, one behind the other. -/
def wpRun (P : Program) : List Oper → Act → World → (Act → World → Prop) → Prop
  | [], a, w, K => K a w
  | o :: l, a, w, K => opTo P o a w fun v w => wpRun P l (a.put o.dst v) w K
theorem wpRun_at {P : Program} {o : Oper} {l : List Oper} {a : Act} {w : World} {K : Act → World → Prop} (d : Nat) (v : Value) (hd : o.dst = some d) (hr : (execOp a.eval o).run P w = .ok (.value v) w) (h : wpRun P l (a.put (some d) v) w K) :
    wpRun P (o :: l) a w K := .inl ⟨v, w, hr, by rw [hd]; exact h⟩
theorem wpRun_call {P : Program} {o : Oper} {l : List Oper} {a : Act} {w : World} {K : Act → World → Prop} (d : Nat) (v : Value) (I : World → Prop) (hd : o.dst = some d) (f : FuncId) (args : Array Value) (hr : (execOp a.eval o).run P w = .ok (.enter f args) w)
    (hc : Calls P f args w fun e w' => e = .returned v ∧ I w') (h : ∀ w', I w' → wpRun P l (a.put (some d) v) w' K) : wpRun P (o :: l) a w K :=
  .inr (.inl ⟨f, args, hr, hc.mono fun _ _ ⟨he, hI⟩ => ⟨v, he, by rw [hd]; exact h _ hI⟩⟩)
theorem wpRun_val {P : Program} {o : Oper} {l : List Oper} {a : Act} {w : World} {K : Act → World → Prop} (v : Value) (hr : (execOp a.eval o).run P w = .ok (.value v) w) (h : wpRun P l (a.put o.dst v) w K) :
    wpRun P (o :: l) a w K := .inl ⟨v, w, hr, h⟩
theorem wpRun_enter {P : Program} {o : Oper} {l : List Oper} {a : Act} {w : World} {K : Act → World → Prop} (f : FuncId) (args : Array Value) (hr : (execOp a.eval o).run P w = .ok (.enter f args) w) (v : Value) (I : World → Prop)
    (hc : Calls P f args w fun e w' => e = .returned v ∧ I w') (h : ∀ w', I w' → wpRun P l (a.put o.dst v) w' K) : wpRun P (o :: l) a w K :=
  .inr (.inl ⟨f, args, hr, hc.mono fun _ _ ⟨he, hI⟩ => ⟨v, he, h _ hI⟩⟩)
section
variable {P : Program} {ops : Array Oper} {Q : Exit → Act → World → Prop} {a : Act} {w : World} {rest : List Oper}
theorem yields {f fs : Nat} {b : Bool} (hfs : (ops[f]?).bind (·.dst) = some fs) (hf : a.tmps[fs]? = some (.bool b)) : yielded ops a.tmps f = some b := by
  simp [yielded, hfs, hf]
theorem wanted_of {o : Oper} {f fs : Nat} {b : Bool} (hg : o.guard = some (f, true)) (hfs : (ops[f]?).bind (·.dst) = some fs) (hf : a.tmps[fs]? = some (.bool b)) : Region.wanted o (yielded ops a.tmps) = b := by
  simp only [Region.wanted, hg, yields hfs hf]
  cases b <;> rfl
/-- The limb's operations: all under the guard, all into slots from lo on. -/
def Limb (f lo : Nat) (pre : List Oper) : Prop := ∀ o ∈ pre, o.guard = some (f, true) ∧ ∃ d, o.dst = some d ∧ lo ≤ d
theorem limb_skips {f fs lo : Nat} (hfs : (ops[f]?).bind (·.dst) = some fs) (hlo : fs < lo) : ∀ (pre : List Oper) (a : Act), Limb f lo pre → a.tmps[fs]? = some (.bool false) →
    (∀ a', Keep lo a a' → wpList P ops Q rest a' w) → wpList P ops Q (pre ++ rest) a w := by
  intro pre
  induction pre with
  | nil => intro a _ _ h; exact h a (Keep.refl _ _)
  | cons o l ih =>
    intro a hl hf h
    obtain ⟨hg, d, hd, hld⟩ := hl o (by simp)
    refine wpList_skip (wanted_of hg hfs hf) ?_
    rw [hd]
    have hk := (Keep.refl lo a).put d hld undef
    exact ih _ (fun o ho => hl o (by simp [ho])) ((hk.low fs hlo).trans hf) (fun a' h' => h a' (hk.trans h'))
theorem limb_runs {f fs lo : Nat} (hfs : (ops[f]?).bind (·.dst) = some fs) (hlo : fs < lo) : ∀ (pre : List Oper) (a : Act) (w : World), Limb f lo pre → a.tmps[fs]? = some (.bool true) →
    wpRun P pre a w (wpList P ops Q rest) → wpList P ops Q (pre ++ rest) a w := by
  intro pre
  induction pre with
  | nil => intro a w _ _ h; exact h
  | cons o l ih =>
    intro a w hl hf h
    obtain ⟨hg, d, hd, hld⟩ := hl o (by simp)
    refine BigFrame.wpList_want (wanted_of hg hfs hf) ?_
    intro K hK
    refine opTo_wp h fun v w' hn => ?_
    rw [hd] at hn ⊢
    exact hK _ _ (ih _ _ (fun o ho => hl o (by simp [ho])) ((((Keep.refl lo a).put d hld v).low fs hlo).trans hf) hn)
/-- Operations without a guard, each carried out. -/
theorem plain_runs : ∀ (pre : List Oper) (a : Act) (w : World), (∀ o ∈ pre, o.guard = none) → wpRun P pre a w (wpList P ops Q rest) → wpList P ops Q (pre ++ rest) a w := by
  intro pre
  induction pre with
  | nil => intro a w _ h; exact h
  | cons o l ih =>
    intro a w hl h
    refine wpList_plain (hl o (by simp)) fun K hK => ?_
    exact opTo_wp h fun v w' hn => hK _ _ (ih _ _ (fun o ho => hl o (by simp [ho])) hn)
/-- A LIMB OF 'a && b && ..': its operations under the flag, the pick, and a last one that hands it on. -/
theorem limb (f fs lo : Nat) {dp : Nat} {b : Bool} (c : Bool) {x : Operand} (I : World → Prop) (pre : List Oper) {tp : TypeId} {pp : String} {fp : Array Edge}
    (hfs : (ops[f]?).bind (·.dst) = some fs) (hlo : fs < lo) (hf : a.tmps[fs]? = some (.bool b)) (hl : Limb f lo pre) (hp : dp < a.tmps.size) (hlp : lo ≤ dp) {l : List Oper}
    (hpre : l = pre ++ ⟨some dp, .pick (.tmp fs) x (.const (.bool false)), tp, pp, fp, none⟩ :: rest)
    (hI : I w) (hrun : b = true → ∀ K : Act → World → Prop, (∀ a1 w1, Keep lo a a1 → a1.eval x = .bool c → I w1 → K a1 w1) → wpRun P pre a w K)
    (h : ∀ a' w', Keep lo a a' → a'.tmps[dp]? = some (.bool (b && c)) → I w' → wpList P ops Q rest a' w') : wpList P ops Q l a w := by
  subst hpre
  cases b
  · refine limb_skips hfs hlo pre a hl hf fun a' hk => ?_
    have hf' := (hk.low fs hlo).trans hf
    refine wpList_plain rfl fun K hK => ?_
    have hr : (execOp a'.eval ⟨some dp, .pick (.tmp fs) x (.const (.bool false)), tp, pp, fp, none⟩).run P w = .ok (.value (.bool false)) w := by
      have hE := eval_of hf'
      simp only [execOp, hE, asBool, Sem.run_bind, Sem.run_pure, Result.andThen_ok, Bool.false_eq_true, if_false]; rfl
    unfold Oper.wp; rw [hr]
    exact hK _ _ (h _ _ (hk.put dp hlp _) (by rw [put_get _ _ _ (by rw [hk.size]; exact hp)]; rfl) hI)
  · refine limb_runs hfs hlo pre a w hl hf (hrun rfl _ fun a' w' hk hx hI => ?_)
    have hf' := (hk.low fs hlo).trans hf
    refine wpList_plain rfl fun K hK => ?_
    have hr : (execOp a'.eval ⟨some dp, .pick (.tmp fs) x (.const (.bool false)), tp, pp, fp, none⟩).run P w' = .ok (.value (.bool c)) w' := by
      have hE := eval_of hf'
      simp only [execOp, hE, hx, asBool, Sem.run_bind, Sem.run_pure, Result.andThen_ok, if_true]
    unfold Oper.wp; rw [hr]
    exact hK _ _ (h _ _ (hk.put dp hlp _) (by rw [put_get _ _ _ (by rw [hk.size]; exact hp)]; rfl) hI)
/-- A value handed on from a slot to another. -/
theorem handOn {s d lo : Nat} {v : Value} {o : Oper} (ho : o.op = .move (.tmp s) ∨ o.op = .assign (.tmp s)) (hg : o.guard = none) (hd : o.dst = some d) (hs : a.tmps[s]? = some v) (hlt : d < a.tmps.size) (hlo : lo ≤ d)
    (h : ∀ a', Keep lo a a' → a'.tmps[d]? = some v → wpList P ops Q rest a' w) : wpList P ops Q (o :: rest) a w := by
  refine wpList_plain hg fun K hK => ?_
  have hr : (execOp a.eval o).run P w = .ok (.value v) w := by
    unfold execOp
    rcases ho with ho | ho <;> rw [ho] <;> simp [eval_of hs]
  unfold Oper.wp; rw [hr]
  show K (a.put o.dst v) w
  rw [hd]
  exact hK _ _ (h _ ((Keep.refl lo a).put d hlo v) (put_get _ _ _ hlt))
end
/-- A statement, and what stands behind it. -/
theorem wp_mid {P : Program} {Q : Exit → Act → World → Prop} {a : Act} {w : World} {x y : Code} (M : Act → World → Prop) (h1 : ∀ K : Act → World → Prop, (∀ a w, M a w → K a w) → x.wp P (Exit.then K Q) a w) (h2 : ∀ a w, M a w → y.wp P Q a w) : (Code.seq x y).wp P Q a w :=
  wp_seq (h1 _ h2)
theorem ret_at {P : Program} {fn : Func} {R : Ending → World → Prop} {a : Act} {w : World} {t : Nat} {v : Value} (hr : fn.results = #[.tmp t]) (hd : a.defers = []) (hv : a.tmps[t]? = some v) (hR : R (.returned v) w) : Code.ret.wp P (bodyPost P fn R) a w :=
  wp_ret (bodyPost_ret (results_tmp hr _ _ _) hd (by rw [show a.tmps.getD t undef = v from by simp [Array.getD_eq_getD_getElem?, hv]]; exact hR))
/-! a few operations by their values -/
section
variable {P : Program} {w : World}
theorem run_fieldAddr {ρ : Operand → Value} {d : Option Tmp} {s : TypeId} {x : Operand} {k : Nat} {ty : TypeId} {pos : String} {af : Array Edge} {g : Option (Nat × Bool)} {u v : Value} (hx : ρ x = u) (h : (Instr.fieldAt s u k).run P w = .ok v w) :
    (execOp ρ ⟨d, .fieldAddr s x k, ty, pos, af, g⟩).run P w = .ok (.value v) w := by
  simp only [execOp, hx, Sem.run_bind, h, Result.andThen_ok, Sem.run_pure]
theorem run_loadOp {ρ : Operand → Value} {d : Option Tmp} {t : TypeId} {x : Operand} {ty : TypeId} {pos : String} {af : Array Edge} {g : Option (Nat × Bool)} {u v : Value} (hx : ρ x = u) (h : (Instr.loadAt t u).run P w = .ok v w) :
    (execOp ρ ⟨d, .load t x, ty, pos, af, g⟩).run P w = .ok (.value v) w := by
  simp only [execOp, hx, Sem.run_bind, h, Result.andThen_ok, Sem.run_pure]
theorem run_binOp {ρ : Operand → Value} {d : Option Tmp} {op : BinOp} {t t2 : TypeId} {x y : Operand} {ty : TypeId} {pos : String} {af : Array Edge} {g : Option (Nat × Bool)} {u1 u2 v : Value} (hx : ρ x = u1) (hy : ρ y = u2) (hg : (eqGuard op t x y u1 u2).run P w = .ok () w) (h : (binOp op t u1 u2).run P w = .ok v w) :
    (execOp ρ ⟨d, .binOp op t x y t2, ty, pos, af, g⟩).run P w = .ok (.value v) w := by
  simp only [execOp, hx, hy, Sem.run_bind, hg, h, Result.andThen_ok, Sem.run_pure]
theorem run_callOp {a : Act} {d : Option Tmp} {f : FuncId} {fn : Func} {xs : Array Operand} {ts : Array TypeId} {ty : TypeId} {pos : String} {af : Array Edge} {g : Option (Nat × Bool)} {vs : Array Value} (hf : P.funcs[f]? = some fn) (hn : (fn.name == "runtime.NumGoroutine") = false) (hb : fn.body.isNone = false) (hx : xs.map a.eval = vs) :
    (execOp a.eval ⟨d, .call { callee := .value (.func f), args := xs, argTypes := ts }, ty, pos, af, g⟩).run P w = .ok (.enter f vs) w := by
  show (callFunc f (#[] ++ xs.map a.eval ++ #[])).run P w = _
  unfold callFunc
  have hn' : ¬ fn.name = "runtime.NumGoroutine" := by simpa using hn
  have hb' : ¬ fn.body = none := by intro h; rw [h] at hb; cases hb
  simp [go_sem, hf, hn', hb', hx]
theorem run_notOp {ρ : Operand → Value} {d : Option Tmp} {t : TypeId} {x : Operand} {ty : TypeId} {pos : String} {af : Array Edge} {g : Option (Nat × Bool)} {b : Bool} (hx : ρ x = .bool b) :
    (execOp ρ ⟨d, .unOp .not t x, ty, pos, af, g⟩).run P w = .ok (.value (.bool (!b))) w := by
  simp [execOp, hx, Op.unary, go_sem]
theorem run_lenOp {ρ : Operand → Value} {d : Option Tmp} {x : Operand} {t e : TypeId} {ty : TypeId} {pos : String} {af : Array Edge} {g : Option (Nat × Bool)} {ao : Option Addr} {n c : Nat} (ht : P.underlying t = some (.slice e)) (hx : ρ x = .slice ao n c) :
    (execOp ρ ⟨d, .call { callee := .builtin .len, args := #[x], argTypes := #[t] }, ty, pos, af, g⟩).run P w = .ok (.value (.int .i64 n)) w := by
  simp [hx, go_sem, Builtin.len_, underlying, ht]
end
end Go
