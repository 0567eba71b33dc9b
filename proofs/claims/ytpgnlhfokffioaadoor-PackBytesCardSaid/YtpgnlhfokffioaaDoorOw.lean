/-
  Words of our own, of no program: a walk over frames and worlds that stay letters: what is known of them stands in hypotheses; a law a piece of code.
-/
import Derived.Test.YtpgnlhfokffioaaDoorChain
import Derived.Test.YtpgnlhfokffioaaDoorHeld
import Derived.Deep.MidRow
import Derived.Laws.Tables
import Derived.Deep.RegionHeld
import Derived.Lib.ReflectliteSwap
namespace Go
open Go.RowKit
/-- Behind a stretch: letters anew, with what is kept. -/
theorem fresh {C : Act → World → Prop} {a : Act} {w : World} (F : Act → World → Prop) (h : F a w) (k : ∀ a w, F a w → C a w) : C a w := k a w h
theorem put_defers (a : Act) (d : Option Tmp) (v : Value) : (a.put d v).defers = a.defers := by cases d <;> rfl
section
variable {P : Program} {Q N : Exit → Act → World → Prop} {M : Act → World → Prop} {a : Act} {w : World}
theorem ow_run {o : Oper} {l : List Oper} {K : Act → World → Prop} (d : Nat) (v : Value) (w1 : World) (hd : o.dst = some d) (hr : (execOp a.eval o).run P w = .ok (.value v) w1) (h : wpRun P l (a.put (some d) v) w1 K) : wpRun P (o :: l) a w K := .inl ⟨v, w1, hr, by rw [hd]; exact h⟩
theorem ow_skip {o : Oper} {l : List Oper} {K : Act → World → Prop} (w1 : World) (hd : o.dst = none) (hr : (execOp a.eval o).run P w = .ok .skip w1) (h : wpRun P l a w1 K) : wpRun P (o :: l) a w K := .inr (.inr ⟨w1, hr, by rw [hd]; exact h⟩)
theorem ow_call {o : Oper} {l : List Oper} {K : Act → World → Prop} (d : Nat) (V : Value → World → Prop) (hd : o.dst = some d) (f : FuncId) (args : Array Value) (hr : (execOp a.eval o).run P w = .ok (.enter f args) w)
    (hc : Calls P f args w fun e w' => ∃ v, e = .returned v ∧ V v w') (h : ∀ v w', V v w' → wpRun P l (a.put (some d) v) w' K) : wpRun P (o :: l) a w K :=
  .inr (.inl ⟨f, args, hr, hc.mono fun _ _ ⟨v, he, hI⟩ => ⟨v, he, by rw [hd]; exact h _ _ hI⟩⟩)
section
variable {ops : Array Oper}
theorem wanted_none {o : Oper} (h : o.guard = none) : Region.wanted o (yielded ops a.tmps) = true := by simp [Region.wanted, h]
theorem wanted_yes {o : Oper} {f fs : Nat} {pol : Bool} (hg : o.guard = some (f, pol)) (hfs : (ops[f]?).bind (·.dst) = some fs) (hf : a.tmps[fs]? = some (.bool pol)) : Region.wanted o (yielded ops a.tmps) = true := by
  simp only [Region.wanted, hg, yields hfs hf]; cases pol <;> rfl
theorem wanted_no {o : Oper} {f fs : Nat} {pol pol' : Bool} (hg : o.guard = some (f, pol)) (hfs : (ops[f]?).bind (·.dst) = some fs) (hf : a.tmps[fs]? = some (.bool pol')) (hn : pol' ≠ pol) : Region.wanted o (yielded ops a.tmps) = false := by
  simp only [Region.wanted, hg, yields hfs hf]; cases pol <;> cases pol' <;> first | rfl | exact (hn rfl).elim
theorem wanted_gone {o : Oper} {f fs : Nat} {pol : Bool} (hg : o.guard = some (f, pol)) (hfs : (ops[f]?).bind (·.dst) = some fs) (hf : a.tmps[fs]? = some undef) : Region.wanted o (yielded ops a.tmps) = false := by
  simp only [Region.wanted, hg, yielded, hfs, Option.bind_some, hf]; rfl
/-- A list of operations, shut: no tactic looks into it. -/
structure WL (P : Program) (ops : Array Oper) (Q : Exit → Act → World → Prop) (l : List Oper) (a : Act) (w : World) : Prop where
  out : wpList P ops Q l a w
theorem wl_done (h : Q .normal a w) : WL P ops Q [] a w := ⟨h⟩
theorem owl_wp {o : Oper} {l : List Oper} {K : Value → World → Prop} (hw : Region.wanted o (yielded ops a.tmps) = true) (h : opTo P o a w K) (hk : ∀ v w', K v w' → WL P ops Q l (a.put o.dst v) w') : WL P ops Q (o :: l) a w :=
  ⟨BigFrame.wpList_want hw fun _ hK => opTo_wp h fun v w' hv => hK _ _ (hk v w' hv).out⟩
theorem owl_run {o : Oper} {l : List Oper} (hw : Region.wanted o (yielded ops a.tmps) = true) (d : Nat) (v : Value) (w1 : World) (hd : o.dst = some d) (hr : (execOp a.eval o).run P w = .ok (.value v) w1) (h : WL P ops Q l (a.put (some d) v) w1) : WL P ops Q (o :: l) a w :=
  owl_wp hw (K := fun u w' => u = v ∧ w' = w1) (.inl ⟨v, w1, hr, rfl, rfl⟩) fun u w' ⟨hu, hw'⟩ => by rw [hu, hw', hd]; exact h
theorem owl_skip {o : Oper} {l : List Oper} (hw : Region.wanted o (yielded ops a.tmps) = true) (w1 : World) (hd : o.dst = none) (hr : (execOp a.eval o).run P w = .ok .skip w1) (h : WL P ops Q l a w1) : WL P ops Q (o :: l) a w :=
  owl_wp hw (K := fun _ w' => w' = w1) (.inr (.inr ⟨w1, hr, rfl⟩)) fun u w' hw' => by rw [hw', hd]; exact h
theorem owl_call {o : Oper} {l : List Oper} (hw : Region.wanted o (yielded ops a.tmps) = true) (d : Nat) (V : Value → World → Prop) (hd : o.dst = some d) (f : FuncId) (args : Array Value) (hr : (execOp a.eval o).run P w = .ok (.enter f args) w)
    (hc : Calls P f args w fun e w' => ∃ v, e = .returned v ∧ V v w') (h : ∀ v w', V v w' → WL P ops Q l (a.put (some d) v) w') : WL P ops Q (o :: l) a w :=
  owl_wp hw (K := V) (.inr (.inl ⟨f, args, hr, hc⟩)) fun u w' hu => by rw [hd]; exact h _ _ hu
theorem owl_no {o : Oper} {l : List Oper} (hw : Region.wanted o (yielded ops a.tmps) = false) (d : Nat) (hd : o.dst = some d) (h : WL P ops Q l (a.put (some d) undef) w) : WL P ops Q (o :: l) a w :=
  ⟨wpList_skip hw (by rw [hd]; exact h.out)⟩
theorem not_of {b c : Bool} (h : b = c) : (!b) = !c := by rw [h]
theorem flag_of {s : Nat} {b c : Bool} (h : a.tmps[s]? = some (.bool b)) (hb : b = c) : a.tmps[s]? = some (.bool c) := by rw [h, hb]
theorem owg_no {o : Oper} {l : List Oper} (f fs : Nat) (pol pol' : Bool) (hg : o.guard = some (f, pol)) (hfs : (ops[f]?).bind (·.dst) = some fs) (hf : a.tmps[fs]? = some (.bool pol')) (hn : pol' ≠ pol) (d : Nat) (hd : o.dst = some d) (h : WL P ops Q l (a.put (some d) undef) w) : WL P ops Q (o :: l) a w :=
  owl_no (wanted_no hg hfs hf hn) d hd h
theorem owg_gone {o : Oper} {l : List Oper} (f fs : Nat) (pol : Bool) (hg : o.guard = some (f, pol)) (hfs : (ops[f]?).bind (·.dst) = some fs) (hf : a.tmps[fs]? = some undef) (d : Nat) (hd : o.dst = some d) (h : WL P ops Q l (a.put (some d) undef) w) : WL P ops Q (o :: l) a w :=
  owl_no (wanted_gone hg hfs hf) d hd h
theorem owg_run {o : Oper} {l : List Oper} (f fs : Nat) (pol : Bool) (hg : o.guard = some (f, pol)) (hfs : (ops[f]?).bind (·.dst) = some fs) (hf : a.tmps[fs]? = some (.bool pol)) (d : Nat) (v : Value) (w1 : World) (hd : o.dst = some d) (hr : (execOp a.eval o).run P w = .ok (.value v) w1) (h : WL P ops Q l (a.put (some d) v) w1) : WL P ops Q (o :: l) a w :=
  owl_run (wanted_yes hg hfs hf) d v w1 hd hr h
theorem owg_skip {o : Oper} {l : List Oper} (f fs : Nat) (pol : Bool) (hg : o.guard = some (f, pol)) (hfs : (ops[f]?).bind (·.dst) = some fs) (hf : a.tmps[fs]? = some (.bool pol)) (w1 : World) (hd : o.dst = none) (hr : (execOp a.eval o).run P w = .ok .skip w1) (h : WL P ops Q l a w1) : WL P ops Q (o :: l) a w :=
  owl_skip (wanted_yes hg hfs hf) w1 hd hr h
theorem owg_call {o : Oper} {l : List Oper} (f fs : Nat) (pol : Bool) (hg : o.guard = some (f, pol)) (hfs : (ops[f]?).bind (·.dst) = some fs) (hf : a.tmps[fs]? = some (.bool pol)) (d : Nat) (V : Value → World → Prop) (hd : o.dst = some d) (fn : FuncId) (args : Array Value) (hr : (execOp a.eval o).run P w = .ok (.enter fn args) w)
    (hc : Calls P fn args w fun e w' => ∃ v, e = .returned v ∧ V v w') (h : ∀ v w', V v w' → WL P ops Q l (a.put (some d) v) w') : WL P ops Q (o :: l) a w :=
  owl_call (wanted_yes hg hfs hf) d V hd fn args hr hc h
theorem owl_region {id : Nat} (pre : List Oper) (hp : ops.toList = pre) (h : WL P ops Q pre a w) : (Code.region id ops false).wp P Q a w := wp_region_list (by rw [hp]; exact h.out)
end
theorem ow_to {o : Oper} {l : List Oper} {K : Act → World → Prop} {V : Value → World → Prop} (d : Nat) (hd : o.dst = some d) (hop : opTo P o a w V) (h : ∀ v w', V v w' → wpRun P l (a.put (some d) v) w' K) : wpRun P (o :: l) a w K := by
  show opTo P o a w _
  rcases hop with ⟨v, w1, hr, hv⟩ | ⟨f, args, hr, hc⟩ | ⟨w1, hr, hv⟩
  · exact .inl ⟨v, w1, hr, by rw [hd]; exact h _ _ hv⟩
  · exact .inr (.inl ⟨f, args, hr, hc.mono fun e w' ⟨v, he, hv⟩ => ⟨v, he, by rw [hd]; exact h _ _ hv⟩⟩)
  · exact .inr (.inr ⟨w1, hr, by rw [hd]; exact h _ _ hv⟩)
/-- A statement of plain operations, and what stands behind it. -/
theorem ow_region {id : Nat} {ops : Array Oper} (pre : List Oper) (hp : ops.toList = pre) (hg : ∀ o ∈ pre, o.guard = none) (h : wpRun P pre a w (Q .normal)) : (Code.region id ops false).wp P Q a w := by
  refine wp_region_list ?_
  have := plain_runs (P := P) (ops := ops) (Q := Q) (rest := []) pre a w hg h
  rw [List.append_nil] at this
  rw [hp]; exact this
theorem ow_then (h : M a w) : Exit.then M Q .normal a w := h
theorem ow_then_exit {id : Nat} (h : Q (.exit id) a w) : Exit.then M Q (.exit id) a w := h
theorem ow_then_ret (h : Q .ret a w) : Exit.then M Q .ret a w := h
theorem ow_then_goto {l : Nat} (h : Q (.goto l) a w) : Exit.then M Q (.goto l) a w := h
theorem ow_blk_goto (id : Nat) {l : Nat} (h : Q (.goto l) a w) : Exit.inBlock id Q (.goto l) a w := h
theorem ow_jump {J : Nat → Act → World → Prop} {l : Nat} (h : J l a w) : Exit.jumpsTo J Q (.goto l) a w := h
theorem ow_jump_ret {J : Nat → Act → World → Prop} (h : Q .ret a w) : Exit.jumpsTo J Q .ret a w := h
theorem ow_nogoto_ret (h : Q .ret a w) : Exit.noGoto Q .ret a w := h
theorem ow_blk (id : Nat) (h : Q .normal a w) : Exit.inBlock id Q .normal a w := h
theorem ow_blk_ret (id : Nat) (h : Q .ret a w) : Exit.inBlock id Q .ret a w := h
theorem ow_blk_exit (id : Nat) (h : Q .normal a w) : Exit.inBlock id Q (.exit id) a w := by simpa [Exit.inBlock] using h
theorem ow_blk_far (id id' : Nat) (hn : id' ≠ id) (h : Q (.exit id') a w) : Exit.inBlock id Q (.exit id') a w := by simpa [Exit.inBlock, hn] using h
theorem ow_true {c : Operand} {x y : Code} (hc : a.eval c = .bool true) (h : x.wp P Q a w) : (Code.cond c x y).wp P Q a w := wp_cond hc (by simpa using h)
theorem ow_false {c : Operand} {x y : Code} (hc : a.eval c = .bool false) (h : y.wp P Q a w) : (Code.cond c x y).wp P Q a w := wp_cond hc (by simpa using h)
theorem ow_ret1 {fn : Func} {R : Ending → World → Prop} {t : Nat} {v : Value} (hr : fn.results = #[.tmp t]) (hd : a.defers = []) (hv : a.tmps[t]? = some v) (hR : R (.returned v) w) : bodyPost P fn R .ret a w :=
  bodyPost_ret (results_tmp hr _ _ _) hd (by rw [show a.tmps.getD t undef = v from by simp [Array.getD_eq_getD_getElem?, hv]]; exact hR)
theorem ow_ret2 {fn : Func} {R : Ending → World → Prop} {t1 t2 : Nat} {v1 v2 : Value} (hr : fn.results = #[.tmp t1, .tmp t2]) (hd : a.defers = []) (h1 : a.tmps[t1]? = some v1) (h2 : a.tmps[t2]? = some v2) (hR : R (.returned (.tuple #[v1, v2])) w) : bodyPost P fn R .ret a w :=
  bodyPost_ret (v := .tuple #[v1, v2]) (by simp [results, hr, Array.getD_eq_getD_getElem?, h1, h2]) hd hR
theorem ow_ret3 {fn : Func} {R : Ending → World → Prop} {t1 t2 t3 : Nat} {v1 v2 v3 : Value} (hr : fn.results = #[.tmp t1, .tmp t2, .tmp t3]) (hd : a.defers = []) (h1 : a.tmps[t1]? = some v1) (h2 : a.tmps[t2]? = some v2) (h3 : a.tmps[t3]? = some v3) (hR : R (.returned (.tuple #[v1, v2, v3])) w) : bodyPost P fn R .ret a w :=
  bodyPost_ret (v := .tuple #[v1, v2, v3]) (by simp [results, hr, Array.getD_eq_getD_getElem?, h1, h2, h3]) hd hR
theorem ow_retCell {fn : Func} {R : Ending → World → Prop} {t : Nat} {ty : TypeId} {ad : Addr} {v : Value} (hr : fn.results = #[.cell t ty]) (hd : a.defers = []) (hv : a.tmps[t]? = some (.pointer (some ad))) (hl : (loadVar ty ad).run P w = .ok v w) (hR : R (.returned v) w) : bodyPost P fn R .ret a w :=
  bodyPost_ret (v := v) (by simp [results, hr, Array.getD_eq_getD_getElem?, hv, asAddr, hl]) hd hR
theorem ow_retCell2 {fn : Func} {R : Ending → World → Prop} {t t2 t3 : Nat} {ty : TypeId} {ad : Addr} {v v2 v3 : Value} (hr : fn.results = #[.cell t ty, .tmp t2, .tmp t3]) (hd : a.defers = []) (hv : a.tmps[t]? = some (.pointer (some ad))) (hl : (loadVar ty ad).run P w = .ok v w) (h2 : a.tmps[t2]? = some v2) (h3 : a.tmps[t3]? = some v3) (hR : R (.returned (.tuple #[v, v2, v3])) w) : bodyPost P fn R .ret a w :=
  bodyPost_ret (v := .tuple #[v, v2, v3]) (by simp [results, hr, Array.getD_eq_getD_getElem?, hv, asAddr, hl, h2, h3]) hd hR
/-- A call whose frame stays a letter: what is known at the entry. -/
theorem ow_enter {f : FuncId} {fn : Func} {body : Code} {args : Array Value} {R : Ending → World → Prop} (n : Nat) (hf : P.funcs[f]? = some fn) (hb : fn.body = some body) (hn : fn.ntmps = n) (hle : args.size ≤ n)
    (h : ∀ a : Act, a.tmps.size = n → a.defers = [] → (∀ (i : Nat) (v : Value), args[i]? = some v → a.tmps[i]? = some v) → body.wp P (bodyPost P fn R) a w) : Calls P f args w R := by
  refine calls_of_wp hf hb (h _ (by simp [hn]; omega) rfl fun i v hi => ?_)
  have hl : i < args.size := by
    rcases Nat.lt_or_ge i args.size with h | h
    · exact h
    · rw [Array.getElem?_eq_none h] at hi; cases hi
  show (args ++ _)[i]? = some v
  rw [Array.getElem?_append_left hl]; exact hi
/-! a region that draws its order: an operation at a time, as the text has them; S holds all the while -/
section
variable {ops : Array Oper} {S : World → Prop}
structure AH (P : Program) (ops : Array Oper) (Q : Exit → Act → World → Prop) (S : World → Prop) (fuel : Nat) (listed : Array Bool) (a : Act) (w : World) : Prop where
  out : wpAnyH P .any ops Q S fuel listed a w
theorem ah_region {id : Nat} (S : World → Prop) (hm : P.follows .mixedOrders = true) (n : Nat) (hn : ops.size = n) (h : AH P ops Q S n (Array.replicate n false) a w.drew) : (Code.region id ops true).wp P Q a w := by
  subst hn; exact wp_region_held hm h.out
theorem ah_take {fuel : Nat} {listed : Array Bool} (i d : Nat) (v : Value) {oi : Oper} (hi : ops[i]? = some oi) (hg : oi.guard = none) (hd : oi.dst = some d) (hs : Region.noSelect ops = true) (hf : Region.free .any ops listed i = true) (hr : (Region.ready .any ops listed).contains i = true)
    (hQ : ∀ c a w, Q (.panic c) (a.put (some d) v) w → Q (.panic c) a w) (hS : S w) (hrun : ∀ W, S W → (execOp a.eval oi).run P W = .ok (.value v) W) (h : AH P ops Q S fuel (listed.setIfInBounds i true) (a.put (some d) v) w) : AH P ops Q S (fuel + 1) listed a w :=
  ⟨wpAnyH_take hi hs hf hr (by rw [hd]; exact hQ) (.inl ⟨by simp [Region.wanted, hg], hrun⟩) hS (by rw [hd]; exact h.out)⟩
theorem ah_ready {fuel : Nat} {listed : Array Bool} (i d : Nat) {oi : Oper} (hi : ops[i]? = some oi) (hg : oi.guard = none) (hd : oi.dst = some d) (hr : Region.ready .any ops listed = [i]) (K : Value → World → Prop) (hop : opTo P oi a w K)
    (h : ∀ v w', K v w' → S w' ∧ AH P ops Q S fuel (listed.setIfInBounds i true) (a.put (some d) v) w') : AH P ops Q S (fuel + 1) listed a w := by
  refine ⟨wpAnyH_all hr (by simp) fun j hj => ?_⟩
  obtain rfl : j = i := by simpa using hj
  unfold wpOp
  rw [hi]
  simp only [show Region.wanted oi (yielded ops a.tmps) = true from by simp [Region.wanted, hg], if_true]
  exact .inl (opTo_wp hop fun v w' hv => by rw [hd]; exact ⟨(h v w' hv).1, (h v w' hv).2.out⟩)
theorem ah_store {fuel : Nat} {listed : Array Bool} (i : Nat) {oi : Oper} (hi : ops[i]? = some oi) (hg : oi.guard = none) (hd : oi.dst = none) (hr : Region.ready .any ops listed = [i]) (w1 : World) (hrun : (execOp a.eval oi).run P w = .ok .skip w1)
    (hS : S w1) (h : AH P ops Q S fuel (listed.setIfInBounds i true) a w1) : AH P ops Q S (fuel + 1) listed a w := by
  refine ⟨wpAnyH_all hr (by simp) fun j hj => ?_⟩
  obtain rfl : j = i := by simpa using hj
  unfold wpOp
  rw [hi]
  simp only [show Region.wanted oi (yielded ops a.tmps) = true from by simp [Region.wanted, hg], if_true]
  exact .inl (opTo_wp (K := fun _ w' => w' = w1) (.inr (.inr ⟨w1, hrun, rfl⟩)) fun v w' hv => by rw [hd, hv]; exact ⟨hS, h.out⟩)
theorem ah_done {fuel : Nat} {listed : Array Bool} (hr : Region.ready .any ops listed = []) (h : Q .normal a w) : AH P ops Q S fuel listed a w := ⟨wpAnyH_done hr h _⟩
end
/-! values of operations -/
variable {ρ : Operand → Value} {d : Option Tmp} {ty : TypeId} {pos : String} {af : Array Edge} {g : Option (Nat × Bool)} {u v : Value} {w' : World}
theorem run_moveOp {x : Operand} (hx : ρ x = u) : (execOp ρ ⟨d, .move x, ty, pos, af, g⟩).run P w = .ok (.value u) w := by simp only [execOp, hx, Sem.run_pure]
theorem run_assignOp {x : Operand} (hx : ρ x = u) : (execOp ρ ⟨d, .assign x, ty, pos, af, g⟩).run P w = .ok (.value u) w := by simp only [execOp, hx, Sem.run_pure]
theorem run_boxOp {e : TypeId} {x : Operand} (hx : ρ x = u) (h : (Instr.box e u).run P w = .ok v w') : (execOp ρ ⟨d, .box e x, ty, pos, af, g⟩).run P w = .ok (.value v) w' := by
  simp only [execOp, hx, Sem.run_bind, h, Result.andThen_ok, Sem.run_pure]
theorem run_allocOp {e : TypeId} (h : (Instr.alloc e true (.tuple #[])).run P w = .ok v w') : (execOp ρ ⟨d, .alloc e, ty, pos, af, g⟩).run P w = .ok (.value v) w' := by
  simp only [execOp, Sem.run_bind, h, Result.andThen_ok, Sem.run_pure]
theorem run_storeOp {t : TypeId} {x y : Operand} (hx : ρ x = u) (hy : ρ y = v) (h : (Instr.storeAt t u v).run P w = .ok () w') : (execOp ρ ⟨d, .store t x y, ty, pos, af, g⟩).run P w = .ok .skip w' := by
  simp only [execOp, hx, hy, Sem.run_bind, h, Result.andThen_ok, Sem.run_pure]
theorem run_unOp {op : UnOp} {t : TypeId} {x : Operand} (hx : ρ x = u) (h : (Op.unary op u).run P w = .ok v w) : (execOp ρ ⟨d, .unOp op t x, ty, pos, af, g⟩).run P w = .ok (.value v) w := by
  simp only [execOp, hx, Sem.run_bind, h, Result.andThen_ok, Sem.run_pure]
theorem run_convOp {t1 t2 : TypeId} {x : Operand} (hx : ρ x = u) (h : (convert t1 t2 u).run P w = .ok v w) : (execOp ρ ⟨d, .convert t1 t2 x, ty, pos, af, g⟩).run P w = .ok (.value v) w := by
  simp only [execOp, hx, Sem.run_bind, h, Result.andThen_ok, Sem.run_pure]
theorem run_buildOp {t : TypeId} {parts : Array (Nat × Operand)} {vs : Array (Nat × Value)} {cells : Array Value} (hx : parts.map (fun (i, x) => (i, ρ x)) = vs) (h : P.built t vs.toList = some cells) : (execOp ρ ⟨d, .build t parts, ty, pos, af, g⟩).run P w = .ok (.value (.agg cells)) w := by
  simp only [execOp, hx, Sem.run_bind, run_build w t vs cells h, Result.andThen_ok, Sem.run_pure]
theorem run_extractOp {x : Operand} {i : Nat} {vs : Array Value} (hx : ρ x = .tuple vs) (hi : vs[i]? = some v) : (execOp ρ ⟨d, .extract x i, ty, pos, af, g⟩).run P w = .ok (.value v) w := by
  simp [execOp, hx, Instr.extract, hi, go_sem]
theorem run_sliceOp2 {t : TypeId} {x y z : Operand} {u1 u2 u3 : Value} (hx : ρ x = u1) (hy : ρ y = u2) (hz : ρ z = u3) (h : (Instr.sliceAt t u1 (some u2) (some u3) none).run P w = .ok v w) : (execOp ρ ⟨d, .slice t x (some y) (some z) none, ty, pos, af, g⟩).run P w = .ok (.value v) w := by
  simp only [execOp, hx, hy, hz, Option.map_some, Option.map_none, Sem.run_bind, h, Result.andThen_ok, Sem.run_pure]
theorem run_sliceOp1 {t : TypeId} {x z : Operand} {u1 u3 : Value} (hx : ρ x = u1) (hz : ρ z = u3) (h : (Instr.sliceAt t u1 none (some u3) none).run P w = .ok v w) : (execOp ρ ⟨d, .slice t x none (some z) none, ty, pos, af, g⟩).run P w = .ok (.value v) w := by
  simp only [execOp, hx, hz, Option.map_some, Option.map_none, Sem.run_bind, h, Result.andThen_ok, Sem.run_pure]
theorem run_indexOp {t : TypeId} {x y : Operand} {u1 u2 : Value} (hx : ρ x = u1) (hy : ρ y = u2) (h : (Instr.indexAt t u1 u2).run P w = .ok v w) : (execOp ρ ⟨d, .indexAddr t x y, ty, pos, af, g⟩).run P w = .ok (.value v) w := by
  simp only [execOp, hx, hy, Sem.run_bind, h, Result.andThen_ok, Sem.run_pure]
theorem run_lenStr {x : Operand} {t : TypeId} {s : ByteArray} (ht : P.underlying t = some .string) (hx : ρ x = .string s) :
    (execOp ρ ⟨d, .call { callee := .builtin .len, args := #[x], argTypes := #[t] }, ty, pos, af, g⟩).run P w = .ok (.value (.int .i64 s.size)) w := by
  simp [hx, go_sem, Builtin.len_, underlying, ht]
theorem run_pickOp {c x y : Operand} {b : Bool} (hc : ρ c = .bool b) (hx : ρ x = u) (hy : ρ y = v) : (execOp ρ ⟨d, .pick c x y, ty, pos, af, g⟩).run P w = .ok (.value (if b then u else v)) w := by
  cases b <;> simp only [execOp, hc, hx, hy, asBool, Sem.run_bind, Sem.run_pure, Result.andThen_ok, if_true, Bool.false_eq_true, if_false]
theorem run_pickT {c x y : Operand} (hc : ρ c = .bool true) (hx : ρ x = u) : (execOp ρ ⟨d, .pick c x y, ty, pos, af, g⟩).run P w = .ok (.value u) w := by
  simp only [execOp, hc, hx, asBool, Sem.run_bind, Sem.run_pure, Result.andThen_ok, if_true]
theorem run_pickF {c x y : Operand} (hc : ρ c = .bool false) (hy : ρ y = v) : (execOp ρ ⟨d, .pick c x y, ty, pos, af, g⟩).run P w = .ok (.value v) w := by
  simp only [execOp, hc, hy, asBool, Sem.run_bind, Sem.run_pure, Result.andThen_ok, Bool.false_eq_true, if_false]
theorem eval_cast {a : Act} {x : Operand} {b c : Bool} (h : a.eval x = .bool b) (hb : b = c) : a.eval x = .bool c := by rw [h, hb]
theorem bp1 {x0 : Operand} {u0 : Value} {k0 : Nat} (h0 : ρ x0 = u0) : #[(k0, x0)].map (fun ((i, x) : Nat × Operand) => (i, ρ x)) = #[(k0, u0)] := by simp [h0]
theorem bp2 {x0 x1 : Operand} {u0 u1 : Value} {k0 k1 : Nat} (h0 : ρ x0 = u0) (h1 : ρ x1 = u1) : #[(k0, x0), (k1, x1)].map (fun ((i, x) : Nat × Operand) => (i, ρ x)) = #[(k0, u0), (k1, u1)] := by simp [h0, h1]
theorem bp3 {x0 x1 x2 : Operand} {u0 u1 u2 : Value} {k0 k1 k2 : Nat} (h0 : ρ x0 = u0) (h1 : ρ x1 = u1) (h2 : ρ x2 = u2) : #[(k0, x0), (k1, x1), (k2, x2)].map (fun ((i, x) : Nat × Operand) => (i, ρ x)) = #[(k0, u0), (k1, u1), (k2, u2)] := by simp [h0, h1, h2]
theorem bp4 {x0 x1 x2 x3 : Operand} {u0 u1 u2 u3 : Value} {k0 k1 k2 k3 : Nat} (h0 : ρ x0 = u0) (h1 : ρ x1 = u1) (h2 : ρ x2 = u2) (h3 : ρ x3 = u3) : #[(k0, x0), (k1, x1), (k2, x2), (k3, x3)].map (fun ((i, x) : Nat × Operand) => (i, ρ x)) = #[(k0, u0), (k1, u1), (k2, u2), (k3, u3)] := by simp [h0, h1, h2, h3]
theorem bp5 {x0 x1 x2 x3 x4 : Operand} {u0 u1 u2 u3 u4 : Value} {k0 k1 k2 k3 k4 : Nat} (h0 : ρ x0 = u0) (h1 : ρ x1 = u1) (h2 : ρ x2 = u2) (h3 : ρ x3 = u3) (h4 : ρ x4 = u4) : #[(k0, x0), (k1, x1), (k2, x2), (k3, x3), (k4, x4)].map (fun ((i, x) : Nat × Operand) => (i, ρ x)) = #[(k0, u0), (k1, u1), (k2, u2), (k3, u3), (k4, u4)] := by simp [h0, h1, h2, h3, h4]
theorem bp6 {x0 x1 x2 x3 x4 x5 : Operand} {u0 u1 u2 u3 u4 u5 : Value} {k0 k1 k2 k3 k4 k5 : Nat} (h0 : ρ x0 = u0) (h1 : ρ x1 = u1) (h2 : ρ x2 = u2) (h3 : ρ x3 = u3) (h4 : ρ x4 = u4) (h5 : ρ x5 = u5) : #[(k0, x0), (k1, x1), (k2, x2), (k3, x3), (k4, x4), (k5, x5)].map (fun ((i, x) : Nat × Operand) => (i, ρ x)) = #[(k0, u0), (k1, u1), (k2, u2), (k3, u3), (k4, u4), (k5, u5)] := by simp [h0, h1, h2, h3, h4, h5]
theorem bp7 {x0 x1 x2 x3 x4 x5 x6 : Operand} {u0 u1 u2 u3 u4 u5 u6 : Value} {k0 k1 k2 k3 k4 k5 k6 : Nat} (h0 : ρ x0 = u0) (h1 : ρ x1 = u1) (h2 : ρ x2 = u2) (h3 : ρ x3 = u3) (h4 : ρ x4 = u4) (h5 : ρ x5 = u5) (h6 : ρ x6 = u6) : #[(k0, x0), (k1, x1), (k2, x2), (k3, x3), (k4, x4), (k5, x5), (k6, x6)].map (fun ((i, x) : Nat × Operand) => (i, ρ x)) = #[(k0, u0), (k1, u1), (k2, u2), (k3, u3), (k4, u4), (k5, u5), (k6, u6)] := by simp [h0, h1, h2, h3, h4, h5, h6]
theorem arr1 {x : Operand} (h1 : ρ x = u) : #[x].map ρ = #[u] := by simp [h1]
theorem arr2 {x y : Operand} (h1 : ρ x = u) (h2 : ρ y = v) : #[x, y].map ρ = #[u, v] := by simp [h1, h2]
theorem arr3 {x y z : Operand} {t : Value} (h1 : ρ x = u) (h2 : ρ y = v) (h3 : ρ z = t) : #[x, y, z].map ρ = #[u, v, t] := by simp [h1, h2, h3]
end
end Go
namespace Go.Proofs.YtpgnlhfokffioaaDoor
open Go.RowKit
section
variable {P : Program} {W : World} {q : Nat} {vs : List Value}
theorem rowAt_alloc (w : World) (vs : List Value) (t : TypeId) : RowAt (w.alloc (.cells vs.toArray t)) w.heap.size vs := by
  have h : (w.alloc (.cells vs.toArray t)).heap[w.heap.size]? = some (.cells vs.toArray t) := by
    show (w.heap.push _)[w.heap.size]? = _
    simp
  refine ⟨fun j v hj => ?_, fun j => ?_, by simp⟩
  · simp only [World.cell?, h, Option.isSome_none, Bool.false_eq_true, if_false]
    simpa using hj
  · unfold World.frozen?; rw [h]; simp
theorem RowAt.cell {j : Nat} {v : Value} (h : RowAt W q vs) (hj : vs[j]? = some v) : W.cell? ⟨q, j, none⟩ = some v := h.1 j v hj
theorem RowAt.range (h : RowAt W q vs) (o : Nat) (cs : List Value) (hc : ∀ j v, cs[j]? = some v → vs[o + j]? = some v) : W.rangeAt q o cs := fun j v hj => h.1 _ _ (hc j v hj)
theorem RowAt.there (h : RowAt W q vs) (o n : Nat) (hn : o + n ≤ vs.length) : W.there q o n := fun j hj =>
  ⟨by rw [h.1 (o + j) _ (List.getElem?_eq_getElem (by omega))]; rfl, h.2.1 _⟩
theorem RowAt.set1 (h : RowAt W q vs) (j : Nat) (v : Value) (hj : j < vs.length) : RowAt (W.setCell ⟨q, j, none⟩ v) q (vs.set j v) := by
  have h0 := h.1 j _ (List.getElem?_eq_getElem hj)
  refine ⟨fun i u hi => ?_, fun i => ?_, by simpa using h.2.2⟩
  · by_cases he : j = i
    · subst he
      obtain rfl : v = u := by simpa [hj] using hi
      exact World.cell?_setCell_same _ _ _ h0
    · rw [List.getElem?_set_ne he] at hi
      exact (World.cell?_setCell_other _ _ _ _ (by simp)).trans (h.1 i u hi)
  · rw [World.frozen?_setCell]; exact h.2.1 i
theorem RowAt.other {q2 j : Nat} {v : Value} (h : RowAt W q vs) (hn : q ≠ q2) : RowAt (W.setCell ⟨q2, j, none⟩ v) q vs :=
  ⟨fun i u hi => (World.cell?_setCell_other _ _ _ _ (by simp)).trans (h.1 i u hi), fun i => by rw [World.frozen?_setCell]; exact h.2.1 i, by simpa using h.2.2⟩
theorem RowAt.sets : ∀ (xs : List Value) (o : Nat) (W : World) (vs : List Value), RowAt W q vs → o + xs.length ≤ vs.length → RowAt (W.setCells q o xs) q (vs.take o ++ xs ++ vs.drop (o + xs.length)) := by
  intro xs
  induction xs with
  | nil => intro o W vs h hl; simpa [World.setCells] using h
  | cons x t ih =>
    intro o W vs h hl
    simp only [List.length_cons] at hl
    have := ih (o + 1) _ _ (h.set1 o x (by omega)) (by simp; omega)
    have e : (vs.set o x).take (o + 1) ++ t ++ (vs.set o x).drop (o + 1 + t.length) = vs.take o ++ x :: t ++ vs.drop (o + (x :: t).length) := by
      apply List.ext_getElem?
      intro i
      simp only [List.getElem?_append, List.length_append, List.length_take, List.length_set, List.length_cons, List.getElem?_take, List.getElem?_drop]
      rcases (show i < o ∨ i = o ∨ (o < i ∧ i < o + 1 + t.length) ∨ o + 1 + t.length ≤ i by omega) with h1 | rfl | ⟨h1, h2⟩ | h1
      · simp only [show i < min (o + 1) vs.length + t.length by omega, show i < min (o + 1) vs.length by omega, show i < o + 1 by omega, show i < min o vs.length + (t.length + 1) by omega, show i < min o vs.length by omega, h1, if_true]
        exact List.getElem?_set_ne (by omega)
      · simp only [show i < min (i + 1) vs.length + t.length by omega, show i < min (i + 1) vs.length by omega, show i < i + 1 by omega, show i < min i vs.length + (t.length + 1) by omega, show ¬ i < min i vs.length by omega, if_true, if_false]
        rw [List.getElem?_set_self (by omega), show i - min i vs.length = 0 by omega]; rfl
      · simp only [show i < min (o + 1) vs.length + t.length by omega, show ¬ i < min (o + 1) vs.length by omega, show i < min o vs.length + (t.length + 1) by omega, show ¬ i < min o vs.length by omega, if_true, if_false]
        rw [show i - min o vs.length = (i - min (o + 1) vs.length) + 1 by omega]; rfl
      · simp only [show ¬ i < min (o + 1) vs.length + t.length by omega, show ¬ i < min o vs.length + (t.length + 1) by omega, if_false]
        rw [List.getElem?_set_ne (by omega)]
        congr 1; omega
    rw [e] at this
    exact this
theorem RowAt.sets_other {q2 : Nat} : ∀ (xs : List Value) (o : Nat) (W : World), RowAt W q vs → q ≠ q2 → RowAt (W.setCells q2 o xs) q vs := by
  intro xs
  induction xs with
  | nil => intro o W h _; exact h
  | cons x t ih => intro o W h hn; exact ih _ _ (h.other hn) hn
theorem RowAt.low {W' : World} {g : Nat} (h : RowAt W q vs) (hb : Below g W W') (hq : q < g) : RowAt W' q vs :=
  ⟨fun j v hj => (hb.cell (p := ⟨q, j, none⟩) hq).trans (h.1 j v hj), fun j => (hb.frozen (p := ⟨q, j, none⟩) hq).trans (h.2.1 j), Nat.lt_of_lt_of_le h.2.2 hb.size⟩
theorem mid_row (o n : Nat) (vs cs : List Value) (h : (vs.drop o).take n = cs) (j : Nat) (v : Value) (hj : cs[j]? = some v) : vs[o + j]? = some v := by
  subst h
  rw [List.getElem?_take] at hj
  split at hj
  · rwa [List.getElem?_drop] at hj
  · cases hj
theorem below_set1 {B : Nat} {W0 : World} {j : Nat} {v : Value} (h : Below B W0 W) (hq : B ≤ q) : Below B W0 (W.setCell ⟨q, j, none⟩ v) := h.setCell hq v
theorem below_sets {B : Nat} {W0 : World} (hq : B ≤ q) : ∀ (xs : List Value) (o : Nat) (W : World), Below B W0 W → Below B W0 (W.setCells q o xs) := by
  intro xs
  induction xs with
  | nil => intro o W h; exact h
  | cons x t ih => intro o W h; exact ih _ _ (h.setCell (p := ⟨q, o, none⟩) hq x)
theorem run_store1 {t : TypeId} {j : Nat} {v : Value} (h : RowAt W q vs) (hj : j < vs.length) (hs : (P.info? t).map (·.size) = some 1) (h1 : v.oneCell' = true) :
    (Instr.storeAt t (.pointer (some ⟨q, j, none⟩)) v).run P W = .ok () (W.setCell ⟨q, j, none⟩ v) := by
  obtain ⟨o, ho⟩ : ∃ o, vs[j]? = some o := ⟨_, List.getElem?_eq_getElem hj⟩
  cases hq : P.info? t with
  | none => simp [hq] at hs
  | some ie =>
    have hs' : ie.size = 1 := by simpa [hq] using hs
    simp only [Instr.storeAt, Instr.sureAddr, Sem.run_bind, Sem.run_pure, Result.andThen_ok]
    exact Lib.rl_storeVar_one t ie hq hs' _ v o h1 W (h.1 j o ho) (h.2.1 j)
theorem run_storeN {t : TypeId} {o : Nat} {xs : List Value} (h : RowAt W q vs) (hj : o + xs.length ≤ vs.length) (hs : (P.info? t).map (·.size) = some xs.length) (h1 : xs.all (·.oneCell') = true) :
    (Instr.storeAt t (.pointer (some ⟨q, o, none⟩)) (.agg xs.toArray)).run P W = .ok () (W.setCells q o xs) := by
  have := run_storeAt_mid (P := P) W q o t xs.toArray (h.there o _ (by simpa using hj)) (by simpa using hs) (by simpa using h1)
  simpa using this
theorem run_loadN {t : TypeId} {dsc : TypeDesc} {o : Nat} (cs : List Value) (h : RowAt W q vs) (hc : ∀ j v, cs[j]? = some v → vs[o + j]? = some v) (hu : P.underlying t = some dsc) (hd : dsc.isRow = true) (hs : (P.info? t).map (·.size) = some cs.length) :
    (Instr.loadAt t (.pointer (some ⟨q, o, none⟩))).run P W = .ok (.agg cs.toArray) W := run_loadAt_mid W q o t cs dsc (h.range o cs hc) hu hd hs
end
end Go.Proofs.YtpgnlhfokffioaaDoor
