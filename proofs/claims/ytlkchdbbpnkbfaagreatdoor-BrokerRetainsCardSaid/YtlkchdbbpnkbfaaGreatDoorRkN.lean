/-
  Words of our own, of no program: the reckoner: operations that change memory, or call: all of them.
-/
import Derived.Test.YtlkchdbbpnkbfaaGreatDoorRkM
namespace Go.Rk
open Go.RowKit
variable {P : Program} {ev : Nat → Nat} {B : Nat} {ρ : Ren} {σ : Heap} {w : World}
theorem wp_call {o : Oper} {a : Act} {f : Nat} {args : Array Value} {K : Act → World → Prop} {Q : Exit → Act → World → Prop} (he : execOp a.eval o = callFunc f args) (h : callWp P f args w fun v w' => K (a.put o.dst v) w') : o.wp P a w K Q := by
  unfold Oper.wp
  rw [he]
  unfold callWp at h
  revert h
  generalize (callFunc f args).run P w = x
  intro h
  split at h
  · exact h
  · rename_i g as w'
    rw [Oper.upon_enter]
    refine h.mono fun e w'' he => ?_
    cases e <;> first | exact he | exact he.elim
  · exact h.elim
theorem VRs.operands {fr : Fm} {a : Act} : ∀ {xs : List Operand}, (∀ x ∈ xs, VR ev ρ (oval x fr) (a.eval x)) → VRs ev ρ (xs.map fun x => oval x fr) (xs.map a.eval)
  | [], _ => .nil
  | x :: xs, h => .cons (h x (by simp)) (VRs.operands fun y hy => h y (by simp [hy]))
theorem comp_hv {o : Oper} {f : CallF → Fm → Heap → K2 → Bool} (hc : comp P o = .hv f) {call : CallF} (hcall : CallOk P ev B call) {fr : Fm} {k : K2} (h : f call fr σ k = true) : ∃ v σ', k v σ' = true ∧ HvS P ev B o fr σ v σ' := by
  obtain ⟨dst, op, ty, pos, after, gd⟩ := o
  cases op <;> unfold comp at hc <;> dsimp only at hc
  case store t x y =>
    split at hc
    · rename_i b0 n hl
      simp only [CO.hv.injEq] at hc
      subst hc
      dsimp only at h
      obtain ⟨d, i, hd, hi, hrow, hsz⟩ := lay_spec hl
      obtain ⟨σ', h1, h2⟩ := stK_inv (P := P) (ev := ev) (B := B) h
      refine ⟨_, _, h1, fun ρ a w K Q hB ho hr hK => ?_⟩
      obtain ⟨w', e, h3, h4, h5, h6⟩ := h2 ρ w _ _ (ho x (by simp [Op.operands])) (ho y (by simp [Op.operands])) hr t i hi hsz
      exact wp_skip' (w' := w') (by simp [execOp, e]) (hK ρ undef w' h3 (.tu .nil) h4 h5 (by rw [h6]; exact hB))
    · cases hc
  case next x b =>
    split at hc
    · simp only [CO.hv.injEq] at hc
      subst hc
      dsimp only at h
      obtain ⟨r, o, hx, h1⟩ := asP_inv h
      obtain ⟨g, h2⟩ := guard_inv h1
      have ho0 := Nat.eq_of_beq_eq_true g
      subst ho0
      obtain ⟨v, σ', h3, h4⟩ := next_inv (P := P) (ev := ev) (B := B) h2
      refine ⟨v, σ', h3, fun ρ a w K Q hB ho hr hK => ?_⟩
      have hv := ho x (by simp [Op.operands])
      rw [hx] at hv
      obtain ⟨b, base, E, hρ, e⟩ := hv.asP
      obtain ⟨cv, w', e1, h5, h6, h7, h8, h9⟩ := h4 ρ w b base E ty hρ hr
      exact wp_val (w' := w') (v := cv) (by simp only [execOp, Sem.run_bind, e, e1, Result.andThen_ok]; rfl) (hK ρ cv w' h5 h6 h7 h8 (by rw [h9]; exact hB))
    · cases hc
  case call c =>
    unfold cCall at hc
    split at hc
    · rename_i f0 hb
      obtain ⟨callee, args, argTypes⟩ := c
      dsimp only at hb
      subst hb
      simp only [CO.hv.injEq] at hc
      subst hc
      dsimp only at h
      rw [argsK_eq] at h
      obtain ⟨v, σ', h1, h2⟩ := hcall _ _ _ _ h
      refine ⟨v, σ', h1, fun ρ a w K Q hB ho hr hK => ?_⟩
      refine wp_call (f := f0) (args := (args.toList.map a.eval).toArray) ?_ (h2 ρ _ w _ hB (VRs.operands fun x hx => ho x ?_) hr hK)
      · show callFunc f0 (#[] ++ args.map a.eval ++ #[]) = _
        congr 1
        apply Array.ext'
        simp
      · simp only [Op.operands, Call.operands, Array.mem_append]
        exact .inr (by simpa using hx)
    · rename_i f0 hnf hb
      obtain ⟨callee, args, argTypes⟩ := c
      dsimp only at hb
      subst hb
      simp only [CO.hv.injEq] at hc
      subst hc
      dsimp only at h
      obtain ⟨f1, caps, hx, h0⟩ := asFn_inv h
      rw [argsK_eq, appL_eq] at h0
      obtain ⟨v, σ', h1, h2⟩ := hcall _ _ _ _ h0
      refine ⟨v, σ', h1, fun ρ a w K Q hB ho hr hK => ?_⟩
      have hv := ho f0 (by simp [Op.operands, Call.operands])
      rw [hx] at hv
      obtain ⟨cs, e, hcs⟩ := hv.asFn
      refine wp_call (f := f1) (args := (args.toList.map a.eval ++ cs).toArray) ?_ (h2 ρ _ w _ hB ((VRs.operands fun x hx => ho x ?_).append hcs) hr hK)
      · have : execOp a.eval { dst := dst, op := .call ⟨.value f0, args, argTypes⟩, type := ty, pos := pos, after := after, guard := gd } = ((Deferred.ofValue (a.eval f0) (args.map a.eval)).bind fun d => invoke d.target d.args) := rfl
        rw [this, e]
        show callFunc f1 (#[] ++ args.map a.eval ++ cs.toArray) = _
        congr 1
        apply Array.ext'
        simp
      · simp only [Op.operands, Call.operands, Array.mem_append]
        exact .inr (by simpa using hx)
    · rename_i b hb
      obtain ⟨callee, args, argTypes⟩ := c
      dsimp only at hb
      subst hb
      dsimp only at hc
      have run1 : ∀ (a : Act) (w : World), (execOp a.eval { dst := dst, op := .call ⟨.builtin b, args, argTypes⟩, type := ty, pos := pos, after := after, guard := gd }).run P w = (Go.builtin b argTypes ty (args.map fun | .const _ => true | _ => false) (args.map a.eval)).run P w := fun a w => by
        simp [execOp, resolve, invoke]; rfl
      unfold cBuiltin at hc
      split at hc
      · split at hc <;> cases hc
      · split at hc <;> cases hc
      · cases hc
      · cases hc
      · rename_i t u x y hts hxs
        have hargs : args = #[x, y] := Array.ext' (by simpa using hxs)
        have htys : argTypes = #[t, u] := Array.ext' (by simpa using hts)
        subst hargs htys
        have hmain : ∀ {z bytes : Nat} {l : List AV}, cSlice P t = some (z, bytes, l) → ((∃ e', P.underlying u = some (.slice e')) ∨ P.underlying u = some .string) → appK z bytes (oval x fr) (oval y fr) σ k = true →
            ∃ v σ', k v σ' = true ∧ HvS P ev B { dst := dst, op := .call ⟨.builtin .append, #[x, y], #[t, u]⟩, type := ty, pos := pos, after := after, guard := gd } fr σ v σ' := by
          intro z bytes l hz hk h
          obtain ⟨e, i, zv, hu, hi, hzv, hok, -, hzs, hsz, hby, hpos⟩ := cSlice_spec hz
          obtain ⟨v, σ', h1, h2⟩ := app_inv (P := P) (ev := ev) (B := B) hpos h
          refine ⟨v, σ', h1, fun ρ a w K Q hB ho hr hK => ?_⟩
          obtain ⟨ρ', cv, w', e1, h3, h4, h5, h6, h7⟩ := h2 ρ w _ _ t u ty e i zv hu hi hsz hby hzv hzs hk hB (ho x (by simp [Op.operands, Call.operands])) (ho y (by simp [Op.operands, Call.operands])) hr
          refine wp_val (w' := w') (v := cv) ?_ (hK ρ' cv w' h3 h4 h5 h6 h7)
          rw [run1]
          simp [Go.builtin, e1]
        split at hc
        · rename_i z bytes l hz
          split at hc
          · rename_i htk
            simp only [CO.hv.injEq] at hc
            subst hc
            exact hmain hz (.inl (by rcases tk_spec htk (by decide) with h | h | h | h | h | h <;> first | exact h.2 | exact absurd h.1 (by decide))) h
          · rename_i htk
            simp only [CO.hv.injEq] at hc
            subst hc
            exact hmain hz (.inr (by rcases tk_spec htk (by decide) with h | h | h | h | h | h <;> first | exact h.2 | exact absurd h.1 (by decide))) h
          · cases hc
        · cases hc
      · rename_i t u x y hts hxs
        have hargs : args = #[x, y] := Array.ext' (by simpa using hxs)
        have htys : argTypes = #[t, u] := Array.ext' (by simpa using hts)
        subst hargs htys
        split at hc
        · rename_i z bytes l hz
          simp only [CO.hv.injEq] at hc
          subst hc
          dsimp only at h
          obtain ⟨e, i, zv, hu, hi, hzv, hok, -, hzs, hsz, hby, hpos⟩ := cSlice_spec hz
          obtain ⟨v, σ', h1, h2⟩ := cop_inv (P := P) (ev := ev) (B := B) h
          refine ⟨v, σ', h1, fun ρ a w K Q hB ho hr hK => ?_⟩
          obtain ⟨cv, w', e1, h3, h4, h5, h6, h7⟩ := h2 ρ w _ _ t u ty e i hu hi hsz (ho x (by simp [Op.operands, Call.operands])) (ho y (by simp [Op.operands, Call.operands])) hr
          refine wp_val (w' := w') (v := cv) ?_ (hK ρ cv w' h3 h4 h5 h6 (by rw [h7]; exact hB))
          rw [run1]
          simp [Go.builtin, e1]
        · cases hc
      · rename_i t x hts hxs
        have hargs : args = #[x] := Array.ext' (by simpa using hxs)
        have htys : argTypes = #[t] := Array.ext' (by simpa using hts)
        subst hargs htys
        split at hc
        · rename_i z bytes l hz
          simp only [CO.hv.injEq] at hc
          subst hc
          dsimp only at h
          obtain ⟨e, i, zv, hu, hi, hzv, hok, hl, hzs, hsz, hby, hpos⟩ := cSlice_spec hz
          obtain ⟨v, σ', h1, h2⟩ := clr_inv (P := P) (ev := ev) (B := B) h
          refine ⟨v, σ', h1, fun ρ a w K Q hB ho hr hK => ?_⟩
          obtain ⟨cv, w', e1, h3, h4, h5, h6, h7⟩ := h2 ρ w _ t ty e i zv hu hi hsz hzv hzs hl hok (ho x (by simp [Op.operands, Call.operands])) hr
          refine wp_val (w' := w') (v := cv) ?_ (hK ρ cv w' h3 h4 h5 h6 (by rw [h7]; exact hB))
          rw [run1]
          simp [Go.builtin, e1]
        · cases hc
      · cases hc
    · cases hc
  case slice t x lo hi mx =>
    unfold cSliceOp at hc
    split at hc
    · split at hc <;> cases hc
    · split at hc
      · split at hc <;> cases hc
      · cases hc
    · split at hc <;> cases hc
    · cases hc
  case convert s d x =>
    unfold cConv at hc
    split at hc
    · cases hc
    · cases hc
    · split at hc <;> cases hc
    · split at hc <;> cases hc
    · cases hc
  all_goals first
    | (cases hc; done)
    | (split at hc <;> cases hc; done)
    | (split at hc <;> first | (cases hc; done) | (split at hc <;> cases hc); done)
    | skip
end Go.Rk
