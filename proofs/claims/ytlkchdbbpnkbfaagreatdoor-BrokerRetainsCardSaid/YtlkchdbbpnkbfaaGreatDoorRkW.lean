/-
  Words of our own, of no program: the reckoner: calls.
-/
import Derived.Test.YtlkchdbbpnkbfaaGreatDoorRkV
namespace Go.Rk
open Go.RowKit
noncomputable section
variable {P : Program} {ev : Nat → Nat} {B N : Nat}
theorem loadAt_asAddr {t : Nat} {cv u : Value} {w w' : World} (h : (Instr.loadAt t cv).run P w = .ok u w') : ((asAddr cv).bind fun a => loadVar t a).run P w = .ok u w' := by
  unfold Instr.loadAt at h
  cases cv <;> first | (simp [Instr.sureAddr] at h; done) | skip
  case pointer a =>
    cases a with
    | none => simp [Instr.sureAddr] at h
    | some a =>
      simp only [Instr.sureAddr, Sem.run_bind, Sem.run_pure, Result.andThen_ok] at h
      exact h
def resOp (tmps : Array Value) : ResultVar → Sem Value
  | .tmp t => pure (tmps.getD t undef)
  | .cell a t => do loadVar t (← asAddr (tmps.getD a undef))
theorem res_ok : ∀ {rs : List ResultVar} {l : List RC}, cRes P rs = some l → ∀ {fr : Fm} {σ : Heap} {k : List AV → Bool}, resK l fr σ k = true →
    ∃ vs, k vs = true ∧ ∀ ρ a w, FR ev N ρ fr a → HR ev B σ ρ w → ∃ cs, (rs.mapM (resOp a.tmps)).run P w = .ok cs w ∧ VRs ev ρ vs cs
  | [], l, hl, fr, σ, k, h => by
    simp only [cRes, Option.some.injEq] at hl
    subst hl
    exact ⟨[], h, fun ρ a w _ _ => ⟨[], by simp, .nil⟩⟩
  | .tmp t :: rs, l, hl, fr, σ, k, h => by
    unfold cRes at hl
    split at hl
    · rename_i r ht hr
      simp only [Option.some.injEq] at hl
      subst hl
      have h1 : forceV (get3 (ix t) fr) (fun v => resK r fr σ fun t => k (v :: t)) = true := h
      rw [forceV_eq] at h1
      obtain ⟨vs, h2, h3⟩ := res_ok hr h1
      refine ⟨_, h2, fun ρ a w hf hh => ?_⟩
      obtain ⟨cs, e, hv⟩ := h3 ρ a w hf hh
      refine ⟨a.tmps.getD t undef :: cs, ?_, .cons (hf.2.2 t (Nat.le_of_ble_eq_true ht)) hv⟩
      simp only [List.mapM_cons, Sem.run_bind, resOp, Sem.run_pure, Result.andThen_ok, e]
    · cases hl
  | .cell t ty :: rs, l, hl, fr, σ, k, h => by
    unfold cRes at hl
    split at hl
    · rename_i f r ht hf hr
      simp only [Option.some.injEq] at hl
      subst hl
      have h1 : f fr σ (fun v => resK r fr σ fun t => k (v :: t)) = true := h
      obtain ⟨v, h2, h3⟩ := cLoad_inv (ev := ev) (B := B) hf h1
      obtain ⟨vs, h4, h5⟩ := res_ok hr h2
      refine ⟨_, h4, fun ρ a w hfr hh => ?_⟩
      obtain ⟨cs, e, hv⟩ := h5 ρ a w hfr hh
      obtain ⟨u, e1, hvu⟩ := h3 ρ w (a.tmps.getD t undef) (hfr.2.2 t (Nat.le_of_ble_eq_true ht)) hh
      have e2 : (resOp a.tmps (.cell t ty)).run P w = .ok u w := loadAt_asAddr e1
      refine ⟨u :: cs, ?_, .cons hvu hv⟩
      simp only [List.mapM_cons, Sem.run_bind, e2, Sem.run_pure, Result.andThen_ok, e]
    · cases hl
theorem one_ok {l : List AV} {σ : Heap} {k : K2} (h : oneK l σ k = true) : ∃ v, k v σ = true ∧ ∀ ρ cs, VRs ev ρ l cs → VR ev ρ v (if h : cs.toArray.size = 1 then cs.toArray[0] else .tuple cs.toArray) := by
  cases l with
  | nil => exact ⟨_, h, fun ρ cs hv => by cases hv; exact .tu .nil⟩
  | cons x t =>
    cases t with
    | nil => exact ⟨_, h, fun ρ cs hv => by cases hv with | cons h1 h2 => cases h2; exact h1⟩
    | cons y t =>
      refine ⟨_, h, fun ρ cs hv => ?_⟩
      have hl := hv.length
      rw [dif_neg (by simp only [List.size_toArray, ← hl, List.length_cons]; omega)]
      exact .tu hv
theorem init_ok : ∀ (vs : List AV) (i : Nat) (fr : Fm) (k : Fm → Bool), initK vs i fr k = true → i + vs.length ≤ 512 → ∃ fr', k fr' = true ∧ ∀ t, t < 512 → get3 (ix t) fr' = if i ≤ t ∧ t < i + vs.length then (vs[t - i]?).getD .un else get3 (ix t) fr
  | [], i, fr, k, h, _ => ⟨fr, h, fun t _ => by rw [if_neg (by simp only [List.length_nil]; omega)]⟩
  | v :: vs, i, fr, k, h, hi => by
    have h1 : put3 (ix i) fr v (fun fr => initK vs (Nat.succ i) fr k) = true := h
    rw [put3_eq] at h1
    rw [List.length_cons] at hi
    obtain ⟨fr', h2, h3⟩ := init_ok vs (i + 1) _ k h1 (by omega)
    refine ⟨fr', h2, fun t ht => ?_⟩
    rw [h3 t ht, get3_set3, List.length_cons]
    by_cases hit : t = i
    · subst hit
      rw [if_neg (by omega), if_pos rfl, if_pos (by omega)]
      simp
    · rw [if_neg (fun e => hit ((ix_inj ht (by omega)).1 e))]
      by_cases hin : i + 1 ≤ t ∧ t < i + 1 + vs.length
      · rw [if_pos hin, if_pos (by omega)]
        rw [show t - i = (t - (i + 1)) + 1 by omega, List.getElem?_cons_succ]
      · rw [if_neg hin, if_neg (by omega)]
/-- No function of Go text is the one that the machine itself answers. -/
def namesOk (P : Program) : Bool := P.funcs.toList.all fun fn => fn.body.isNone || !(fn.name == "runtime.NumGoroutine")
theorem callWp_enter {f : Nat} {fn : Func} {c : Code} {args : Array Value} {w : World} {R : Value → World → Prop} (hn : namesOk P = true) (hf : P.funcs[f]? = some fn) (hb : fn.body = some c) (h : Calls P f args w fun e w'' => match e with | .returned v => R v w'' | _ => False) : callWp P f args w R := by
  have hname : (fn.name == "runtime.NumGoroutine") = false := by
    have := List.all_eq_true.1 hn fn (List.mem_of_getElem? (by rw [Array.getElem?_toList]; exact hf))
    rw [hb] at this
    simpa using this
  have hrun : (callFunc f args).run P w = .ok (.enter f args) w := by
    simp [callFunc, hf, hb]
    simpa using hname
  unfold callWp
  rw [hrun]
  exact h
def OvOk (P : Program) (ev : Nat → Nat) (B : Nat) (ov : Over) : Prop := ∀ f g, ov f = some g → ∀ vs σ (k : K2), g vs σ k = true → ∃ v σ', k v σ' = true ∧ CallS P ev B f vs σ v σ'
theorem call_ok (hm : P.follows .mixedOrders = true) (hn : namesOk P = true) {ov : Over} (hov : OvOk P ev B ov) {dep fuel : Nat} : ∀ n, CallOk P ev B (callK P ov dep fuel n)
  | 0 => fun _ _ _ _ h => nomatch (show false = true from h)
  | n + 1 => fun f vs σ k h => by
    have ih := call_ok hm hn hov (dep := dep) (fuel := fuel) n
    have h0 : FC.rec (motive := fun _ => Bool) false (fun g => g (callK P ov dep fuel n) vs σ k) (cFunc P ov dep fuel f) = true := h
    clear h
    unfold cFunc at h0
    split at h0
    · rename_i g hg
      exact hov f g hg vs σ k h0
    · split at h0
      · rename_i fn hfn
        split at h0
        · rename_i c r hb hN hr
          have hN' : fn.ntmps ≤ 512 := Nat.le_of_ble_eq_true hN
          dsimp only at h0
          rw [lenN_eq] at h0
          obtain ⟨g1, h1⟩ := guard_inv h0
          have hlen : vs.length ≤ fn.ntmps := Nat.le_of_ble_eq_true g1
          obtain ⟨fr, h2, hfr⟩ := init_ok vs 0 fr0 _ h1 (by omega)
          obtain ⟨e, fr', σ', h3, h4⟩ := code_ok (ev := ev) (B := B) (N := fn.ntmps) hm hN' ih dep c fuel fr σ _ h2
          have hexit : (e = .nx ∨ e = .ret) ∧ resK r fr' σ' (fun l => oneK l σ' k) = true := by
            cases e with
            | nx => exact ⟨.inl rfl, h3⟩
            | ret => exact ⟨.inr rfl, h3⟩
            | ex i => exact nomatch (show false = true from h3)
            | go l => exact nomatch (show false = true from h3)
          obtain ⟨he, h5⟩ := hexit
          obtain ⟨rs, h6, h7⟩ := res_ok (ev := ev) (B := B) (N := fn.ntmps) hr h5
          obtain ⟨v, h8, h9⟩ := one_ok (ev := ev) h6
          refine ⟨v, σ', h8, fun ρ cs w R hB hvs hh hR => callWp_enter hn hfn hb ?_⟩
          have hcl := hvs.length
          refine calls_of_wp hfn hb ?_
          refine h4 ρ _ w _ hB ⟨?_, rfl, fun t ht => ?_⟩ hh fun ρ' a' w' e1 f1 r1 b1 s1 => ?_
          · simp only [Array.size_append, List.size_toArray, Array.size_replicate]; omega
          · rw [hfr t ht]
            simp only [Array.getD_eq_getD_getElem?, Nat.zero_le, true_and, Nat.zero_add, Nat.sub_zero]
            by_cases hlt : t < vs.length
            · rw [if_pos hlt, Array.getElem?_append_left (by simp only [List.size_toArray]; omega)]
              have hv : vs[t]? = some vs[t] := List.getElem?_eq_getElem hlt
              obtain ⟨c', hc', hvc⟩ := hvs.get hv
              rw [hv]
              simp only [List.getElem?_toArray, hc', Option.getD_some]
              exact hvc
            · rw [if_neg hlt]
              have e0 : get3 (ix t) fr0 = .tu [] := get3_all _ _
              rw [e0]
              rw [Array.getElem?_append_right (by simp only [List.size_toArray]; omega)]
              have : ((Array.replicate (fn.ntmps - cs.toArray.size) undef)[t - cs.toArray.size]?).getD undef = undef := by
                rw [Array.getElem?_replicate]
                split <;> rfl
              rw [this]
              exact .tu .nil
          · obtain ⟨cs', e2, hv'⟩ := h7 ρ' a' w' f1 r1
            have hres : (results fn a'.tmps).run P w' = .ok (if h : cs'.toArray.size = 1 then cs'.toArray[0] else .tuple cs'.toArray) w' := by
              have hmap : fn.results.mapM (resOp a'.tmps) = List.toArray <$> List.mapM (resOp a'.tmps) fn.results.toList := Array.mapM_eq_mapM_toList
              have : results fn a'.tmps = (do let vs ← fn.results.mapM (resOp a'.tmps); pure (if h : vs.size = 1 then vs[0] else .tuple vs)) := by
                unfold results
                congr 1
              rw [this, hmap]
              simp only [Sem.run_bind, Sem.run_map, e2, Result.andThen_ok, Sem.run_pure]
            have fin : bodyPost P fn (fun e w'' => match e with | .returned v => R v w'' | _ => False) .normal a' w' := ⟨f1.2.1, _, hres, hR ρ' _ w' e1 (h9 ρ' cs' hv') r1 b1 s1⟩
            rcases he with rfl | rfl
            · exact fin
            · exact fin
        · exact nomatch h0
      · exact nomatch h0
end
end Go.Rk
