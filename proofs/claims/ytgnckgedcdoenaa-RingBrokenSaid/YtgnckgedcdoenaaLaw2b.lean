/-
  The law RingBroken: What may not be breaks its half of the ring for ever, and no other thing.
-/
/-
  What may not be breaks its half of the ring for ever, and no other thing.: run by the reckoner.
-/
import Derived.Test.YtgnckgedcdoenaaRzRingBroken
import Derived.Test.YtgnckgedcdoenaaRead
namespace Go.Proofs.Ytgnckgedcdoenaa
open Go.RowKit Go.Rk
theorem rkNames : namesOk Try.prog = true := by decide +kernel
theorem rkMixed : Try.prog.follows .mixedOrders = true := by decide +kernel
theorem rkNone {ev : Nat → Nat} {B : Nat} : OvOk Try.prog ev B (fun _ => none) := fun _ _ h => (nomatch h)
set_option maxRecDepth 100000 in
theorem arg_of (W : World) (cs : List Value) (h : Rd Try.prog W 24 cs) : ∃ (q0 : Int) (q1 : Int) (a2 : Option Addr) (n2 c2 : Nat), cs = [.int .i64 q0, .int .i64 q1, .slice a2 n2 c2] := by
  obtain ⟨hlen, hf⟩ := h.struct Try.underlying24
  match cs, hlen with
  | [x0, x1, x2], _ =>
    obtain ⟨q0, h0, -⟩ := (hf 0 _ rfl).int Try.underlying3
    obtain ⟨q1, h1, -⟩ := (hf 1 _ rfl).int Try.underlying3
    obtain ⟨a2, n2, c2, h2, -⟩ := (hf 2 _ rfl).slice Try.underlying22 (of_decide_eq_true (by kernel_rfl))
    have e0 : x0 = .int .i64 q0 := List.head_eq_of_cons_eq h0
    have e1 : x1 = .int .i64 q1 := List.head_eq_of_cons_eq h1
    have e2 : x2 = .slice a2 n2 c2 := List.head_eq_of_cons_eq h2
    subst e0 e1 e2
    exact ⟨q0, q1, a2, n2, c2, rfl⟩
theorem ringBroken_walk (W : World) (cs : List Value) (h : Rd Try.prog W 24 cs) :
    Calls Try.prog 7 #[.agg cs.toArray] W fun e W' => e = .returned (.bool true) ∧ Below W.heap.size W W' := by
  obtain ⟨q0, q1, a2, n2, c2, rfl⟩ := arg_of W cs h
  exact law_of (ev := fun _ => n2) rkMixed rkNames (fun _ => rkNone) Try.func7 rfl rkRunsRingBroken (.cons (.ag (.cons (.un rfl) (.cons (.un rfl) (.cons (.osl (Nat.zero_le _) (fun h => nomatch h)) .nil))) (fun v hv => by simp only [List.mem_cons, List.mem_nil_iff, or_false] at hv; rcases hv with rfl | rfl | rfl <;> rfl)) .nil) W
namespace ringBroken
open Go.ChangeShapes Go.WideShapes Go.ChangeAt
theorem own : ownKnob Try.prog.godebug = none := by kernel_rfl
theorem laidOut : laidOutB Try.prog = true := by kernel_rfl
set_option maxRecDepth 100000 in
theorem lifted (os : Os) (started : os.Started) (H : Type) (enc : TypeId × Value → H) :
    ReturnsInHanded {} Try.checked os 7 .any (Rows.ringBrokenSpec.pre6 enc Try.prog Try.f7 Rows.ringBrokenRow.domain false) (Rows.ringBrokenSpec.post enc Try.prog Try.f7 false true false false) := by
  refine returnsInHanded_of_change (C := Try.checked) own started (by kernel_rfl) Try.func7
    (ChangeSpec.witness6 (enc := enc) (C := Try.checked) false ⟨#[], #[.agg #[.int .i64 0, .int .i64 0, .slice none 0 0]], []⟩ 12 (by kernel_rfl) (by kernel_rfl) (by kernel_rfl) (by kernel_rfl)) ?_
  intro W base args ds gs before hval0 hW _ _
  have hval : ∀ (j : Nat) t v, Try.f7.params[j]? = some t → args[j]? = some v → Value.okWide Try.prog W .any base t v := hval0
  have hW' := hW
  obtain ⟨p, q, hA0, hV, rfl, hfz, hnd⟩ := hW
  have hA : DataW.TrodAll enc Try.prog W 0 (fun _ => true) true Try.f7.params.toList args.toList ds p := hA0
  rw [Try.params7] at hA hval
  obtain ⟨v0, vs0, d0, ds0, p0, q0, hargs, rfl, rfl, h0, r0⟩ := trodAll_cons hA
  obtain ⟨rfl, rfl, rfl⟩ := trodAll_nil r0
  obtain rfl : args = #[v0] := by cases args; simp_all
  obtain ⟨rfl, rfl⟩ := trodVars_none hV
  obtain ⟨cs0, rfl⟩ : ∃ cs0 : Array Value, v0 = .agg cs0 := by
    have h := hval 0 24 v0 rfl rfl
    unfold Value.okWide at h
    rw [Try.underlying24] at h
    exact ⟨h.choose, h.choose_spec.1⟩
  have k0 := h0
  have lt0 : ∀ x ∈ p0, x.block < W.heap.size := by obtain ⟨m, hm⟩ := k0; exact DataW.trod_lt m _ _ _ hm
  have hrd : Rd Try.prog W 24 cs0.toList := by obtain ⟨fuel, hf⟩ := h0; exact ⟨H, enc, 0, _, true, fuel, _, hf⟩
  clear hA0 hval0
  refine (show Calls Try.prog 7 _ W (fun e W' => e = .returned (.bool true) ∧ Below W.heap.size W W') from by have := ringBroken_walk W _ hrd; rwa [Array.toArray_toList] at this).mono fun e W' ⟨he, bel⟩ => ?_
  subst he
  exact ⟨_, rfl, _, _, _, [], _, [], hW', trodAll_mk1 (shut_bool Try.underlying4 _), (trodAll_cons_mk (Below.trod laidOut (by kernel_rfl) (of_decide_eq_true (by kernel_rfl)) k0 bel lt0) trodAll_mk0), rfl, bel.frame _, fun h => by cases h⟩
theorem over : Rows.ringBrokenRow.holds Try.pinned (OpenSpec.ofChange Rows.ringBrokenSpec) :=
  OpenClaim.holds_of_wide 7 Try.f7 rfl rfl rfl rfl rfl rfl rfl ⟨rfl, rfl, rfl, rfl, rfl⟩ rfl rfl rfl rfl rfl (by kernel_rfl) Try.func7 (by kernel_rfl)
    (of_decide_eq_true (by kernel_rfl)) (by unfold Func.isWrapper; first | (rw [if_pos (by decide +kernel)]; kernel_rfl) | (rw [if_neg (by decide +kernel)]; exact ⟨rfl, rfl⟩))
    (fun os started H enc _ => lifted os started H enc)
/-- THE STATEMENT. -/
theorem proved : Rows.RingBrokenSaid := over
end ringBroken
-- CLAIM: RingBroken ringBroken.proved
end Go.Proofs.Ytgnckgedcdoenaa
