/-
  Words of our own, of no program: the walker's laws for loops, and for regions that draw, guards in them.
-/
import Derived.Test.YtpgnlhfokffioaaDoorOw
import Derived.Deep.LoopGhost
namespace Go
open Go.RowKit
theorem arr0 {ρ : Operand → Value} : (#[] : Array Operand).map ρ = #[] := by simp
theorem pf1 {a : Act} {j : Nat} {d0 : Nat} {v0 : Value} {o : Option Value} (h : d0 ≠ j) (hx : a.tmps[j]? = o) : (a.put (some d0) v0).tmps[j]? = o := (put_far a d0 j v0 h).trans hx
theorem pf2 {a : Act} {j : Nat} {d0 d1 : Nat} {v0 v1 : Value} {o : Option Value} (h : d0 ≠ j ∧ d1 ≠ j) (hx : a.tmps[j]? = o) : ((a.put (some d0) v0).put (some d1) v1).tmps[j]? = o := by
  obtain ⟨h0, h1⟩ := h
  rw [put_far _ _ _ _ h1, put_far _ _ _ _ h0]; exact hx
theorem pf4 {a : Act} {j : Nat} {d0 d1 d2 d3 : Nat} {v0 v1 v2 v3 : Value} {o : Option Value} (h : d0 ≠ j ∧ d1 ≠ j ∧ d2 ≠ j ∧ d3 ≠ j) (hx : a.tmps[j]? = o) : ((((a.put (some d0) v0).put (some d1) v1).put (some d2) v2).put (some d3) v3).tmps[j]? = o := by
  obtain ⟨h0, h1, h2, h3⟩ := h
  rw [put_far _ _ _ _ h3, put_far _ _ _ _ h2, put_far _ _ _ _ h1, put_far _ _ _ _ h0]; exact hx
theorem pf8 {a : Act} {j : Nat} {d0 d1 d2 d3 d4 d5 d6 d7 : Nat} {v0 v1 v2 v3 v4 v5 v6 v7 : Value} {o : Option Value} (h : d0 ≠ j ∧ d1 ≠ j ∧ d2 ≠ j ∧ d3 ≠ j ∧ d4 ≠ j ∧ d5 ≠ j ∧ d6 ≠ j ∧ d7 ≠ j) (hx : a.tmps[j]? = o) : ((((((((a.put (some d0) v0).put (some d1) v1).put (some d2) v2).put (some d3) v3).put (some d4) v4).put (some d5) v5).put (some d6) v6).put (some d7) v7).tmps[j]? = o := by
  obtain ⟨h0, h1, h2, h3, h4, h5, h6, h7⟩ := h
  rw [put_far _ _ _ _ h7, put_far _ _ _ _ h6, put_far _ _ _ _ h5, put_far _ _ _ _ h4, put_far _ _ _ _ h3, put_far _ _ _ _ h2, put_far _ _ _ _ h1, put_far _ _ _ _ h0]; exact hx
theorem pf16 {a : Act} {j : Nat} {d0 d1 d2 d3 d4 d5 d6 d7 d8 d9 d10 d11 d12 d13 d14 d15 : Nat} {v0 v1 v2 v3 v4 v5 v6 v7 v8 v9 v10 v11 v12 v13 v14 v15 : Value} {o : Option Value} (h : d0 ≠ j ∧ d1 ≠ j ∧ d2 ≠ j ∧ d3 ≠ j ∧ d4 ≠ j ∧ d5 ≠ j ∧ d6 ≠ j ∧ d7 ≠ j ∧ d8 ≠ j ∧ d9 ≠ j ∧ d10 ≠ j ∧ d11 ≠ j ∧ d12 ≠ j ∧ d13 ≠ j ∧ d14 ≠ j ∧ d15 ≠ j) (hx : a.tmps[j]? = o) : ((((((((((((((((a.put (some d0) v0).put (some d1) v1).put (some d2) v2).put (some d3) v3).put (some d4) v4).put (some d5) v5).put (some d6) v6).put (some d7) v7).put (some d8) v8).put (some d9) v9).put (some d10) v10).put (some d11) v11).put (some d12) v12).put (some d13) v13).put (some d14) v14).put (some d15) v15).tmps[j]? = o := by
  obtain ⟨h0, h1, h2, h3, h4, h5, h6, h7, h8, h9, h10, h11, h12, h13, h14, h15⟩ := h
  rw [put_far _ _ _ _ h15, put_far _ _ _ _ h14, put_far _ _ _ _ h13, put_far _ _ _ _ h12, put_far _ _ _ _ h11, put_far _ _ _ _ h10, put_far _ _ _ _ h9, put_far _ _ _ _ h8, put_far _ _ _ _ h7, put_far _ _ _ _ h6, put_far _ _ _ _ h5, put_far _ _ _ _ h4, put_far _ _ _ _ h3, put_far _ _ _ _ h2, put_far _ _ _ _ h1, put_far _ _ _ _ h0]; exact hx
section
variable {P : Program} {Q : Exit → Act → World → Prop} {a : Act} {w : World}
/-- A loop: a relation at its head, a number that goes down. -/
theorem ow_loop {c : Code} (I : Nat → Act → World → Prop) (n0 : Nat) (h0 : I n0 a w) (round : ∀ n a w, I n a w → ∀ K : Act → World → Prop, (∀ n' a' w', n' < n → I n' a' w' → K a' w') → c.wp P (Exit.then K Q) a w) : (Code.loop c).wp P Q a w :=
  wp_loop_ghost I n0 h0 fun n a w h => round n a w h _ fun n' _ _ hn hI => ⟨n', hn, hI⟩
variable {ops : Array Oper} {S : World → Prop}
theorem ah_takeW {fuel : Nat} {listed : Array Bool} (i d : Nat) (v : Value) {oi : Oper} (hi : ops[i]? = some oi) (hw : Region.wanted oi (yielded ops a.tmps) = true) (hd : oi.dst = some d) (hs : Region.noSelect ops = true) (hf : Region.free .any ops listed i = true) (hr : (Region.ready .any ops listed).contains i = true)
    (hQ : ∀ c a w, Q (.panic c) (a.put (some d) v) w → Q (.panic c) a w) (hS : S w) (hrun : ∀ W, S W → (execOp a.eval oi).run P W = .ok (.value v) W) (h : AH P ops Q S fuel (listed.setIfInBounds i true) (a.put (some d) v) w) : AH P ops Q S (fuel + 1) listed a w :=
  ⟨wpAnyH_take hi hs hf hr (by rw [hd]; exact hQ) (.inl ⟨hw, hrun⟩) hS (by rw [hd]; exact h.out)⟩
theorem ah_takeNo {fuel : Nat} {listed : Array Bool} (i d : Nat) {oi : Oper} (hi : ops[i]? = some oi) (hw : Region.wanted oi (yielded ops a.tmps) = false) (hd : oi.dst = some d) (hs : Region.noSelect ops = true) (hf : Region.free .any ops listed i = true) (hr : (Region.ready .any ops listed).contains i = true)
    (hQ : ∀ c a w, Q (.panic c) (a.put (some d) undef) w → Q (.panic c) a w) (hS : S w) (h : AH P ops Q S fuel (listed.setIfInBounds i true) (a.put (some d) undef) w) : AH P ops Q S (fuel + 1) listed a w :=
  ⟨wpAnyH_take hi hs hf hr (by rw [hd]; exact hQ) (.inr ⟨hw, rfl⟩) hS (by rw [hd]; exact h.out)⟩
/-- One operation of those that may come up, shut. -/
structure AO (P : Program) (ops : Array Oper) (Q : Exit → Act → World → Prop) (S : World → Prop) (fuel : Nat) (listed : Array Bool) (i : Nat) (a : Act) (w : World) : Prop where
  out : wpOp P ops Q i (fun a' w' => S w' ∧ wpAnyH P .any ops Q S fuel (listed.setIfInBounds i true) a' w') a w
theorem ah_one {fuel : Nat} {listed : Array Bool} (i : Nat) (hr : Region.ready .any ops listed = [i]) (h : AO P ops Q S fuel listed i a w) : AH P ops Q S (fuel + 1) listed a w :=
  ⟨wpAnyH_all hr (by simp) fun j hj => by
    obtain rfl : j = i := by simpa using hj
    exact h.out⟩
theorem ah_two {fuel : Nat} {listed : Array Bool} (i k : Nat) (hr : Region.ready .any ops listed = [i, k]) (h : AO P ops Q S fuel listed i a w) (h2 : AO P ops Q S fuel listed k a w) : AH P ops Q S (fuel + 1) listed a w :=
  ⟨wpAnyH_all hr (by simp) fun j hj => by
    rcases (show j = i ∨ j = k by simpa using hj) with rfl | rfl
    · exact h.out
    · exact h2.out⟩
theorem ah_three {fuel : Nat} {listed : Array Bool} (i k l : Nat) (hr : Region.ready .any ops listed = [i, k, l]) (h : AO P ops Q S fuel listed i a w) (h2 : AO P ops Q S fuel listed k a w) (h3 : AO P ops Q S fuel listed l a w) : AH P ops Q S (fuel + 1) listed a w :=
  ⟨wpAnyH_all hr (by simp) fun j hj => by
    rcases (show j = i ∨ j = k ∨ j = l by simpa using hj) with rfl | rfl | rfl
    · exact h.out
    · exact h2.out
    · exact h3.out⟩
theorem ao_wp {fuel : Nat} {listed : Array Bool} {i : Nat} {oi : Oper} (hi : ops[i]? = some oi) (hw : Region.wanted oi (yielded ops a.tmps) = true) (K : Value → World → Prop) (hop : opTo P oi a w K) (h : ∀ v w', K v w' → S w' ∧ AH P ops Q S fuel (listed.setIfInBounds i true) (a.put oi.dst v) w') : AO P ops Q S fuel listed i a w := by
  refine ⟨?_⟩
  unfold wpOp
  rw [hi]
  simp only [hw, if_true]
  exact .inl (opTo_wp hop fun v w' hv => ⟨(h v w' hv).1, (h v w' hv).2.out⟩)
theorem ao_run {fuel : Nat} {listed : Array Bool} {i : Nat} {oi : Oper} (hi : ops[i]? = some oi) (hw : Region.wanted oi (yielded ops a.tmps) = true) (d : Nat) (v : Value) (w1 : World) (hd : oi.dst = some d) (hrun : (execOp a.eval oi).run P w = .ok (.value v) w1) (hS : S w1) (h : AH P ops Q S fuel (listed.setIfInBounds i true) (a.put (some d) v) w1) : AO P ops Q S fuel listed i a w :=
  ao_wp hi hw (fun u w' => u = v ∧ w' = w1) (.inl ⟨v, w1, hrun, rfl, rfl⟩) fun u w' ⟨hu, hw'⟩ => by rw [hu, hw', hd]; exact ⟨hS, h⟩
theorem ao_call {fuel : Nat} {listed : Array Bool} {i : Nat} {oi : Oper} (hi : ops[i]? = some oi) (hw : Region.wanted oi (yielded ops a.tmps) = true) (d : Nat) (K : Value → World → Prop) (hd : oi.dst = some d) (f : FuncId) (args : Array Value) (hr : (execOp a.eval oi).run P w = .ok (.enter f args) w)
    (hc : Calls P f args w fun e w' => ∃ v, e = .returned v ∧ K v w') (h : ∀ v w', K v w' → S w' ∧ AH P ops Q S fuel (listed.setIfInBounds i true) (a.put (some d) v) w') : AO P ops Q S fuel listed i a w :=
  ao_wp hi hw K (.inr (.inl ⟨f, args, hr, hc⟩)) fun u w' hu => by rw [hd]; exact h _ _ hu
theorem ao_to {fuel : Nat} {listed : Array Bool} {i : Nat} {oi : Oper} (hi : ops[i]? = some oi) (hw : Region.wanted oi (yielded ops a.tmps) = true) (d : Nat) (K : Value → World → Prop) (hd : oi.dst = some d) (hop : opTo P oi a w K)
    (h : ∀ v w', K v w' → S w' ∧ AH P ops Q S fuel (listed.setIfInBounds i true) (a.put (some d) v) w') : AO P ops Q S fuel listed i a w :=
  ao_wp hi hw K hop fun u w' hu => by rw [hd]; exact h _ _ hu
theorem ao_skip {fuel : Nat} {listed : Array Bool} {i : Nat} {oi : Oper} (hi : ops[i]? = some oi) (hw : Region.wanted oi (yielded ops a.tmps) = true) (hd : oi.dst = none) (w1 : World) (hrun : (execOp a.eval oi).run P w = .ok .skip w1) (hS : S w1) (h : AH P ops Q S fuel (listed.setIfInBounds i true) a w1) : AO P ops Q S fuel listed i a w :=
  ao_wp hi hw (fun _ w' => w' = w1) (.inr (.inr ⟨w1, hrun, rfl⟩)) fun u w' hw' => by rw [hw', hd]; exact ⟨hS, h⟩
theorem ao_no {fuel : Nat} {listed : Array Bool} {i : Nat} {oi : Oper} (hi : ops[i]? = some oi) (hw : Region.wanted oi (yielded ops a.tmps) = false) (d : Nat) (hd : oi.dst = some d) (hS : S w) (h : AH P ops Q S fuel (listed.setIfInBounds i true) (a.put (some d) undef) w) : AO P ops Q S fuel listed i a w := by
  refine ⟨?_⟩
  unfold wpOp
  rw [hi]
  simp only [hw, Bool.false_eq_true, if_false, hd]
  exact ⟨hS, h.out⟩
theorem run_nilOp {ρ : Operand → Value} {d : Option Tmp} {ty : TypeId} {pos : String} {af : Array Edge} {g : Option (Nat × Bool)} {x : Operand} {ad : Addr} (hx : ρ x = .pointer (some ad)) :
    (execOp ρ ⟨d, .nilCheck x, ty, pos, af, g⟩).run P w = .ok (.value (.pointer (some ad))) w := by
  simp [execOp, hx, go_sem]
end
end Go
