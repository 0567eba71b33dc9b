/-
  Words of our own, of no program: the reckoner: code.
-/
import Derived.Test.YtlkchdbbpnkbfaaGreatDoorRkU
namespace Go.Rk
open Go.RowKit
noncomputable section
/-- A scope, with so many jumps in it at most. -/
def Exit.jumpN (J : Nat → Act → World → Prop) (Q : Exit → Act → World → Prop) : Exit → Act → World → Prop
  | .goto l, a, w => J l a w
  | e, a, w => Q e a w
def jumpsWp (P : Program) (c : Code) (Q : Exit → Act → World → Prop) : Nat → Nat → Act → World → Prop
  | 0, _, _, _ => False
  | n + 1, l, a, w => match findLabel c l with
    | some rest => rest.wp P (Exit.jumpN (jumpsWp P c Q n) Q) a w
    | none => Q (.goto l) a w
theorem wp_scope_n {P : Program} {c : Code} {Q : Exit → Act → World → Prop} {a : Act} {w : World} (n : Nat) (first : c.wp P (Exit.jumpN (jumpsWp P c Q n) Q) a w) : (Code.scope c).wp P Q a w := by
  intro b k cs
  have key : ∀ n l a w, jumpsWp P c Q n l a w → ∃ e a' w', Q e a' w' ∧ ∀ m, (∀ k', gotoIn l (.inScope c :: k) = some k' → Steps P m (lone (b.at a k') cs w)) → Arrives P m b k cs e a' w' := by
    intro n
    induction n with
    | zero => intro l a w h; exact h.elim
    | succ n ih =>
      intro l a w h
      unfold jumpsWp at h
      cases hf : findLabel c l with
      | none =>
        rw [hf] at h
        exact ⟨.goto l, a, w, h, fun m hm k' hk => hm k' (by simp [gotoIn, hf, hk])⟩
      | some rest =>
        rw [hf] at h
        dsimp only at h
        have hg : gotoIn l (.inScope c :: k) = some (.code rest :: .inScope c :: k) := by simp [gotoIn, hf]
        obtain ⟨e, a₁, w₁, hq, harr⟩ := h b (.inScope c :: k) cs
        cases e with
        | normal => exact ⟨.normal, a₁, w₁, hq, fun m hm => (hm _ hg).trans (Steps.trans harr (.one step_inScope))⟩
        | exit id => exact ⟨.exit id, a₁, w₁, hq, fun m hm k' hk => (hm _ hg).trans (harr k' (by simp [exitTo, hk]))⟩
        | goto l' =>
          obtain ⟨e₂, a₂, w₂, hq₂, harr₂⟩ := ih l' a₁ w₁ hq
          exact ⟨e₂, a₂, w₂, hq₂, fun m hm => harr₂ m fun k' hk => (hm _ hg).trans (harr k' hk)⟩
        | ret => exact ⟨_, a₁, w₁, hq, fun m hm => .of_steps (hm _ hg) harr⟩
        | panic ch => exact ⟨_, a₁, w₁, hq, fun m hm => .of_steps (hm _ hg) harr⟩
        | outgrown => exact ⟨_, a₁, w₁, hq, fun m hm => .of_steps (hm _ hg) harr⟩
  obtain ⟨e, a₁, w₁, hq, harr⟩ := first b (.inScope c :: k) cs
  cases e with
  | normal => exact ⟨.normal, a₁, w₁, hq, .head step_scope (Steps.trans harr (.one step_inScope))⟩
  | exit id => exact ⟨.exit id, a₁, w₁, hq, fun k' hk => .head step_scope (harr k' (by simp [exitTo, hk]))⟩
  | goto l' =>
    obtain ⟨e₂, a₂, w₂, hq₂, harr₂⟩ := key n l' a₁ w₁ hq
    exact ⟨e₂, a₂, w₂, hq₂, harr₂ _ fun k' hk => .head step_scope (harr k' hk)⟩
  | ret => exact ⟨_, a₁, w₁, hq, .of_steps (.one step_scope) harr⟩
  | panic ch => exact ⟨_, a₁, w₁, hq, .of_steps (.one step_scope) harr⟩
  | outgrown => exact ⟨_, a₁, w₁, hq, .of_steps (.one step_scope) harr⟩
def toE : Ex → Exit | .nx => .normal | .ret => .ret | .ex n => .exit n | .go l => .goto l
variable {P : Program} {ev : Nat → Nat} {B N : Nat}
def CcOk (P : Program) (ev : Nat → Nat) (B N : Nat) (call : CallF) (c : CC) (code : Code) : Prop :=
  ∀ (m : Nat) (fr : Fm) (σ : Heap) (k : K3), c.run call m fr σ k = true → ∃ e fr' σ', k e fr' σ' = true ∧ RunS P ev B N code fr σ (toE e) fr' σ'
/-- Ahead and on. -/
theorem RunS.step {c : Code} {fr fr1 fr2 : Fm} {σ σ1 σ2 : Heap} {e : Exit} {X : Exit → Act → World → Prop} (h : RunS P ev B N c fr σ e fr1 σ1) {ρ : Ren} {a : Act} {w : World} (hB : B ≤ w.heap.size) (hf : FR ev N ρ fr a) (hr : HR ev B σ ρ w)
    {Y : Act → World → Prop} (hY : ∀ ρ' a' w', Ext ρ σ ρ' σ2 → FR ev N ρ' fr2 a' → HR ev B σ2 ρ' w' → Below B w w' → B ≤ w'.heap.size → Y a' w')
    (hX : ∀ ρ1 a1 w1, B ≤ w1.heap.size → FR ev N ρ1 fr1 a1 → HR ev B σ1 ρ1 w1 → (∀ ρ' a' w', Ext ρ1 σ1 ρ' σ2 → FR ev N ρ' fr2 a' → HR ev B σ2 ρ' w' → Below B w1 w' → B ≤ w'.heap.size → Y a' w') → X e a1 w1) : c.wp P X a w :=
  h ρ a w X hB hf hr fun ρ1 a1 w1 e1 f1 h1 b1 s1 => hX ρ1 a1 w1 s1 f1 h1 fun ρ' a' w' e2 f2 h2 b2 s2 => hY ρ' a' w' (e1.trans e2) f2 h2 (b1.trans b2) s2
theorem loop_ok {call : CallF} {cc : CC} {c : Code} (hc : CcOk P ev B N call cc c) {n0 : Nat} : ∀ (n : Nat) {fr : Fm} {σ : Heap} {k : K3},
    Nat.rec (motive := fun _ => Fm → Heap → K3 → Bool) (fun _ _ _ => false) (fun _ ih fr σ k => cc.run call n0 fr σ fun e fr σ => seqK e fr σ (fun fr σ => ih fr σ k) k) n fr σ k = true →
    ∃ e fr' σ', k e fr' σ' = true ∧ ∀ (ρ : Ren) (a : Act) (w : World) (Q : Exit → Act → World → Prop), B ≤ w.heap.size → FR ev N ρ fr a → HR ev B σ ρ w →
      (∀ ρ' a' w', Ext ρ σ ρ' σ' → FR ev N ρ' fr' a' → HR ev B σ' ρ' w' → Below B w w' → B ≤ w'.heap.size → Q (toE e) a' w') → Code.rounds P c Q n a w
  | 0, fr, σ, k, h => nomatch (show false = true from h)
  | n + 1, fr, σ, k, h => by
    obtain ⟨e, fr1, σ1, h1, h2⟩ := hc n0 fr σ _ h
    cases e with
    | nx =>
      obtain ⟨e', fr', σ', h3, h4⟩ := loop_ok hc n h1
      exact ⟨e', fr', σ', h3, fun ρ a w Q hB hf hr hQ => h2.step hB hf hr hQ fun ρ1 a1 w1 s1 f1 r1 hn => h4 ρ1 a1 w1 Q s1 f1 r1 hn⟩
    | ret => exact ⟨.ret, fr1, σ1, h1, fun ρ a w Q hB hf hr hQ => h2 ρ a w _ hB hf hr hQ⟩
    | ex i => exact ⟨.ex i, fr1, σ1, h1, fun ρ a w Q hB hf hr hQ => h2 ρ a w _ hB hf hr hQ⟩
    | go l => exact ⟨.go l, fr1, σ1, h1, fun ρ a w Q hB hf hr hQ => h2 ρ a w _ hB hf hr hQ⟩
theorem jump_ok {call : CallF} {c : Code} {f : Code → CC} (hc : ∀ c, CcOk P ev B N call (f c) c) {n0 : Nat} : ∀ (n : Nat) {l : Nat} {fr : Fm} {σ : Heap} {k : K3},
    Nat.rec (motive := fun _ => Nat → Fm → Heap → K3 → Bool) (fun _ _ _ _ => false) (fun _ ih l fr σ k => match (findLabel c l).map f with
      | some c => c.run call n0 fr σ fun e fr σ => goK e fr σ ih k
      | none => k (.go l) fr σ) n l fr σ k = true →
    ∃ e fr' σ', k e fr' σ' = true ∧ ∀ (ρ : Ren) (a : Act) (w : World) (Q : Exit → Act → World → Prop), B ≤ w.heap.size → FR ev N ρ fr a → HR ev B σ ρ w →
      (∀ ρ' a' w', Ext ρ σ ρ' σ' → FR ev N ρ' fr' a' → HR ev B σ' ρ' w' → Below B w w' → B ≤ w'.heap.size → Q (toE e) a' w') → jumpsWp P c Q n l a w
  | 0, l, fr, σ, k, h => nomatch (show false = true from h)
  | n + 1, l, fr, σ, k, h => by
    dsimp only at h
    cases hf : findLabel c l with
    | none =>
      rw [hf] at h
      refine ⟨.go l, fr, σ, h, fun ρ a w Q hB hfr hr hQ => ?_⟩
      unfold jumpsWp
      rw [hf]
      exact hQ ρ a w (Ext.refl _ _) hfr hr (Below.refl B w) hB
    | some rest =>
      rw [hf] at h
      simp only [Option.map_some] at h
      obtain ⟨e, fr1, σ1, h1, h2⟩ := hc rest n0 fr σ _ h
      have fin : ∀ {x : Ex}, k x fr1 σ1 = true → RunS P ev B N rest fr σ (toE x) fr1 σ1 → (∀ J Q a w, Q (toE x) a w → Exit.jumpN J Q (toE x) a w) → ∃ e fr' σ', k e fr' σ' = true ∧ ∀ (ρ : Ren) (a : Act) (w : World) (Q : Exit → Act → World → Prop), B ≤ w.heap.size → FR ev N ρ fr a → HR ev B σ ρ w →
          (∀ ρ' a' w', Ext ρ σ ρ' σ' → FR ev N ρ' fr' a' → HR ev B σ' ρ' w' → Below B w w' → B ≤ w'.heap.size → Q (toE e) a' w') → jumpsWp P c Q (n + 1) l a w := by
        intro x hx h2 hJ
        refine ⟨x, fr1, σ1, hx, fun ρ a w Q hB hfr hr hQ => ?_⟩
        unfold jumpsWp
        rw [hf]
        exact h2 ρ a w _ hB hfr hr fun ρ' a' w' e1 f1 r1 b1 s1 => hJ _ Q a' w' (hQ ρ' a' w' e1 f1 r1 b1 s1)
      cases e with
      | nx => exact fin h1 h2 fun _ _ _ _ h => h
      | ret => exact fin h1 h2 fun _ _ _ _ h => h
      | ex i => exact fin h1 h2 fun _ _ _ _ h => h
      | go l' =>
        obtain ⟨e', fr', σ', h3, h4⟩ := jump_ok hc n h1
        refine ⟨e', fr', σ', h3, fun ρ a w Q hB hfr hr hQ => ?_⟩
        unfold jumpsWp
        rw [hf]
        exact h2.step hB hfr hr hQ fun ρ1 a1 w1 s1 f1 r1 hn => h4 ρ1 a1 w1 Q s1 f1 r1 hn
theorem noC_ok {call : CallF} {code : Code} : CcOk P ev B N call noC code := fun _ _ _ _ h => nomatch (show false = true from h)
theorem code_ok (hm : P.follows .mixedOrders = true) (hN : N ≤ 512) {call : CallF} (hcall : CallOk P ev B call) : ∀ (n : Nat) (code : Code), CcOk P ev B N call (cCode P N n code) code
  | 0, _ => noC_ok
  | n + 1, code => by
    have ih := code_ok hm hN hcall n
    cases code <;> try exact noC_ok
    case skip => exact fun m fr σ k h => ⟨.nx, fr, σ, h, fun ρ a w Q hB hf hr hQ => wp_skip (hQ ρ a w (Ext.refl _ _) hf hr (Below.refl B w) hB)⟩
    case region id ops d =>
      unfold cCode
      dsimp only
      split
      · rename_i l hl
        intro m fr σ k h
        obtain ⟨fr', σ', h1, h2⟩ := region_ok (ev := ev) (B := B) (id := id) hm hN hcall hl (k := fun fr σ => k .nx fr σ) h
        exact ⟨.nx, fr', σ', h1, h2⟩
      · exact noC_ok
    case seq x y =>
      intro m fr σ k h
      obtain ⟨e, fr1, σ1, h1, h2⟩ := ih x m fr σ _ h
      cases e with
      | nx =>
        obtain ⟨e', fr', σ', h3, h4⟩ := ih y m fr1 σ1 _ h1
        exact ⟨e', fr', σ', h3, fun ρ a w Q hB hf hr hQ => wp_seq (h2.step hB hf hr hQ fun ρ1 a1 w1 s1 f1 r1 hn => h4 ρ1 a1 w1 Q s1 f1 r1 hn)⟩
      | ret => exact ⟨.ret, fr1, σ1, h1, fun ρ a w Q hB hf hr hQ => wp_seq (h2 ρ a w _ hB hf hr hQ)⟩
      | ex i => exact ⟨.ex i, fr1, σ1, h1, fun ρ a w Q hB hf hr hQ => wp_seq (h2 ρ a w _ hB hf hr hQ)⟩
      | go l => exact ⟨.go l, fr1, σ1, h1, fun ρ a w Q hB hf hr hQ => wp_seq (h2 ρ a w _ hB hf hr hQ)⟩
    case cond x y z =>
      unfold cCode
      dsimp only
      split
      · rename_i hok
        intro m fr σ k h
        obtain ⟨t, hx, h1⟩ := asB_inv (show asB (oval x fr) _ = true from h)
        have hev : ∀ {ρ : Ren} {a : Act}, FR ev N ρ fr a → a.eval x = .bool t := fun {ρ a} hf => by
          have := oval_VR (ev := ev) (ρ := ρ) (fr := fr) (a := a) hok (fun s hs => by
            subst hs
            exact hf.2.2 s (Nat.le_of_ble_eq_true hok))
          rw [hx] at this
          exact this.asB
        rcases iff_inv h1 with ⟨ht, h2⟩ | ⟨ht, h2⟩
        · obtain ⟨e, fr', σ', h3, h4⟩ := ih y m fr σ _ h2
          exact ⟨e, fr', σ', h3, fun ρ a w Q hB hf hr hQ => wp_cond (hev hf) (by rw [ht]; exact h4 ρ a w Q hB hf hr hQ)⟩
        · obtain ⟨e, fr', σ', h3, h4⟩ := ih z m fr σ _ h2
          exact ⟨e, fr', σ', h3, fun ρ a w Q hB hf hr hQ => wp_cond (hev hf) (by rw [ht]; exact h4 ρ a w Q hB hf hr hQ)⟩
      · exact noC_ok
    case block id x =>
      intro m fr σ k h
      obtain ⟨e, fr1, σ1, h1, h2⟩ := ih x m fr σ _ h
      cases e with
      | nx => exact ⟨.nx, fr1, σ1, h1, fun ρ a w Q hB hf hr hQ => wp_block (h2 ρ a w _ hB hf hr hQ)⟩
      | ret => exact ⟨.ret, fr1, σ1, h1, fun ρ a w Q hB hf hr hQ => wp_block (h2 ρ a w _ hB hf hr hQ)⟩
      | ex i =>
        rcases iff_inv (show iff_ (Nat.beq i id) _ _ = true from h1) with ⟨g, h3⟩ | ⟨g, h3⟩
        · have := Nat.eq_of_beq_eq_true g
          subst this
          exact ⟨.nx, fr1, σ1, h3, fun ρ a w Q hB hf hr hQ => wp_block (h2 ρ a w _ hB hf hr fun ρ' a' w' e1 f1 r1 b1 s1 => by
            show (if i = i then Q .normal a' w' else Q (.exit i) a' w')
            rw [if_pos rfl]; exact hQ ρ' a' w' e1 f1 r1 b1 s1)⟩
        · exact ⟨.ex i, fr1, σ1, h3, fun ρ a w Q hB hf hr hQ => wp_block (h2 ρ a w _ hB hf hr fun ρ' a' w' e1 f1 r1 b1 s1 => by
            show (if i = id then Q .normal a' w' else Q (.exit i) a' w')
            rw [if_neg (Nat.ne_of_beq_eq_false g)]; exact hQ ρ' a' w' e1 f1 r1 b1 s1)⟩
      | go l => exact ⟨.go l, fr1, σ1, h1, fun ρ a w Q hB hf hr hQ => wp_block (h2 ρ a w _ hB hf hr hQ)⟩
    case loop x =>
      intro m fr σ k h
      obtain ⟨e, fr', σ', h1, h2⟩ := loop_ok (ih x) m h
      exact ⟨e, fr', σ', h1, fun ρ a w Q hB hf hr hQ => wp_loop_rounds m (h2 ρ a w Q hB hf hr hQ)⟩
    case exit id => exact fun m fr σ k h => ⟨.ex id, fr, σ, h, fun ρ a w Q hB hf hr hQ => wp_exit (hQ ρ a w (Ext.refl _ _) hf hr (Below.refl B w) hB)⟩
    case scope x =>
      intro m fr σ k h
      obtain ⟨e, fr1, σ1, h1, h2⟩ := ih x m fr σ _ h
      cases e with
      | nx => exact ⟨.nx, fr1, σ1, h1, fun ρ a w Q hB hf hr hQ => wp_scope_n 0 (h2 ρ a w _ hB hf hr hQ)⟩
      | ret => exact ⟨.ret, fr1, σ1, h1, fun ρ a w Q hB hf hr hQ => wp_scope_n 0 (h2 ρ a w _ hB hf hr hQ)⟩
      | ex i => exact ⟨.ex i, fr1, σ1, h1, fun ρ a w Q hB hf hr hQ => wp_scope_n 0 (h2 ρ a w _ hB hf hr hQ)⟩
      | go l =>
        obtain ⟨e', fr', σ', h3, h4⟩ := jump_ok (c := x) ih m h1
        exact ⟨e', fr', σ', h3, fun ρ a w Q hB hf hr hQ => wp_scope_n m (h2.step hB hf hr hQ fun ρ1 a1 w1 s1 f1 r1 hn => h4 ρ1 a1 w1 Q s1 f1 r1 hn)⟩
    case label l => exact fun m fr σ k h => ⟨.nx, fr, σ, h, fun ρ a w Q hB hf hr hQ => wp_label (hQ ρ a w (Ext.refl _ _) hf hr (Below.refl B w) hB)⟩
    case goto l => exact fun m fr σ k h => ⟨.go l, fr, σ, h, fun ρ a w Q hB hf hr hQ => wp_goto (hQ ρ a w (Ext.refl _ _) hf hr (Below.refl B w) hB)⟩
    case ret => exact fun m fr σ k h => ⟨.ret, fr, σ, h, fun ρ a w Q hB hf hr hQ => wp_ret (hQ ρ a w (Ext.refl _ _) hf hr (Below.refl B w) hB)⟩
end
end Go.Rk
