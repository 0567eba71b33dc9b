/-
  Words of our own, of no program: bytes in memory, sums, masks. (For the walks.)
-/
import Derived.Test.YtpgnlhfokffioaaDoorRows
import Derived.WalkKit
import Derived.WalkSpells
import Derived.Lib.Hide
import Derived.WalkLawsBesides
import Derived.BigQuiet
import Derived.Deep.QuietTactic
import Derived.Scope
namespace Go
/-! a scope with several labels: J l holds at each arrival at label l, and the measure goes down from label to label -/
def Code.isLabel : Code → Bool
  | .label _ => true
  | _ => false
/-- The labels of a scope's spine, each with what stands behind it. -/
def Code.spine : Code → List (Nat × Code)
  | .seq (.label l) b => (l, b) :: b.spine
  | .seq _ b => b.spine
  | _ => []
def Exit.jumpsTo (J : Nat → Act → World → Prop) (Q : Exit → Act → World → Prop) : Exit → Act → World → Prop
  | .goto l, a, w => J l a w
  | e, a, w => Q e a w
/-- A scope's body is run up to the next label of its spine: there J holds. -/
def wpSpine (P : Program) (J : Nat → Act → World → Prop) (Q : Exit → Act → World → Prop) : Code → Act → World → Prop
  | .seq (.label l) _, a, w => J l a w
  | .seq x y, a, w => x.wp P (Exit.then (wpSpine P J Q y) (Exit.jumpsTo J Q)) a w
  | c, a, w => c.wp P (Exit.jumpsTo J Q) a w
section
variable {P : Program} {J : Nat → Act → World → Prop} {Q : Exit → Act → World → Prop} {a : Act} {w : World}
theorem wpSpine_label {l : Nat} {b : Code} (h : J l a w) : wpSpine P J Q (.seq (.label l) b) a w := by simpa [wpSpine] using h
theorem wpSpine_seq {x y : Code} (hx : x.isLabel = false) (h : ∀ K : Act → World → Prop, (∀ a w, wpSpine P J Q y a w → K a w) → x.wp P (Exit.then K (Exit.jumpsTo J Q)) a w) : wpSpine P J Q (.seq x y) a w := by
  have h' := h _ (fun _ _ h => h)
  cases x <;> first | exact h' | simp [Code.isLabel] at hx
theorem wpSpine_last {c : Code} (hc : c.spine = []) (h : c.wp P (Exit.jumpsTo J Q) a w) (hs : ∀ x y, c ≠ .seq x y) : wpSpine P J Q c a w := by
  cases c <;> first | exact h | exact (hs _ _ rfl).elim
theorem wpSpine_sound {c0 : Code} : ∀ (c : Code), (∀ p ∈ c.spine, p ∈ c0.spine) → ∀ (a : Act) (w : World), wpSpine P J Q c a w →
    ∀ b k cs, ∃ e a' w', ((∃ l B, e = .goto l ∧ J l a' w' ∧ (l, B) ∈ c0.spine ∧ Steps P (lone (b.at a (.code c :: .inScope c0 :: k)) cs w) (lone (b.at a' (.code B :: .inScope c0 :: k)) cs w')) ∨
      (Exit.jumpsTo J Q e a' w' ∧ Arrives P (lone (b.at a (.code c :: .inScope c0 :: k)) cs w) b (.inScope c0 :: k) cs e a' w')) := by
  intro c
  have other : ∀ c a w, c.wp P (Exit.jumpsTo J Q) a w → ∀ b k cs, ∃ e a' w', ((∃ l B, e = .goto l ∧ J l a' w' ∧ (l, B) ∈ c0.spine ∧ Steps P (lone (b.at a (.code c :: .inScope c0 :: k)) cs w) (lone (b.at a' (.code B :: .inScope c0 :: k)) cs w')) ∨
      (Exit.jumpsTo J Q e a' w' ∧ Arrives P (lone (b.at a (.code c :: .inScope c0 :: k)) cs w) b (.inScope c0 :: k) cs e a' w')) := by
    intro c a w h b k cs
    obtain ⟨e, a', w', hq, harr⟩ := h b (.inScope c0 :: k) cs
    exact ⟨e, a', w', .inr ⟨hq, harr⟩⟩
  induction c with
  | seq x y _ ihy =>
    intro hs a w h b k cs
    by_cases hx : ∃ l, x = .label l
    · obtain ⟨l, rfl⟩ := hx
      exact ⟨.goto l, a, w, .inl ⟨l, y, rfl, h, hs _ (by simp [Code.spine]), .head step_seq (.one step_label)⟩⟩
    · have h' : x.wp P (Exit.then (wpSpine P J Q y) (Exit.jumpsTo J Q)) a w := by
        cases x <;> first | exact h | exact (hx ⟨_, rfl⟩).elim
      have hs' : ∀ p ∈ y.spine, p ∈ c0.spine := by
        intro p hp; apply hs; cases x <;> first | exact hp | exact (hx ⟨_, rfl⟩).elim
      obtain ⟨e, a₁, w₁, hq, harr⟩ := h' b (.code y :: .inScope c0 :: k) cs
      cases e with
      | normal =>
        obtain ⟨e₂, a₂, w₂, h2⟩ := ihy hs' a₁ w₁ hq b k cs
        refine ⟨e₂, a₂, w₂, ?_⟩
        rcases h2 with ⟨l, B, he, hJ, hm, hst⟩ | ⟨hq2, h2⟩
        · exact .inl ⟨l, B, he, hJ, hm, .head step_seq (Steps.trans harr hst)⟩
        · exact .inr ⟨hq2, .of_steps (.head step_seq harr) h2⟩
      | exit id => exact ⟨.exit id, a₁, w₁, .inr ⟨hq, .of_steps (.one step_seq) (.pass (x := .code y) rfl (fun _ _ => .inl (by simp)) harr)⟩⟩
      | goto l => exact ⟨.goto l, a₁, w₁, .inr ⟨hq, .of_steps (.one step_seq) (.pass (x := .code y) rfl (fun _ _ => .inl (by simp)) harr)⟩⟩
      | ret => exact ⟨.ret, a₁, w₁, .inr ⟨hq, .of_steps (.one step_seq) (.pass (x := .code y) rfl (fun _ _ => .inl (by simp)) harr)⟩⟩
      | panic ch => exact ⟨.panic ch, a₁, w₁, .inr ⟨hq, .of_steps (.one step_seq) (.pass (x := .code y) rfl (fun _ _ => .inl (by simp)) harr)⟩⟩
      | outgrown => exact ⟨.outgrown, a₁, w₁, .inr ⟨hq, .of_steps (.one step_seq) (.pass (x := .code y) rfl (fun _ _ => .inl (by simp)) harr)⟩⟩
  | _ => 
    intro hs a w h b k cs
    exact other _ a w h b k cs
/-- A SCOPE WITH LABELS: J l holds at each arrival at label l, by a jump or by falling through, and the measure goes down from label to label. -/
theorem wp_scope_spine {c : Code} (J : Nat → Act → World → Prop) (μ : Nat → Act → World → Nat)
    (hf : ∀ p ∈ c.spine, findLabel c p.1 = some (.seq .skip p.2)) (hJ : ∀ l a w, J l a w → ∃ B, (l, B) ∈ c.spine)
    (hsub : ∀ p ∈ c.spine, ∀ q ∈ p.2.spine, q ∈ c.spine)
    (first' : ∀ J' : Nat → Act → World → Prop, (∀ l a' w', J l a' w' → J' l a' w') → wpSpine P J' Q c a w)
    (pass' : ∀ p ∈ c.spine, ∀ a w, J p.1 a w → ∀ J' : Nat → Act → World → Prop, (∀ l' a' w', J l' a' w' ∧ μ l' a' w' < μ p.1 a w → J' l' a' w') → wpSpine P J' Q p.2 a w) : (Code.scope c).wp P Q a w := by
  have first : wpSpine P J Q c a w := first' _ fun _ _ _ h => h
  have pass : ∀ p ∈ c.spine, ∀ a w, J p.1 a w → wpSpine P (fun l' a' w' => J l' a' w' ∧ μ l' a' w' < μ p.1 a w) Q p.2 a w := fun p hp a w hJ => pass' p hp a w hJ _ fun _ _ _ h => h
  intro b k cs
  have hjump : ∀ l B, (l, B) ∈ c.spine → ∀ (a : Act) w, ∀ m, Steps P m (lone (b.at a (.code (.seq .skip B) :: .inScope c :: k)) cs w) → Steps P m (lone (b.at a (.code B :: .inScope c :: k)) cs w) :=
    fun l B hm a w m h => Steps.trans h (.head step_seq (.one step_skip))
  have key : ∀ n l a w B, μ l a w = n → J l a w → (l, B) ∈ c.spine → ∃ e a' w', Q e a' w' ∧ Arrives P (lone (b.at a (.code B :: .inScope c :: k)) cs w) b k cs e a' w' := by
    intro n
    induction n using Nat.strongRecOn with
    | _ n ih =>
      intro l a w B hn hJl hm
      obtain ⟨e, a₁, w₁, h1⟩ := wpSpine_sound (c0 := c) B (fun q hq => hsub _ hm q hq) a w (pass _ hm a w hJl) b k cs
      rcases h1 with ⟨l', B', rfl, ⟨hJ', hlt⟩, hm', hst⟩ | ⟨hq, harr⟩
      · obtain ⟨e₂, a₂, w₂, hq₂, harr₂⟩ := ih _ (hn ▸ hlt) l' a₁ w₁ B' rfl hJ' hm'
        exact ⟨e₂, a₂, w₂, hq₂, .of_steps hst harr₂⟩
      · cases e with
        | normal => exact ⟨.normal, a₁, w₁, hq, Steps.trans harr (.one step_inScope)⟩
        | exit id => exact ⟨.exit id, a₁, w₁, hq, fun k' hk => harr k' (by simp [exitTo, hk])⟩
        | goto l' =>
          obtain ⟨hJ', hlt⟩ := hq
          obtain ⟨B', hm'⟩ := hJ _ _ _ hJ'
          obtain ⟨e₂, a₂, w₂, hq₂, harr₂⟩ := ih _ (hn ▸ hlt) l' a₁ w₁ B' rfl hJ' hm'
          exact ⟨e₂, a₂, w₂, hq₂, .of_steps (hjump _ _ hm' _ _ _ (harr _ (by simp [gotoIn, hf _ hm']))) harr₂⟩
        | ret => exact ⟨_, a₁, w₁, hq, harr⟩
        | panic ch => exact ⟨_, a₁, w₁, hq, harr⟩
        | outgrown => exact ⟨_, a₁, w₁, hq, harr⟩
  obtain ⟨e, a₁, w₁, h1⟩ := wpSpine_sound (c0 := c) c (fun _ h => h) a w first b k cs
  rcases h1 with ⟨l', B', rfl, hJ', hm', hst⟩ | ⟨hq, harr⟩
  · obtain ⟨e₂, a₂, w₂, hq₂, harr₂⟩ := key _ l' a₁ w₁ B' rfl hJ' hm'
    exact ⟨e₂, a₂, w₂, hq₂, .of_steps (.head step_scope hst) harr₂⟩
  · cases e with
    | normal => exact ⟨.normal, a₁, w₁, hq, .head step_scope (Steps.trans harr (.one step_inScope))⟩
    | exit id => exact ⟨.exit id, a₁, w₁, hq, fun k' hk => .head step_scope (harr k' (by simp [exitTo, hk]))⟩
    | goto l' =>
      obtain ⟨B', hm'⟩ := hJ _ _ _ hq
      obtain ⟨e₂, a₂, w₂, hq₂, harr₂⟩ := key _ l' a₁ w₁ B' rfl hq hm'
      exact ⟨e₂, a₂, w₂, hq₂, .of_steps (.head step_scope (hjump _ _ hm' _ _ _ (harr _ (by simp [gotoIn, hf _ hm'])))) harr₂⟩
    | ret => exact ⟨_, a₁, w₁, hq, .of_steps (.one step_scope) harr⟩
    | panic ch => exact ⟨_, a₁, w₁, hq, .of_steps (.one step_scope) harr⟩
    | outgrown => exact ⟨_, a₁, w₁, hq, .of_steps (.one step_scope) harr⟩
end
/-- A SCOPE WITH ONE LABEL, AT ITS END: what stands behind the label is walked at each arrival. -/
theorem wp_scope_end {P : Program} {Q : Exit → Act → World → Prop} {a : Act} {w : World} {c B : Code} {l : Nat} (hs : c.spine = [(l, B)]) (hf : findLabel c l = some (.seq .skip B))
    (h : ∀ J' : Nat → Act → World → Prop, (∀ a w, B.wp P (Exit.noGoto Q) a w → J' l a w) → wpSpine P J' Q c a w) : (Code.scope c).wp P Q a w := by
  intro b k cs
  have h' := h (fun l' a w => l' = l ∧ B.wp P (Exit.noGoto Q) a w) fun a w hB => ⟨rfl, hB⟩
  have run : ∀ a₁ w₁, B.wp P (Exit.noGoto Q) a₁ w₁ → ∃ e a' w', Q e a' w' ∧ Arrives P (lone (b.at a₁ (.code B :: .inScope c :: k)) cs w₁) b k cs e a' w' := by
    intro a₁ w₁ hB
    obtain ⟨e, a₂, w₂, hq, harr⟩ := hB b (.inScope c :: k) cs
    cases e with
    | normal => exact ⟨.normal, a₂, w₂, hq, Steps.trans harr (.one step_inScope)⟩
    | exit id => exact ⟨.exit id, a₂, w₂, hq, fun k' hk => harr k' (by simp [exitTo, hk])⟩
    | goto l' => exact hq.elim
    | ret => exact ⟨_, a₂, w₂, hq, harr⟩
    | panic ch => exact ⟨_, a₂, w₂, hq, harr⟩
    | outgrown => exact ⟨_, a₂, w₂, hq, harr⟩
  obtain ⟨e, a₁, w₁, h1⟩ := wpSpine_sound (c0 := c) c (fun _ h => h) a w h' b k cs
  rcases h1 with ⟨l', B', rfl, ⟨rfl, hB⟩, hm', hst⟩ | ⟨hq, harr⟩
  · rw [hs] at hm'
    obtain rfl : B' = B := by simpa using hm'
    obtain ⟨e₂, a₂, w₂, hq₂, harr₂⟩ := run a₁ w₁ hB
    exact ⟨e₂, a₂, w₂, hq₂, .of_steps (.head step_scope hst) harr₂⟩
  · cases e with
    | normal => exact ⟨.normal, a₁, w₁, hq, .head step_scope (Steps.trans harr (.one step_inScope))⟩
    | exit id => exact ⟨.exit id, a₁, w₁, hq, fun k' hk => .head step_scope (harr k' (by simp [exitTo, hk]))⟩
    | goto l' =>
      obtain ⟨rfl, hB⟩ := hq
      obtain ⟨e₂, a₂, w₂, hq₂, harr₂⟩ := run a₁ w₁ hB
      exact ⟨e₂, a₂, w₂, hq₂, .of_steps (.head step_scope (Steps.trans (harr _ (by simp [gotoIn, hf])) (.head step_seq (.one step_skip)))) harr₂⟩
    | ret => exact ⟨_, a₁, w₁, hq, .of_steps (.one step_scope) harr⟩
    | panic ch => exact ⟨_, a₁, w₁, hq, .of_steps (.one step_scope) harr⟩
    | outgrown => exact ⟨_, a₁, w₁, hq, .of_steps (.one step_scope) harr⟩
/-- What an append to a row of our own leaves, and WHERE: at its old place, or in a block that is new. -/
theorem run_append_at {P : Program} (w : World) (base : Nat) (t ty e : TypeId) (i : TypeInfo) (z : Value) (size bytes : Nat) (ht : P.underlying t = some (.slice e)) (hi : P.info? e = some i) (hz : i.zero = some z)
    (hsize : i.size = size) (hby : i.bytes = bytes) (hzs : z.cells.size = size) (hsz : 0 < size)
    (v : Value) (n : Nat) (xs : List Value) (hown : w.ownsRow base e size v n xs)
    (a : Addr) (m c : Nat) (news : List Value) (hl : news.length = m * size) (hnews : ∀ j u, news[j]? = some u → w.cell? (a.add j) = some u) (h1 : ∀ u ∈ news, u.oneCell' = true)
    (h63 : n + m ≤ maxLen) (hbytes : (n + m) * bytes ≤ 140737488355328) (hbase : base ≤ w.heap.size) :
    ∃ v' w', (Builtin.append_ #[t, t] ty #[v, .slice (some a) m c]).run P w = .ok v' w' ∧ w'.ownsRow base e size v' (n + m) (xs ++ news) ∧ w.grownBy w' v.ownBlock ∧
      (v'.ownBlock = v.ownBlock ∨ v'.ownBlock = some w.heap.size) := by
  obtain ⟨v', w', hr, h2, h3, h4⟩ := run_append_own (P := P) w base t ty e i z size bytes ht hi hz hsize hby hzs hsz v n xs hown a m c news hl hnews h1 h63 hbytes hbase
  refine ⟨v', w', hr, h2, h3, ?_⟩
  subst hsize hby
  have h63' : n + m ≤ 9223372036854775807 := by simpa [maxLen] using h63
  rcases hown.2 with ⟨rfl, rfl⟩ | ⟨g, cap, cur, rfl, hbg, hg, hnc, hcm, hcs, htake⟩
  · by_cases hm : m = 0
    · rw [h4.2 ⟨rfl, hm⟩]; exact .inl rfl
    · have hr2 := run_append_nil (P := P) w t ty e i z ht hi hz a m c news hl hnews (by omega) (by omega) (by have hb := hbytes; simp only [Nat.zero_add] at hb; omega)
      rw [hr] at hr2
      injection hr2 with hv _
      rw [hv]; exact .inr rfl
  · by_cases hroom : n + m ≤ cap
    · have hr2 := run_append_room (P := P) w t ty e i ht hi g n cap cur hg a m c news hl hnews h1 hroom (by rw [hl, hcs, ← Nat.add_mul]; exact Nat.mul_le_mul_right _ hroom)
      rw [hr] at hr2
      injection hr2 with hv _
      rw [hv]; exact .inl rfl
    · have hr2 := run_append_grow (P := P) w t ty e i z ht hi hz ⟨g, 0, none⟩ n cap xs hown.1 (hown.cells (g := g) rfl) a m c news hl hnews (by omega) (by omega) (growslice_fits (by omega) hbytes)
      rw [hr] at hr2
      injection hr2 with hv _
      rw [hv]; exact .inr rfl
theorem wpList_append_at {P : Program} (w : World) {ops : Array Oper} {rest : List Oper} {o : Oper} {a : Act} {Q : Exit → Act → World → Prop} (hgd : o.guard = none) (s x : Operand) (t : TypeId)
    (ho : o.op = .call { callee := .builtin .append, args := #[s, x], argTypes := #[t, t] })
    (base : Nat) (e : TypeId) (i : TypeInfo) (z : Value) (size bytes : Nat) (ht : P.underlying t = some (.slice e)) (hi : P.info? e = some i) (hz : i.zero = some z)
    (hsize : i.size = size) (hby : i.bytes = bytes) (hzs : z.cells.size = size) (hsz : 0 < size)
    (v : Value) (n : Nat) (xs : List Value) (hs : a.eval s = v) (hown : w.ownsRow base e size v n xs)
    (ad : Addr) (m c : Nat) (news : List Value) (hx : a.eval x = .slice (some ad) m c) (hl : news.length = m * size) (hnews : ∀ j u, news[j]? = some u → w.cell? (ad.add j) = some u) (h1 : ∀ u ∈ news, u.oneCell' = true)
    (h63 : n + m ≤ maxLen) (hbytes : (n + m) * bytes ≤ 140737488355328) (hbase : base ≤ w.heap.size)
    (h : ∀ v' w', w'.ownsRow base e size v' (n + m) (xs ++ news) → w.grownBy w' v.ownBlock → (v'.ownBlock = v.ownBlock ∨ v'.ownBlock = some w.heap.size) → wpList P ops Q rest (a.put o.dst v') w') : wpList P ops Q (o :: rest) a w := by
  obtain ⟨v', w', hr, h2, h3, h4⟩ := run_append_at (P := P) w base t o.type e i z size bytes ht hi hz hsize hby hzs hsz v n xs hown ad m c news hl hnews h1 h63 hbytes hbase
  refine wpList_plain hgd fun K hK => ?_
  unfold Oper.wp execOp
  simp only [ho, resolve, invoke, builtin, Sem.run_bind, Sem.run_pure, Result.andThen_ok, List.map_toArray, List.map_cons, List.map_nil, hs, hx, hr]
  exact hK _ _ (h v' w' h2 h3 h4)
theorem grown_trans {w w1 w2 : World} {r1 r2 : Option Nat} (h1 : w.grownBy w1 r1) (h2 : w1.grownBy w2 r2) (hr : ∀ k, r2 = some k → some k = r1 ∨ w.heap.size ≤ k) : w.grownBy w2 r1 :=
  ⟨h2.os.trans h1.os, h2.tape.trans h1.tape, h2.output.trans h1.output, Nat.le_trans h1.size h2.size, fun k hk hne => by
    rw [h2.block k (Nat.lt_of_lt_of_le hk h1.size) (fun e => by
      rcases hr k e.symm with h | h
      · exact hne h
      · omega)]
    exact h1.block k hk hne⟩
theorem grown_refl (w : World) (r : Option Nat) : w.grownBy w r := ⟨rfl, rfl, rfl, Nat.le_refl _, fun _ _ _ => rfl⟩
/-- A slice of our own has grown from v to v': nothing but its own row was written, and it lies where it lay, or in a new block. -/
def Grew (w w' : World) (v v' : Value) : Prop := w.grownBy w' v.ownBlock ∧ (v'.ownBlock = v.ownBlock ∨ ∃ k, v'.ownBlock = some k ∧ w.heap.size ≤ k)
theorem Grew.refl (w : World) (v : Value) : Grew w w v v := ⟨grown_refl _ _, .inl rfl⟩
theorem Grew.trans {w w1 w2 : World} {v v1 v2 : Value} (h1 : Grew w w1 v v1) (h2 : Grew w1 w2 v1 v2) : Grew w w2 v v2 := by
  refine ⟨grown_trans h1.1 h2.1 fun k hk => ?_, ?_⟩
  · rcases h1.2 with h | ⟨k', h, hle⟩
    · rw [h] at hk; exact .inl hk.symm
    · rw [h] at hk; injection hk with hk; exact .inr (by omega)
  · rcases h2.2 with h | ⟨k', h, hle⟩
    · rcases h1.2 with h' | ⟨k', h', hle⟩
      · exact .inl (h.trans h')
      · exact .inr ⟨k', h.trans h', hle⟩
    · exact .inr ⟨k', h, Nat.le_trans h1.1.size hle⟩
theorem Grew.alloc {w w1 : World} {v v1 : Value} (h : Grew w w1 v v1) (o : Obj) : Grew w (w1.alloc o) v v1 := h.trans ⟨World.grownBy_alloc _ _ _, .inl rfl⟩
/-- Behind an append by 'wpList_append_at', in the world where one cell was laid for the element. -/
theorem Grew.app {w w1 w2 : World} {v v1 v2 : Value} {o : Obj} (h : Grew w w1 v v1) (hg : (w1.alloc o).grownBy w2 v1.ownBlock) (hv : v2.ownBlock = v1.ownBlock ∨ v2.ownBlock = some (w1.heap.size + 1)) : Grew w w2 v v2 := by
  have hz : (w1.alloc o).heap.size = w1.heap.size + 1 := by simp
  rw [← hz] at hv
  refine (h.alloc o).trans ⟨hg, ?_⟩
  rcases hv with hv | hv
  · exact .inl hv
  · exact .inr ⟨_, hv, Nat.le_refl _⟩
theorem Grew.app0 {w w1 w2 : World} {v v1 v2 : Value} (h : Grew w w1 v v1) (hg : w1.grownBy w2 v1.ownBlock) (hv : v2.ownBlock = v1.ownBlock ∨ v2.ownBlock = some w1.heap.size) : Grew w w2 v v2 := by
  refine h.trans ⟨hg, ?_⟩
  rcases hv with hv | hv
  · exact .inl hv
  · exact .inr ⟨_, hv, Nat.le_refl _⟩
end Go
namespace Go.Proofs.YtpgnlhfokffioaaDoor
open Go.RowKit
/-- A callee that leaves the world alone, in a region that draws. -/
theorem quiet_eq {P : Program} {f : FuncId} {args : Array Value} {w : World} {n : Nat} {v : Value}
    (h : Calls P f args (w.drewN n) fun e w' => e = .returned v ∧ w.drewN n = w') : Calls P f args (w.drewN n) fun e w'' => e = .returned v ∧ ∃ m, w'' = w.drewN m :=
  h.mono fun _ _ ⟨he, hm⟩ => ⟨he, n, hm.symm⟩
/-- .. behind an earlier region that drew: the walk adds the counts up. -/
theorem quiet_eq2 {P : Program} {f : FuncId} {args : Array Value} {w : World} {k n : Nat} {v : Value}
    (h : Calls P f args (w.drewN (k + n)) fun e w' => e = .returned v ∧ w.drewN (k + n) = w') : Calls P f args (w.drewN (k + n)) fun e w'' => e = .returned v ∧ ∃ m, w'' = w.drewN (k + m) :=
  h.mono fun _ _ ⟨he, hm⟩ => ⟨he, n, hm.symm⟩
theorem quiet_of2 {P : Program} {f : FuncId} {args : Array Value} {w : World} {k n : Nat} {v : Value}
    (h : Calls P f args (w.drewN (k + n)) fun e w' => e = .returned v ∧ ∃ m, w' = (w.drewN (k + n)).drewN m) : Calls P f args (w.drewN (k + n)) fun e w'' => e = .returned v ∧ ∃ m, w'' = w.drewN (k + m) :=
  h.mono fun _ _ ⟨he, m, hm⟩ => ⟨he, n + m, by rw [hm, World.drewN_drewN, Nat.add_assoc]⟩
/-! numbers -/
theorem ofInt_toNat (n : Int) : (BitVec.ofInt 64 n).toNat = (n % 18446744073709551616).toNat := by
  simp [BitVec.toNat_ofInt]
theorem wrap_i64 (n : Int) (h : -9223372036854775808 ≤ n) (h' : n < 9223372036854775808) : IntKind.wrap .i64 n = n := by
  simp [IntKind.wrap, IntKind.bits, IntKind.signed]; omega
theorem and_mask (k : Nat) (hk : k ≤ 62) (n : Int) : bits .and .i64 n (2 ^ k - 1) = n % 2 ^ k := by
  have h1 : (BitVec.ofInt 64 ((2:Int) ^ k - 1)).toNat = 2 ^ k - 1 := by
    rw [ofInt_toNat]
    have : (2:Int) ^ k - 1 = ((2 ^ k - 1 : Nat) : Int) := by
      have := Nat.one_le_two_pow (n := k); push_cast [Int.ofNat_sub this]; rfl
    rw [this]
    have h2 : 2 ^ k ≤ 2 ^ 62 := Nat.pow_le_pow_right (by omega) hk
    omega
  have h3 : (BitVec.ofInt 64 n &&& BitVec.ofInt 64 ((2:Int) ^ k - 1)).toNat = (n % 18446744073709551616).toNat % 2 ^ k := by
    rw [BitVec.toNat_and, h1, ofInt_toNat, Nat.and_two_pow_sub_one_eq_mod]
  have h4 : 2 ^ k ≤ 2 ^ 62 := Nat.pow_le_pow_right (by omega) hk
  have h5 : ((2:Int) ^ k) = ((2 ^ k : Nat) : Int) := by push_cast; rfl
  have h6 : (((n % 18446744073709551616).toNat % 2 ^ k : Nat) : Int) = n % 2 ^ k := by
    rw [Int.natCast_emod, Int.toNat_of_nonneg (by omega), ← h5]
    exact Int.emod_emod_of_dvd n ⟨2 ^ (64 - k), by rw [← Int.pow_add, show k + (64 - k) = 64 from by omega]; rfl⟩
  show IntKind.wrap .i64 (((BitVec.ofInt 64 n &&& BitVec.ofInt 64 ((2:Int) ^ k - 1)).toNat : Nat) : Int) = _
  rw [h3, h6]
  apply wrap_i64
  · have := Int.emod_nonneg n (b := 2 ^ k) (by omega); omega
  · have := Int.emod_lt_of_pos n (b := 2 ^ k) (by omega); omega
theorem and_65535 (n : Int) : bits .and .i64 n 65535 = n % 65536 := and_mask 16 (by omega) n
/-- 'x<<8 | y': side by side. -/
theorem or_byte (x y : Int) (hx : 0 ≤ x) (hx' : x < 4503599627370496) (hy : 0 ≤ y) (hy' : y < 256) : bits .or .i64 (x * 256) y = x * 256 + y := by
  obtain ⟨x, rfl⟩ := Int.eq_ofNat_of_zero_le hx
  obtain ⟨y, rfl⟩ := Int.eq_ofNat_of_zero_le hy
  have h1 : (BitVec.ofInt 64 ((x : Int) * 256)).toNat = x * 256 := by rw [ofInt_toNat]; omega
  have h2 : (BitVec.ofInt 64 (y : Int)).toNat = y := by rw [ofInt_toNat]; omega
  show IntKind.wrap .i64 (((BitVec.ofInt 64 ((x : Int) * 256) ||| BitVec.ofInt 64 (y : Int)).toNat : Nat) : Int) = _
  have h3 : x * 256 ||| y = x * 256 + y := by
    have := Nat.two_pow_add_eq_or_of_lt (i := 8) (b := y) (by omega) x
    rw [show x * 256 = 2 ^ 8 * x from by omega, ← this]
  rw [BitVec.toNat_or, h1, h2, h3, wrap_i64 _ (by omega) (by omega)]; omega
/-! bytes -/
abbrev B8 (x : UInt8) : Value := .int .u8 (x.toNat : Int)
/-- From this cell on these bytes lie. -/
def Bytes (w : World) (b off : Nat) (l : List UInt8) : Prop := ∀ i x, l[i]? = some x → w.cell? ⟨b, off + i, none⟩ = some (B8 x)
theorem Bytes.get {w : World} {b off : Nat} {l : List UInt8} (h : Bytes w b off l) (k : Nat) (hk : k < l.length) :
    ∃ x, l[k]? = some x ∧ w.cell? ⟨b, off + k, none⟩ = some (.int .u8 (x.toNat : Int)) ∧ (x.toNat : Int) < 256 :=
  ⟨l[k], List.getElem?_eq_getElem hk, h k _ (List.getElem?_eq_getElem hk), by have := l[k].toNat_lt; omega⟩
theorem Bytes.congr {w w' : World} {b off : Nat} {l : List UInt8} (h : Bytes w b off l) (he : w'.heap[b]? = w.heap[b]?) : Bytes w' b off l :=
  fun i x hx => (World.cell?_of_block (w := w) (a := ⟨b, off + i, none⟩) he).trans (h i x hx)
theorem Bytes.drop {w : World} {b off : Nat} {l : List UInt8} (h : Bytes w b off l) (k : Nat) : Bytes w b (off + k) (l.drop k) :=
  fun i x hx => by rw [Nat.add_assoc]; exact h _ x (by rwa [List.getElem?_drop] at hx)
theorem Bytes.take {w : World} {b off : Nat} {l : List UInt8} (h : Bytes w b off l) (k : Nat) : Bytes w b off (l.take k) :=
  fun i x hx => h i x (by rw [List.getElem?_take] at hx; split at hx <;> simp_all)
/-- A slice of bytes: its value reads as l. -/
def Sl (w : World) (v : Value) (l : List UInt8) : Prop :=
  ∃ ao cap, v = .slice ao l.length cap ∧ l.length ≤ cap ∧ cap ≤ maxLen ∧ (ao = none → cap = 0) ∧ (l ≠ [] → ∃ b off, ao = some ⟨b, off, none⟩ ∧ b < w.heap.size ∧ Bytes w b off l)
theorem Sl.below {w w' : World} {v : Value} {l : List UInt8} (h : Sl w v l) (hb : Below w.heap.size w w') : Sl w' v l := by
  obtain ⟨ao, cap, rfl, h1, h2, h3, h4⟩ := h
  refine ⟨ao, cap, rfl, h1, h2, h3, fun hne => ?_⟩
  obtain ⟨b, off, rfl, hlt, hB⟩ := h4 hne
  exact ⟨b, off, rfl, Nat.lt_of_lt_of_le hlt hb.size, hB.congr (hb.block b hlt)⟩
theorem Sl.of_own {w : World} {v : Value} {l : List UInt8} {base e n : Nat} (h : w.ownsRow base e 1 v n (l.map B8)) : Sl w v l ∧ n = l.length := by
  obtain ⟨h1, h2⟩ := h
  have hn : n = l.length := by simp at h1; omega
  subst hn
  refine ⟨?_, rfl⟩
  rcases h2 with ⟨rfl, h0⟩ | ⟨g, cap, cur, rfl, hb, hh, hle, hcap, hsz, htake⟩
  · have : l = [] := List.eq_nil_of_length_eq_zero h0
    subst this
    exact ⟨none, 0, rfl, Nat.le_refl _, Nat.zero_le _, fun _ => rfl, fun hne => (hne rfl).elim⟩
  · refine ⟨_, cap, rfl, hle, hcap, fun hne => by simp at hne, fun _ => ⟨g, 0, rfl, ?_, ?_⟩⟩
    · rcases Nat.lt_or_ge g w.heap.size with h | h
      · exact h
      · rw [Array.getElem?_eq_none h] at hh; simp at hh
    · intro i x hx
      have hi : i < l.length := by
        rcases Nat.lt_or_ge i l.length with h | h
        · exact h
        · rw [List.getElem?_eq_none h] at hx; simp at hx
      have h3 : cur.toList[i]? = some (B8 x) := by
        have : (cur.toList.take (l.length * 1))[i]? = some (B8 x) := by rw [htake]; simp [hx]
        rw [List.getElem?_take] at this
        split at this
        · exact this
        · simp at this
      simp only [World.cell?, hh, Nat.zero_add, Option.isSome_none, Bool.false_eq_true, if_false]
      rw [← h3]; simp
theorem bdrew {B : Nat} {a w : World} (h : Below B a w) (n : Nat) : Below B a (w.drewN n) := ⟨h.os, h.tape, h.output, h.size, h.block⟩
theorem Sl.drewN {w : World} {v : Value} {l : List UInt8} (h : Sl w v l) (n : Nat) : Sl (w.drewN n) v l := h.below (bdrew (Below.refl _ _) n)
theorem Sl.alloc {w : World} {v : Value} {l : List UInt8} (h : Sl w v l) (o : Obj) : Sl (w.alloc o) v l := h.below ((Below.refl _ _).alloc (Nat.le_refl _) o)
theorem Sl.prefix {w : World} {b off cap : Nat} {l : List UInt8} (h : Sl w (.slice (some ⟨b, off, none⟩) l.length cap) l) (k : Nat) (hk : k ≤ l.length) : Sl w (.slice (some ⟨b, off, none⟩) k cap) (l.take k) := by
  obtain ⟨ao, c, hv, h1, h2, h3, h4⟩ := h
  simp only [Value.slice.injEq] at hv
  obtain ⟨rfl, -, rfl⟩ := hv
  have hl : (l.take k).length = k := by rw [List.length_take]; omega
  refine ⟨_, cap, by rw [hl], by omega, h2, by simp, fun hne => ?_⟩
  obtain ⟨b', off', he, hb, hB⟩ := h4 (by intro h; subst h; simp at hne)
  exact ⟨b', off', he, hb, hB.take k⟩
theorem Sl.suffix {w : World} {b off cap : Nat} {l : List UInt8} (h : Sl w (.slice (some ⟨b, off, none⟩) l.length cap) l) (k : Nat) (hk : k ≤ l.length) : Sl w (.slice (some ⟨b, off + k, none⟩) (l.length - k) (cap - k)) (l.drop k) := by
  obtain ⟨ao, c, hv, h1, h2, h3, h4⟩ := h
  simp only [Value.slice.injEq] at hv
  obtain ⟨rfl, -, rfl⟩ := hv
  have hl : (l.drop k).length = l.length - k := by rw [List.length_drop]
  refine ⟨_, cap - k, by rw [hl], by omega, by omega, by simp, fun hne => ?_⟩
  obtain ⟨b', off', he, hb, hB⟩ := h4 (by intro h; subst h; simp at hne)
  simp only [Option.some.injEq, Addr.mk.injEq, and_true] at he
  obtain ⟨rfl, rfl⟩ := he
  exact ⟨b, off + k, rfl, hb, hB.drop k⟩
/-- The world behind a walk, under a name, with what is kept of it. -/
theorem calls_gen {P : Program} {f : FuncId} {args : Array Value} {W : World} {R : Ending → World → Prop} (Q : World → Prop) (h : Q W) (k : ∀ W, Q W → Calls P f args W R) : Calls P f args W R := k W h
/-- A literal of bytes, just made. -/
theorem Sl.lit (w : World) (l : List UInt8) (e : TypeId) (hm : l.length ≤ maxLen) : Sl (w.alloc (.cells (l.map B8).toArray e)) (.slice (some ⟨w.heap.size, 0, none⟩) l.length l.length) l := by
  refine ⟨_, l.length, rfl, Nat.le_refl _, hm, by simp, fun _ => ⟨_, _, rfl, by simp, fun i x hx => ?_⟩⟩
  have h : (w.alloc (.cells (l.map B8).toArray e)).heap[w.heap.size]? = some (.cells (l.map B8).toArray e) := by
    show (w.heap.push _)[w.heap.size]? = _
    simp
  simp only [World.cell?, h, Option.isSome_none, Bool.false_eq_true, if_false, Nat.zero_add]
  simp [hx]
theorem grew_below {w w' : World} {v v' : Value} {B : Nat} (h : Grew w w' v v') (hB : B ≤ w.heap.size) (hr : ∀ k, v.ownBlock = some k → B ≤ k) : Below B w w' :=
  ⟨h.1.os, h.1.tape, h.1.output, h.1.size, fun k hk => h.1.block k (by omega) (fun e => by have := hr k e.symm; omega)⟩
theorem grew_nil {w w' : World} {v' : Value} (h : Grew w w' (.slice none 0 0) v') : Below w.heap.size w w' := grew_below h (Nat.le_refl _) (fun k hk => by simp [Value.ownBlock] at hk)
theorem Sl.mid {w : World} {b off cap : Nat} {l : List UInt8} (h : Sl w (.slice (some ⟨b, off, none⟩) l.length cap) l) (i n : Nat) (hk : i + n ≤ l.length) : Sl w (.slice (some ⟨b, off + i, none⟩) n (cap - i)) ((l.drop i).take n) := by
  have h1 := h.suffix i (by omega)
  rw [show l.length - i = (l.drop i).length by simp] at h1
  exact h1.prefix n (by rw [List.length_drop]; omega)
/-- What is left behind all of it: nothing, at whatever address. -/
theorem Sl.none_left (w : World) (ao : Option Addr) : Sl w (.slice ao 0 0) [] := ⟨ao, 0, rfl, Nat.le_refl _, Nat.zero_le _, fun _ => rfl, fun h => (h rfl).elim⟩
end Go.Proofs.YtpgnlhfokffioaaDoor
