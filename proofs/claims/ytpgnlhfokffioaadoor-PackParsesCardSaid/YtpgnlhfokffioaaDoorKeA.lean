/-
  Packets: what the laws lean on.
-/
import Derived.Test.YtpgnlhfokffioaaDoorRows
import Derived.WalkKit
import Derived.WalkSpells
import Derived.Lib.Hide
import Derived.WalkLawsBesides
import Derived.BigQuiet
import Derived.Deep.QuietTactic
import Derived.Scope
import Derived.ProofKit
import Derived.OpenShut
import Derived.ChangeArms
import Derived.Deep.Slices
import Derived.Laws.AppendOwnNone
import Derived.Deep.RegionHeld3
import Derived.Deep.AppendLies
import Derived.Deep.MidRow
import Derived.Laws.Tables
import Derived.Deep.RegionHeld
import Derived.Lib.ReflectliteSwap
import Derived.Lib.AppendStr
import Derived.Laws.StructEq
import Derived.Deep.LoopGhost
import Derived.Laws.BitsAllLaws
import Derived.Deep.RegionWith
import Derived.Lib.AppendZeros
import Derived.Lib.Overlaps
import Derived.Lib.SliceRun
import Derived.Laws.CopyRow
import Derived.Laws.Externs
import Derived.StillTailTactics
import Derived.Laws.FloatArith
import Derived.Laws.Cover3
import Derived.WalkArith
import Derived.Laws.ResultCell
import Derived.BigRegion
import Derived.Ground.NamesProg
import Derived.Below
import Derived.Shelf.Unicode.ValidAny
import Derived.Shelf.Strings.Cut
import Derived.Shelf.Strings.Search3
import Derived.Shelf.Strings.IndexAnyAll
import Derived.Shelf.Strings.Shaped
import Derived.Laws.RangeAny
import Derived.RegionTactic
import Derived.Shelf.Unicode.DecodeSlow
import Derived.SizedLaws
import Derived.Lib.IndexMore
import Derived.Lib.IndexBytes
import Derived.Lib.IndexAny
namespace Go
section
/-! a scope with several labels: J l holds at each arrival at label l, and the measure goes down from label to label -/
def Code.isLabel : Code → Bool
  | .label _ => true
  | _ => false
def Code.spine : Code → List (Nat × Code)
  | .seq (.label l) b => (l, b) :: b.spine
  | .seq _ b => b.spine
  | _ => []
def Exit.jumpsTo (J : Nat → Act → World → Prop) (Q : Exit → Act → World → Prop) : Exit → Act → World → Prop
  | .goto l, a, w => J l a w
  | e, a, w => Q e a w
def wpSpine (P : Program) (J : Nat → Act → World → Prop) (Q : Exit → Act → World → Prop) : Code → Act → World → Prop
  | .seq (.label l) _, a, w => J l a w
  | .seq x y, a, w => x.wp P (Exit.then (wpSpine P J Q y) (Exit.jumpsTo J Q)) a w
  | c, a, w => c.wp P (Exit.jumpsTo J Q) a w
section
variable {P : Program} {J : Nat → Act → World → Prop} {Q : Exit → Act → World → Prop} {a : Act} {w : World}
theorem wpSpine_label {l : Nat} {b : Code} (h : J l a w) : wpSpine P J Q (.seq (.label l) b) a w := by simpa [wpSpine] using h
theorem wpSpine_seq {x y : Code} (hx : x.isLabel = false) (h : ∀ K : Act → World → Prop, (∀ a w, wpSpine P J Q y a w → K a w) → x.wp P (Exit.then K (Exit.jumpsTo J Q)) a w) : wpSpine P J Q (.seq x y) a w := by
  have h' := h _ (fun _ _ h => h)
  cases x <;> first | exact h' | simp [Code.isLabel] at hx
theorem wpSpine_sound {c0 : Code} : ∀ (c : Code), (∀ p ∈ c.spine, p ∈ c0.spine) → ∀ (a : Act) (w : World), wpSpine P J Q c a w →
    ∀ b k cs, ∃ e a' w', ((∃ l B, e = .goto l ∧ J l a' w' ∧ (l, B) ∈ c0.spine ∧ Steps P (lone (b.at a (.code c :: .inScope c0 :: k)) cs w) (lone (b.at a' (.code B :: .inScope c0 :: k)) cs w')) ∨
      (Exit.jumpsTo J Q e a' w' ∧ Arrives P (lone (b.at a (.code c :: .inScope c0 :: k)) cs w) b (.inScope c0 :: k) cs e a' w')) := by
  intro c
  have other : ∀ c a w, c.wp P (Exit.jumpsTo J Q) a w → ∀ b k cs, ∃ e a' w', ((∃ l B, e = .goto l ∧ J l a' w' ∧ (l, B) ∈ c0.spine ∧ Steps P (lone (b.at a (.code c :: .inScope c0 :: k)) cs w) (lone (b.at a' (.code B :: .inScope c0 :: k)) cs w')) ∨
      (Exit.jumpsTo J Q e a' w' ∧ Arrives P (lone (b.at a (.code c :: .inScope c0 :: k)) cs w) b (.inScope c0 :: k) cs e a' w')) := by
    intro c a w h b k cs
    obtain ⟨e, a', w', hq, harr⟩ := h b (.inScope c0 :: k) cs
    exact ⟨e, a', w', .inr ⟨hq, harr⟩⟩
  induction c with
  | seq x y _ ihy =>
    intro hs a w h b k cs
    by_cases hx : ∃ l, x = .label l
    · obtain ⟨l, rfl⟩ := hx
      exact ⟨.goto l, a, w, .inl ⟨l, y, rfl, h, hs _ (by simp [Code.spine]), .head step_seq (.one step_label)⟩⟩
    · have h' : x.wp P (Exit.then (wpSpine P J Q y) (Exit.jumpsTo J Q)) a w := by
        cases x <;> first | exact h | exact (hx ⟨_, rfl⟩).elim
      have hs' : ∀ p ∈ y.spine, p ∈ c0.spine := by
        intro p hp; apply hs; cases x <;> first | exact hp | exact (hx ⟨_, rfl⟩).elim
      obtain ⟨e, a₁, w₁, hq, harr⟩ := h' b (.code y :: .inScope c0 :: k) cs
      cases e with
      | normal =>
        obtain ⟨e₂, a₂, w₂, h2⟩ := ihy hs' a₁ w₁ hq b k cs
        refine ⟨e₂, a₂, w₂, ?_⟩
        rcases h2 with ⟨l, B, he, hJ, hm, hst⟩ | ⟨hq2, h2⟩
        · exact .inl ⟨l, B, he, hJ, hm, .head step_seq (Steps.trans harr hst)⟩
        · exact .inr ⟨hq2, .of_steps (.head step_seq harr) h2⟩
      | exit id => exact ⟨.exit id, a₁, w₁, .inr ⟨hq, .of_steps (.one step_seq) (.pass (x := .code y) rfl (fun _ _ => .inl (by simp)) harr)⟩⟩
      | goto l => exact ⟨.goto l, a₁, w₁, .inr ⟨hq, .of_steps (.one step_seq) (.pass (x := .code y) rfl (fun _ _ => .inl (by simp)) harr)⟩⟩
      | ret => exact ⟨.ret, a₁, w₁, .inr ⟨hq, .of_steps (.one step_seq) (.pass (x := .code y) rfl (fun _ _ => .inl (by simp)) harr)⟩⟩
      | panic ch => exact ⟨.panic ch, a₁, w₁, .inr ⟨hq, .of_steps (.one step_seq) (.pass (x := .code y) rfl (fun _ _ => .inl (by simp)) harr)⟩⟩
      | outgrown => exact ⟨.outgrown, a₁, w₁, .inr ⟨hq, .of_steps (.one step_seq) (.pass (x := .code y) rfl (fun _ _ => .inl (by simp)) harr)⟩⟩
  | _ => 
    intro hs a w h b k cs
    exact other _ a w h b k cs
end
theorem wp_scope_end {P : Program} {Q : Exit → Act → World → Prop} {a : Act} {w : World} {c B : Code} {l : Nat} (hs : c.spine = [(l, B)]) (hf : findLabel c l = some (.seq .skip B))
    (h : ∀ J' : Nat → Act → World → Prop, (∀ a w, B.wp P (Exit.noGoto Q) a w → J' l a w) → wpSpine P J' Q c a w) : (Code.scope c).wp P Q a w := by
  intro b k cs
  have h' := h (fun l' a w => l' = l ∧ B.wp P (Exit.noGoto Q) a w) fun a w hB => ⟨rfl, hB⟩
  have run : ∀ a₁ w₁, B.wp P (Exit.noGoto Q) a₁ w₁ → ∃ e a' w', Q e a' w' ∧ Arrives P (lone (b.at a₁ (.code B :: .inScope c :: k)) cs w₁) b k cs e a' w' := by
    intro a₁ w₁ hB
    obtain ⟨e, a₂, w₂, hq, harr⟩ := hB b (.inScope c :: k) cs
    cases e with
    | normal => exact ⟨.normal, a₂, w₂, hq, Steps.trans harr (.one step_inScope)⟩
    | exit id => exact ⟨.exit id, a₂, w₂, hq, fun k' hk => harr k' (by simp [exitTo, hk])⟩
    | goto l' => exact hq.elim
    | ret => exact ⟨_, a₂, w₂, hq, harr⟩
    | panic ch => exact ⟨_, a₂, w₂, hq, harr⟩
    | outgrown => exact ⟨_, a₂, w₂, hq, harr⟩
  obtain ⟨e, a₁, w₁, h1⟩ := wpSpine_sound (c0 := c) c (fun _ h => h) a w h' b k cs
  rcases h1 with ⟨l', B', rfl, ⟨rfl, hB⟩, hm', hst⟩ | ⟨hq, harr⟩
  · rw [hs] at hm'
    obtain rfl : B' = B := by simpa using hm'
    obtain ⟨e₂, a₂, w₂, hq₂, harr₂⟩ := run a₁ w₁ hB
    exact ⟨e₂, a₂, w₂, hq₂, .of_steps (.head step_scope hst) harr₂⟩
  · cases e with
    | normal => exact ⟨.normal, a₁, w₁, hq, .head step_scope (Steps.trans harr (.one step_inScope))⟩
    | exit id => exact ⟨.exit id, a₁, w₁, hq, fun k' hk => .head step_scope (harr k' (by simp [exitTo, hk]))⟩
    | goto l' =>
      obtain ⟨rfl, hB⟩ := hq
      obtain ⟨e₂, a₂, w₂, hq₂, harr₂⟩ := run a₁ w₁ hB
      exact ⟨e₂, a₂, w₂, hq₂, .of_steps (.head step_scope (Steps.trans (harr _ (by simp [gotoIn, hf])) (.head step_seq (.one step_skip)))) harr₂⟩
    | ret => exact ⟨_, a₁, w₁, hq, .of_steps (.one step_scope) harr⟩
    | panic ch => exact ⟨_, a₁, w₁, hq, .of_steps (.one step_scope) harr⟩
    | outgrown => exact ⟨_, a₁, w₁, hq, .of_steps (.one step_scope) harr⟩
theorem run_append_at {P : Program} (w : World) (base : Nat) (t ty e : TypeId) (i : TypeInfo) (z : Value) (size bytes : Nat) (ht : P.underlying t = some (.slice e)) (hi : P.info? e = some i) (hz : i.zero = some z)
    (hsize : i.size = size) (hby : i.bytes = bytes) (hzs : z.cells.size = size) (hsz : 0 < size)
    (v : Value) (n : Nat) (xs : List Value) (hown : w.ownsRow base e size v n xs)
    (a : Addr) (m c : Nat) (news : List Value) (hl : news.length = m * size) (hnews : ∀ j u, news[j]? = some u → w.cell? (a.add j) = some u) (h1 : ∀ u ∈ news, u.oneCell' = true)
    (h63 : n + m ≤ maxLen) (hbytes : (n + m) * bytes ≤ 140737488355328) (hbase : base ≤ w.heap.size) :
    ∃ v' w', (Builtin.append_ #[t, t] ty #[v, .slice (some a) m c]).run P w = .ok v' w' ∧ w'.ownsRow base e size v' (n + m) (xs ++ news) ∧ w.grownBy w' v.ownBlock ∧
      (v'.ownBlock = v.ownBlock ∨ v'.ownBlock = some w.heap.size) := by
  obtain ⟨v', w', hr, h2, h3, h4⟩ := run_append_own (P := P) w base t ty e i z size bytes ht hi hz hsize hby hzs hsz v n xs hown a m c news hl hnews h1 h63 hbytes hbase
  refine ⟨v', w', hr, h2, h3, ?_⟩
  subst hsize hby
  have h63' : n + m ≤ 9223372036854775807 := by simpa [maxLen] using h63
  rcases hown.2 with ⟨rfl, rfl⟩ | ⟨g, cap, cur, rfl, hbg, hg, hnc, hcm, hcs, htake⟩
  · by_cases hm : m = 0
    · rw [h4.2 ⟨rfl, hm⟩]; exact .inl rfl
    · have hr2 := run_append_nil (P := P) w t ty e i z ht hi hz a m c news hl hnews (by omega) (by omega) (by have hb := hbytes; simp only [Nat.zero_add] at hb; omega)
      rw [hr] at hr2
      injection hr2 with hv _
      rw [hv]; exact .inr rfl
  · by_cases hroom : n + m ≤ cap
    · have hr2 := run_append_room (P := P) w t ty e i ht hi g n cap cur hg a m c news hl hnews h1 hroom (by rw [hl, hcs, ← Nat.add_mul]; exact Nat.mul_le_mul_right _ hroom)
      rw [hr] at hr2
      injection hr2 with hv _
      rw [hv]; exact .inl rfl
    · have hr2 := run_append_grow (P := P) w t ty e i z ht hi hz ⟨g, 0, none⟩ n cap xs hown.1 (hown.cells (g := g) rfl) a m c news hl hnews (by omega) (by omega) (growslice_fits (by omega) hbytes)
      rw [hr] at hr2
      injection hr2 with hv _
      rw [hv]; exact .inr rfl
theorem wpList_append_at {P : Program} (w : World) {ops : Array Oper} {rest : List Oper} {o : Oper} {a : Act} {Q : Exit → Act → World → Prop} (hgd : o.guard = none) (s x : Operand) (t : TypeId)
    (ho : o.op = .call { callee := .builtin .append, args := #[s, x], argTypes := #[t, t] })
    (base : Nat) (e : TypeId) (i : TypeInfo) (z : Value) (size bytes : Nat) (ht : P.underlying t = some (.slice e)) (hi : P.info? e = some i) (hz : i.zero = some z)
    (hsize : i.size = size) (hby : i.bytes = bytes) (hzs : z.cells.size = size) (hsz : 0 < size)
    (v : Value) (n : Nat) (xs : List Value) (hs : a.eval s = v) (hown : w.ownsRow base e size v n xs)
    (ad : Addr) (m c : Nat) (news : List Value) (hx : a.eval x = .slice (some ad) m c) (hl : news.length = m * size) (hnews : ∀ j u, news[j]? = some u → w.cell? (ad.add j) = some u) (h1 : ∀ u ∈ news, u.oneCell' = true)
    (h63 : n + m ≤ maxLen) (hbytes : (n + m) * bytes ≤ 140737488355328) (hbase : base ≤ w.heap.size)
    (h : ∀ v' w', w'.ownsRow base e size v' (n + m) (xs ++ news) → w.grownBy w' v.ownBlock → (v'.ownBlock = v.ownBlock ∨ v'.ownBlock = some w.heap.size) → wpList P ops Q rest (a.put o.dst v') w') : wpList P ops Q (o :: rest) a w := by
  obtain ⟨v', w', hr, h2, h3, h4⟩ := run_append_at (P := P) w base t o.type e i z size bytes ht hi hz hsize hby hzs hsz v n xs hown ad m c news hl hnews h1 h63 hbytes hbase
  refine wpList_plain hgd fun K hK => ?_
  unfold Oper.wp execOp
  simp only [ho, resolve, invoke, builtin, Sem.run_bind, Sem.run_pure, Result.andThen_ok, List.map_toArray, List.map_cons, List.map_nil, hs, hx, hr]
  exact hK _ _ (h v' w' h2 h3 h4)
theorem grown_trans {w w1 w2 : World} {r1 r2 : Option Nat} (h1 : w.grownBy w1 r1) (h2 : w1.grownBy w2 r2) (hr : ∀ k, r2 = some k → some k = r1 ∨ w.heap.size ≤ k) : w.grownBy w2 r1 :=
  ⟨h2.os.trans h1.os, h2.tape.trans h1.tape, h2.output.trans h1.output, Nat.le_trans h1.size h2.size, fun k hk hne => by
    rw [h2.block k (Nat.lt_of_lt_of_le hk h1.size) (fun e => by
      rcases hr k e.symm with h | h
      · exact hne h
      · omega)]
    exact h1.block k hk hne⟩
theorem grown_refl (w : World) (r : Option Nat) : w.grownBy w r := ⟨rfl, rfl, rfl, Nat.le_refl _, fun _ _ _ => rfl⟩
def Grew (w w' : World) (v v' : Value) : Prop := w.grownBy w' v.ownBlock ∧ (v'.ownBlock = v.ownBlock ∨ ∃ k, v'.ownBlock = some k ∧ w.heap.size ≤ k)
theorem Grew.refl (w : World) (v : Value) : Grew w w v v := ⟨grown_refl _ _, .inl rfl⟩
theorem Grew.trans {w w1 w2 : World} {v v1 v2 : Value} (h1 : Grew w w1 v v1) (h2 : Grew w1 w2 v1 v2) : Grew w w2 v v2 := by
  refine ⟨grown_trans h1.1 h2.1 fun k hk => ?_, ?_⟩
  · rcases h1.2 with h | ⟨k', h, hle⟩
    · rw [h] at hk; exact .inl hk.symm
    · rw [h] at hk; injection hk with hk; exact .inr (by omega)
  · rcases h2.2 with h | ⟨k', h, hle⟩
    · rcases h1.2 with h' | ⟨k', h', hle⟩
      · exact .inl (h.trans h')
      · exact .inr ⟨k', h.trans h', hle⟩
    · exact .inr ⟨k', h, Nat.le_trans h1.1.size hle⟩
theorem Grew.alloc {w w1 : World} {v v1 : Value} (h : Grew w w1 v v1) (o : Obj) : Grew w (w1.alloc o) v v1 := h.trans ⟨World.grownBy_alloc _ _ _, .inl rfl⟩
theorem Grew.app {w w1 w2 : World} {v v1 v2 : Value} {o : Obj} (h : Grew w w1 v v1) (hg : (w1.alloc o).grownBy w2 v1.ownBlock) (hv : v2.ownBlock = v1.ownBlock ∨ v2.ownBlock = some (w1.heap.size + 1)) : Grew w w2 v v2 := by
  have hz : (w1.alloc o).heap.size = w1.heap.size + 1 := by simp
  rw [← hz] at hv
  refine (h.alloc o).trans ⟨hg, ?_⟩
  rcases hv with hv | hv
  · exact .inl hv
  · exact .inr ⟨_, hv, Nat.le_refl _⟩
theorem Grew.app0 {w w1 w2 : World} {v v1 v2 : Value} (h : Grew w w1 v v1) (hg : w1.grownBy w2 v1.ownBlock) (hv : v2.ownBlock = v1.ownBlock ∨ v2.ownBlock = some w1.heap.size) : Grew w w2 v v2 := by
  refine h.trans ⟨hg, ?_⟩
  rcases hv with hv | hv
  · exact .inl hv
  · exact .inr ⟨_, hv, Nat.le_refl _⟩
end
end Go
namespace Go.Proofs.YtpgnlhfokffioaaDoor
section
open Go.RowKit
theorem quiet_eq2 {P : Program} {f : FuncId} {args : Array Value} {w : World} {k n : Nat} {v : Value}
    (h : Calls P f args (w.drewN (k + n)) fun e w' => e = .returned v ∧ w.drewN (k + n) = w') : Calls P f args (w.drewN (k + n)) fun e w'' => e = .returned v ∧ ∃ m, w'' = w.drewN (k + m) :=
  h.mono fun _ _ ⟨he, hm⟩ => ⟨he, n, hm.symm⟩
/-! numbers -/
theorem ofInt_toNat (n : Int) : (BitVec.ofInt 64 n).toNat = (n % 18446744073709551616).toNat := by
  simp [BitVec.toNat_ofInt]
theorem wrap_i64 (n : Int) (h : -9223372036854775808 ≤ n) (h' : n < 9223372036854775808) : IntKind.wrap .i64 n = n := by
  simp [IntKind.wrap, IntKind.bits, IntKind.signed]; omega
theorem or_byte (x y : Int) (hx : 0 ≤ x) (hx' : x < 4503599627370496) (hy : 0 ≤ y) (hy' : y < 256) : bits .or .i64 (x * 256) y = x * 256 + y := by
  obtain ⟨x, rfl⟩ := Int.eq_ofNat_of_zero_le hx
  obtain ⟨y, rfl⟩ := Int.eq_ofNat_of_zero_le hy
  have h1 : (BitVec.ofInt 64 ((x : Int) * 256)).toNat = x * 256 := by rw [ofInt_toNat]; omega
  have h2 : (BitVec.ofInt 64 (y : Int)).toNat = y := by rw [ofInt_toNat]; omega
  show IntKind.wrap .i64 (((BitVec.ofInt 64 ((x : Int) * 256) ||| BitVec.ofInt 64 (y : Int)).toNat : Nat) : Int) = _
  have h3 : x * 256 ||| y = x * 256 + y := by
    have := Nat.two_pow_add_eq_or_of_lt (i := 8) (b := y) (by omega) x
    rw [show x * 256 = 2 ^ 8 * x from by omega, ← this]
  rw [BitVec.toNat_or, h1, h2, h3, wrap_i64 _ (by omega) (by omega)]; omega
/-! bytes -/
abbrev B8 (x : UInt8) : Value := .int .u8 (x.toNat : Int)
def Bytes (w : World) (b off : Nat) (l : List UInt8) : Prop := ∀ i x, l[i]? = some x → w.cell? ⟨b, off + i, none⟩ = some (B8 x)
theorem Bytes.get {w : World} {b off : Nat} {l : List UInt8} (h : Bytes w b off l) (k : Nat) (hk : k < l.length) :
    ∃ x, l[k]? = some x ∧ w.cell? ⟨b, off + k, none⟩ = some (.int .u8 (x.toNat : Int)) ∧ (x.toNat : Int) < 256 :=
  ⟨l[k], List.getElem?_eq_getElem hk, h k _ (List.getElem?_eq_getElem hk), by have := l[k].toNat_lt; omega⟩
theorem Bytes.congr {w w' : World} {b off : Nat} {l : List UInt8} (h : Bytes w b off l) (he : w'.heap[b]? = w.heap[b]?) : Bytes w' b off l :=
  fun i x hx => (World.cell?_of_block (w := w) (a := ⟨b, off + i, none⟩) he).trans (h i x hx)
theorem Bytes.drop {w : World} {b off : Nat} {l : List UInt8} (h : Bytes w b off l) (k : Nat) : Bytes w b (off + k) (l.drop k) :=
  fun i x hx => by rw [Nat.add_assoc]; exact h _ x (by rwa [List.getElem?_drop] at hx)
theorem Bytes.take {w : World} {b off : Nat} {l : List UInt8} (h : Bytes w b off l) (k : Nat) : Bytes w b off (l.take k) :=
  fun i x hx => h i x (by rw [List.getElem?_take] at hx; split at hx <;> simp_all)
def Sl (w : World) (v : Value) (l : List UInt8) : Prop :=
  ∃ ao cap, v = .slice ao l.length cap ∧ l.length ≤ cap ∧ cap ≤ maxLen ∧ (ao = none → cap = 0) ∧ (l ≠ [] → ∃ b off, ao = some ⟨b, off, none⟩ ∧ b < w.heap.size ∧ Bytes w b off l)
theorem Sl.below {w w' : World} {v : Value} {l : List UInt8} (h : Sl w v l) (hb : Below w.heap.size w w') : Sl w' v l := by
  obtain ⟨ao, cap, rfl, h1, h2, h3, h4⟩ := h
  refine ⟨ao, cap, rfl, h1, h2, h3, fun hne => ?_⟩
  obtain ⟨b, off, rfl, hlt, hB⟩ := h4 hne
  exact ⟨b, off, rfl, Nat.lt_of_lt_of_le hlt hb.size, hB.congr (hb.block b hlt)⟩
theorem Sl.of_own {w : World} {v : Value} {l : List UInt8} {base e n : Nat} (h : w.ownsRow base e 1 v n (l.map B8)) : Sl w v l ∧ n = l.length := by
  obtain ⟨h1, h2⟩ := h
  have hn : n = l.length := by simp at h1; omega
  subst hn
  refine ⟨?_, rfl⟩
  rcases h2 with ⟨rfl, h0⟩ | ⟨g, cap, cur, rfl, hb, hh, hle, hcap, hsz, htake⟩
  · have : l = [] := List.eq_nil_of_length_eq_zero h0
    subst this
    exact ⟨none, 0, rfl, Nat.le_refl _, Nat.zero_le _, fun _ => rfl, fun hne => (hne rfl).elim⟩
  · refine ⟨_, cap, rfl, hle, hcap, fun hne => by simp at hne, fun _ => ⟨g, 0, rfl, ?_, ?_⟩⟩
    · rcases Nat.lt_or_ge g w.heap.size with h | h
      · exact h
      · rw [Array.getElem?_eq_none h] at hh; simp at hh
    · intro i x hx
      have hi : i < l.length := by
        rcases Nat.lt_or_ge i l.length with h | h
        · exact h
        · rw [List.getElem?_eq_none h] at hx; simp at hx
      have h3 : cur.toList[i]? = some (B8 x) := by
        have : (cur.toList.take (l.length * 1))[i]? = some (B8 x) := by rw [htake]; simp [hx]
        rw [List.getElem?_take] at this
        split at this
        · exact this
        · simp at this
      simp only [World.cell?, hh, Nat.zero_add, Option.isSome_none, Bool.false_eq_true, if_false]
      rw [← h3]; simp
theorem bdrew {B : Nat} {a w : World} (h : Below B a w) (n : Nat) : Below B a (w.drewN n) := ⟨h.os, h.tape, h.output, h.size, h.block⟩
theorem Sl.drewN {w : World} {v : Value} {l : List UInt8} (h : Sl w v l) (n : Nat) : Sl (w.drewN n) v l := h.below (bdrew (Below.refl _ _) n)
theorem Sl.alloc {w : World} {v : Value} {l : List UInt8} (h : Sl w v l) (o : Obj) : Sl (w.alloc o) v l := h.below ((Below.refl _ _).alloc (Nat.le_refl _) o)
theorem Sl.prefix {w : World} {b off cap : Nat} {l : List UInt8} (h : Sl w (.slice (some ⟨b, off, none⟩) l.length cap) l) (k : Nat) (hk : k ≤ l.length) : Sl w (.slice (some ⟨b, off, none⟩) k cap) (l.take k) := by
  obtain ⟨ao, c, hv, h1, h2, h3, h4⟩ := h
  simp only [Value.slice.injEq] at hv
  obtain ⟨rfl, -, rfl⟩ := hv
  have hl : (l.take k).length = k := by rw [List.length_take]; omega
  refine ⟨_, cap, by rw [hl], by omega, h2, by simp, fun hne => ?_⟩
  obtain ⟨b', off', he, hb, hB⟩ := h4 (by intro h; subst h; simp at hne)
  exact ⟨b', off', he, hb, hB.take k⟩
theorem Sl.suffix {w : World} {b off cap : Nat} {l : List UInt8} (h : Sl w (.slice (some ⟨b, off, none⟩) l.length cap) l) (k : Nat) (hk : k ≤ l.length) : Sl w (.slice (some ⟨b, off + k, none⟩) (l.length - k) (cap - k)) (l.drop k) := by
  obtain ⟨ao, c, hv, h1, h2, h3, h4⟩ := h
  simp only [Value.slice.injEq] at hv
  obtain ⟨rfl, -, rfl⟩ := hv
  have hl : (l.drop k).length = l.length - k := by rw [List.length_drop]
  refine ⟨_, cap - k, by rw [hl], by omega, by omega, by simp, fun hne => ?_⟩
  obtain ⟨b', off', he, hb, hB⟩ := h4 (by intro h; subst h; simp at hne)
  simp only [Option.some.injEq, Addr.mk.injEq, and_true] at he
  obtain ⟨rfl, rfl⟩ := he
  exact ⟨b, off + k, rfl, hb, hB.drop k⟩
theorem grew_below {w w' : World} {v v' : Value} {B : Nat} (h : Grew w w' v v') (hB : B ≤ w.heap.size) (hr : ∀ k, v.ownBlock = some k → B ≤ k) : Below B w w' :=
  ⟨h.1.os, h.1.tape, h.1.output, h.1.size, fun k hk => h.1.block k (by omega) (fun e => by have := hr k e.symm; omega)⟩
theorem grew_nil {w w' : World} {v' : Value} (h : Grew w w' (.slice none 0 0) v') : Below w.heap.size w w' := grew_below h (Nat.le_refl _) (fun k hk => by simp [Value.ownBlock] at hk)
theorem Sl.mid {w : World} {b off cap : Nat} {l : List UInt8} (h : Sl w (.slice (some ⟨b, off, none⟩) l.length cap) l) (i n : Nat) (hk : i + n ≤ l.length) : Sl w (.slice (some ⟨b, off + i, none⟩) n (cap - i)) ((l.drop i).take n) := by
  have h1 := h.suffix i (by omega)
  rw [show l.length - i = (l.drop i).length by simp] at h1
  exact h1.prefix n (by rw [List.length_drop]; omega)
theorem Sl.none_left (w : World) (ao : Option Addr) : Sl w (.slice ao 0 0) [] := ⟨ao, 0, rfl, Nat.le_refl _, Nat.zero_le _, fun _ => rfl, fun h => (h rfl).elim⟩
end
end Go.Proofs.YtpgnlhfokffioaaDoor
namespace Go
section
structure Keep (lo : Nat) (a a' : Act) : Prop where
  size : a'.tmps.size = a.tmps.size
  defs : a'.defers = a.defers
  low : ∀ j, j < lo → a'.tmps[j]? = a.tmps[j]?
theorem Keep.refl (lo : Nat) (a : Act) : Keep lo a a := ⟨rfl, rfl, fun _ _ => rfl⟩
theorem Keep.put {lo : Nat} {a a' : Act} (h : Keep lo a a') (d : Nat) (hd : lo ≤ d) (v : Value) : Keep lo a (a'.put (some d) v) :=
  ⟨by simp [Act.put, h.size], h.defs, fun j hj => by
    have := h.low j hj
    simp only [Act.put, Array.getElem?_setIfInBounds]
    rw [if_neg (by omega)]; exact this⟩
theorem Keep.trans {lo : Nat} {a b c : Act} (h : Keep lo a b) (h2 : Keep lo b c) : Keep lo a c := ⟨h2.size.trans h.size, h2.defs.trans h.defs, fun j hj => (h2.low j hj).trans (h.low j hj)⟩
theorem Keep.mono {lo lo' : Nat} {a b : Act} (h : Keep lo a b) (hl : lo' ≤ lo) : Keep lo' a b := ⟨h.size, h.defs, fun j hj => h.low j (by omega)⟩
theorem put_get (a : Act) (d : Nat) (v : Value) (h : d < a.tmps.size) : (a.put (some d) v).tmps[d]? = some v := by simp [Act.put, h]
theorem put_far (a : Act) (d j : Nat) (v : Value) (h : d ≠ j) : (a.put (some d) v).tmps[j]? = a.tmps[j]? := by simp [Act.put, h]
theorem put_size (a : Act) (d : Nat) (v : Value) : (a.put (some d) v).tmps.size = a.tmps.size := by simp [Act.put]
theorem eval_of {a : Act} {j : Nat} {v : Value} (h : a.tmps[j]? = some v) : a.eval (.tmp j) = v := by
  simp [Act.eval, Array.getD_eq_getD_getElem?, h]
theorem eval_cst (a : Act) (v : Value) : a.eval (.const v) = v := rfl
def opTo (P : Program) (o : Oper) (a : Act) (w : World) (K : Value → World → Prop) : Prop :=
  (∃ v w1, (execOp a.eval o).run P w = .ok (.value v) w1 ∧ K v w1) ∨ (∃ f args, (execOp a.eval o).run P w = .ok (.enter f args) w ∧ Calls P f args w fun e w' => ∃ v, e = .returned v ∧ K v w') ∨ (∃ w1, (execOp a.eval o).run P w = .ok .skip w1 ∧ K undef w1)
theorem opTo_wp {P : Program} {Q : Exit → Act → World → Prop} {o : Oper} {a : Act} {w : World} {K : Value → World → Prop} {N : Act → World → Prop} (h : opTo P o a w K) (hk : ∀ v w', K v w' → N (a.put o.dst v) w') : o.wp P a w N Q := by
  unfold Oper.wp
  rcases h with ⟨v, w1, hr, h⟩ | ⟨f, args, hr, h⟩ | ⟨w1, hr, h⟩
  · rw [hr]; exact hk _ _ h
  · rw [hr, Oper.upon_enter]
    refine h.mono ?_
    rintro e w' ⟨v, rfl, h⟩
    exact hk _ _ h
  · rw [hr]; exact hk _ _ h
def wpRun (P : Program) : List Oper → Act → World → (Act → World → Prop) → Prop
  | [], a, w, K => K a w
  | o :: l, a, w, K => opTo P o a w fun v w => wpRun P l (a.put o.dst v) w K
section
variable {P : Program} {ops : Array Oper} {Q : Exit → Act → World → Prop} {a : Act} {w : World} {rest : List Oper}
theorem yields {f fs : Nat} {b : Bool} (hfs : (ops[f]?).bind (·.dst) = some fs) (hf : a.tmps[fs]? = some (.bool b)) : yielded ops a.tmps f = some b := by
  simp [yielded, hfs, hf]
theorem plain_runs : ∀ (pre : List Oper) (a : Act) (w : World), (∀ o ∈ pre, o.guard = none) → wpRun P pre a w (wpList P ops Q rest) → wpList P ops Q (pre ++ rest) a w := by
  intro pre
  induction pre with
  | nil => intro a w _ h; exact h
  | cons o l ih =>
    intro a w hl h
    refine wpList_plain (hl o (by simp)) fun K hK => ?_
    exact opTo_wp h fun v w' hn => hK _ _ (ih _ _ (fun o ho => hl o (by simp [ho])) hn)
end
/-! a few operations by their values -/
section
variable {P : Program} {w : World}
theorem run_fieldAddr {ρ : Operand → Value} {d : Option Tmp} {s : TypeId} {x : Operand} {k : Nat} {ty : TypeId} {pos : String} {af : Array Edge} {g : Option (Nat × Bool)} {u v : Value} (hx : ρ x = u) (h : (Instr.fieldAt s u k).run P w = .ok v w) :
    (execOp ρ ⟨d, .fieldAddr s x k, ty, pos, af, g⟩).run P w = .ok (.value v) w := by
  simp only [execOp, hx, Sem.run_bind, h, Result.andThen_ok, Sem.run_pure]
theorem run_loadOp {ρ : Operand → Value} {d : Option Tmp} {t : TypeId} {x : Operand} {ty : TypeId} {pos : String} {af : Array Edge} {g : Option (Nat × Bool)} {u v : Value} (hx : ρ x = u) (h : (Instr.loadAt t u).run P w = .ok v w) :
    (execOp ρ ⟨d, .load t x, ty, pos, af, g⟩).run P w = .ok (.value v) w := by
  simp only [execOp, hx, Sem.run_bind, h, Result.andThen_ok, Sem.run_pure]
theorem run_binOp {ρ : Operand → Value} {d : Option Tmp} {op : BinOp} {t t2 : TypeId} {x y : Operand} {ty : TypeId} {pos : String} {af : Array Edge} {g : Option (Nat × Bool)} {u1 u2 v : Value} (hx : ρ x = u1) (hy : ρ y = u2) (hg : (eqGuard op t x y u1 u2).run P w = .ok () w) (h : (binOp op t u1 u2).run P w = .ok v w) :
    (execOp ρ ⟨d, .binOp op t x y t2, ty, pos, af, g⟩).run P w = .ok (.value v) w := by
  simp only [execOp, hx, hy, Sem.run_bind, hg, h, Result.andThen_ok, Sem.run_pure]
theorem run_callOp {a : Act} {d : Option Tmp} {f : FuncId} {fn : Func} {xs : Array Operand} {ts : Array TypeId} {ty : TypeId} {pos : String} {af : Array Edge} {g : Option (Nat × Bool)} {vs : Array Value} (hf : P.funcs[f]? = some fn) (hn : (fn.name == "runtime.NumGoroutine") = false) (hb : fn.body.isNone = false) (hx : xs.map a.eval = vs) :
    (execOp a.eval ⟨d, .call { callee := .value (.func f), args := xs, argTypes := ts }, ty, pos, af, g⟩).run P w = .ok (.enter f vs) w := by
  show (callFunc f (#[] ++ xs.map a.eval ++ #[])).run P w = _
  unfold callFunc
  have hn' : ¬ fn.name = "runtime.NumGoroutine" := by simpa using hn
  have hb' : ¬ fn.body = none := by intro h; rw [h] at hb; cases hb
  simp [go_sem, hf, hn', hb', hx]
theorem run_notOp {ρ : Operand → Value} {d : Option Tmp} {t : TypeId} {x : Operand} {ty : TypeId} {pos : String} {af : Array Edge} {g : Option (Nat × Bool)} {b : Bool} (hx : ρ x = .bool b) :
    (execOp ρ ⟨d, .unOp .not t x, ty, pos, af, g⟩).run P w = .ok (.value (.bool (!b))) w := by
  simp [execOp, hx, Op.unary, go_sem]
theorem run_lenOp {ρ : Operand → Value} {d : Option Tmp} {x : Operand} {t e : TypeId} {ty : TypeId} {pos : String} {af : Array Edge} {g : Option (Nat × Bool)} {ao : Option Addr} {n c : Nat} (ht : P.underlying t = some (.slice e)) (hx : ρ x = .slice ao n c) :
    (execOp ρ ⟨d, .call { callee := .builtin .len, args := #[x], argTypes := #[t] }, ty, pos, af, g⟩).run P w = .ok (.value (.int .i64 n)) w := by
  simp [hx, go_sem, Builtin.len_, underlying, ht]
end
end
end Go
namespace Go.Proofs.YtpgnlhfokffioaaDoor
section
open Go.RowKit
theorem infoU8 : (Tryd.prog.info? 5).map (fun i => (i.zero, i.size, i.bytes)) = some (some (.int .u8 0), 1, 1) := by kernel_rfl
set_option maxRecDepth 100000 in
set_option maxHeartbeats 1000000 in
theorem copyBytes_any (v : Value) (l : List UInt8) (w : World) (hl : l.length ≤ 1000000) (hv : Sl w v l) :
    Calls Tryd.prog 15 #[v] w fun e w' => ∃ v', e = .returned v' ∧ Below w.heap.size w w' ∧ w'.ownsRow w.heap.size 5 1 v' l.length (l.map B8) := by
  obtain ⟨ao, cap, rfl, hcl, hcm, -, hB⟩ := hv
  have HB := Lib.hid hB; clear hB
  obtain ⟨i0, hi, hz0, hz1, hz2⟩ := info_parts infoU8
  go_enter Tryd.func15, Tryd.ntmps15
  go_wp2
  go_loopw [3, 4] (fun m i wr => ∃ (k : Nat), k ≤ l.length ∧ i = .int .i64 k ∧ Below w.heap.size w wr ∧ wr.ownsRow w.heap.size 5 1 m k ((l.take k).map B8)) (fun _ i _ => l.length - (intOf i).toNat)
  case atStart => exact ⟨0, by omega, rfl, Below.refl _ _, World.ownsRow_nil _ _ _ _⟩
  case round =>
    obtain ⟨k, hk, rfl, hbl, hown⟩ := hrel
    by_cases hlt : k < l.length
    · obtain ⟨b, off, rfl, hbw, hBB⟩ := HB.out (by intro h; simp [h] at hlt)
      obtain ⟨x, hx, hcx, hx1⟩ := hBB.get k hlt
      have hcx' := (hbl.cell (p := ⟨b, off + k, none⟩) hbw).trans hcx
      have HX := Lib.hid hx; clear hx hBB hcx
      have hsz := hbl.size
      go_wp2_with (first
        | (at_builtin; refine wpList_append_own _ rfl _ _ 31 rfl w.heap.size 5 i0 (.int .u8 0) 1 1 Tryd.underlying31 hi hz0 hz1 hz2 rfl (by decide) _ _ _ rfl (hown.alloc _) ⟨wr.heap.size, 0, none⟩ 1 1 [B8 x] rfl rfl ?c1 ?c2 ?c3 ?c4 ?c5 ?_))
      case c1 =>
        intro j u hj
        match j, hj with
        | 0, hj => simp at hj; subst hj; simp [Addr.add]
      case c2 => intro u hu; simp at hu; subst hu; rfl
      case c3 => unfold maxLen; omega
      case c4 => omega
      case c5 => simp; omega
      intro v' w1 hown' hgrow _
      have hb2 : Below w.heap.size w w1 := (hbl.alloc hbl.size _).grown hgrow (by simp; omega) (by intro k hk; exact (hown.lt k hk).1)
      have ho2 : w1.ownsRow w.heap.size 5 1 v' (k + 1) ((l.take (k+1)).map B8) := by
        rw [List.take_succ_eq_append_getElem (by omega), List.map_append]
        have : l[k] = x := by have := HX.out; rw [List.getElem?_eq_getElem hlt] at this; simpa using this
        rw [this, List.map_take]; exact hown'
      clear hown' hgrow hown HX
      go_wp2
      go_roundw
      case rel => exact ⟨k + 1, by omega, by go_num, hb2, ho2⟩
      case measure => simp [intOf]; omega
    · have : k = l.length := by omega
      subst this
      rw [List.take_length] at hown
      clear HB
      go_wp2
      go_ret
      exact ⟨_, rfl, hbl, hown⟩
set_option maxRecDepth 100000 in
set_option maxHeartbeats 1000000 in
theorem eqBytes_any (v1 v2 : Value) (l1 l2 : List UInt8) (w : World) (hl : l1.length ≤ 1000000) (_hl2 : l2.length ≤ 1000000) (hv1 : Sl w v1 l1) (hv2 : Sl w v2 l2) :
    Calls Tryd.prog 20 #[v1, v2] w fun e w' => e = .returned (.bool (decide (l1 = l2))) ∧ ∃ m, w' = w.drewN m := by
  obtain ⟨ao1, cap1, rfl, -, -, -, hB1⟩ := hv1
  obtain ⟨ao2, cap2, rfl, -, -, -, hB2⟩ := hv2
  have HB1 := Lib.hid hB1; clear hB1
  have HB2 := Lib.hid hB2; clear hB2
  by_cases hlen : l1.length = l2.length
  · have hne : ((l1.length : Int) != (l2.length : Int)) = false := by simp [hlen]
    have HL := Lib.hid hlen
    go_enter Tryd.func20, Tryd.ntmps20
    have h1 : l1.length ≤ l2.length := by omega
    have h2 : l2.length ≤ l1.length := by omega
    clear hlen
    go_wp2
    go_loopw [5] (fun i wr => ∃ (k m : Nat), k ≤ l1.length ∧ i = .int .i64 k ∧ wr = w.drewN m ∧ l1.take k = l2.take k) (fun i _ => l1.length - (intOf i).toNat)
    case atStart => exact ⟨0, 0, by omega, rfl, rfl, rfl⟩
    case round =>
      obtain ⟨k, m, hk, rfl, rfl, heq⟩ := hrel
      have HE := Lib.hid heq; clear heq
      by_cases hlt : k < l1.length
      · obtain ⟨b1, off1, rfl, hbw1, hBB1⟩ := HB1.out (by intro h; simp [h] at hlt)
        obtain ⟨x, hx, hcx, hx1⟩ := hBB1.get k hlt
        obtain ⟨b2, off2, rfl, hbw2, hBB2⟩ := HB2.out (by intro h; have h5 : l2.length = 0 := by rw [h]; rfl
                                                          omega)
        obtain ⟨y, hy, hcy, hy1⟩ := hBB2.get k (by omega)
        have HX := Lib.hid hx; clear hx hBB1
        have HY := Lib.hid hy; clear hy hBB2
        have ht1 : l1.take (k+1) = l1.take k ++ [x] := by rw [List.take_add_one, HX.out]; rfl
        have ht2 : l2.take (k+1) = l2.take k ++ [y] := by rw [List.take_add_one, HY.out]; rfl
        have HT1 := Lib.hid ht1; have HT2 := Lib.hid ht2; clear ht1 ht2
        by_cases hxy : x = y
        · subst hxy
          go_wp2
          go_quiet (fail)
          go_wp2
          go_roundw
          case rel => exact ⟨k + 1, m + nq, by omega, by go_num, rfl, by rw [HT1.out, HT2.out, HE.out]⟩
          case measure => simp [intOf]; omega
        · have hne2 : ((x.toNat : Int) != (y.toNat : Int)) = true := by
            simp only [bne_iff_ne, ne_eq]; intro h; exact hxy (UInt8.toNat_inj.1 (by omega))
          have hfin : decide (l1 = l2) = false := by
            simp only [decide_eq_false_iff_not]; intro h
            have := HX.out; rw [h, HY.out] at this; exact hxy (by simpa using this.symm)
          have HF := Lib.hid hfin; clear hfin hxy
          go_wp2
          go_quiet (fail)
          go_wp2
          go_ret
          exact ⟨by rw [HF.out]; rfl, _, by first | rfl | exact World.drewN_drewN _ _ _⟩
      · have : k = l1.length := by omega
        have hfin : decide (l1 = l2) = true := by
          simp only [decide_eq_true_eq]
          have := HE.out; rw [List.take_of_length_le (by omega), List.take_of_length_le (by omega)] at this; exact this
        have HF := Lib.hid hfin; clear hfin this HB1 HB2
        go_wp2
        go_ret
        exact ⟨by rw [HF.out]; rfl, _, rfl⟩
  · have hne : ((l1.length : Int) != (l2.length : Int)) = true := by
      simp only [bne_iff_ne, ne_eq]; omega
    have hfin : decide (l1 = l2) = false := by simp only [decide_eq_false_iff_not]; intro h; exact hlen (by rw [h])
    have HF := Lib.hid hfin; clear hfin hlen HB1 HB2
    go_enter Tryd.func20, Tryd.ntmps20
    go_wp2
    go_ret
    exact ⟨by rw [HF.out]; rfl, 0, rfl⟩
def Own (w : World) (g : Nat) (l : List UInt8) : Prop := ∃ cur, w.heap[g]? = some (.cells cur 5 (0, 0)) ∧ l.length ≤ cur.size ∧ cur.toList.take l.length = l.map B8
theorem Own.get {w : World} {g : Nat} {l : List UInt8} (h : Own w g l) (k : Nat) (hk : k < l.length) :
    ∃ x, l[k]? = some x ∧ w.cell? ⟨g, k, none⟩ = some (.int .u8 (x.toNat : Int)) ∧ (x.toNat : Int) < 256 := by
  obtain ⟨cur, hh, hsz, ht⟩ := h
  refine ⟨l[k], List.getElem?_eq_getElem hk, ?_, by have := l[k].toNat_lt; omega⟩
  have : (cur.toList.take l.length)[k]? = some (B8 l[k]) := by rw [ht]; simp [hk]
  rw [List.getElem?_take] at this
  simp only [hk, if_true] at this
  simp only [World.cell?, hh, Option.isSome_none, Bool.false_eq_true, if_false]
  simpa using this
theorem Own.free {w : World} {g : Nat} {l : List UInt8} (h : Own w g l) (k : Nat) : w.frozen? ⟨g, k, none⟩ = false := by
  obtain ⟨cur, hh, _⟩ := h
  simp [World.frozen?, hh]
theorem Own.lt {w : World} {g : Nat} {l : List UInt8} (h : Own w g l) : g < w.heap.size := by
  obtain ⟨cur, hh, _⟩ := h
  rcases Nat.lt_or_ge g w.heap.size with h | h
  · exact h
  · rw [Array.getElem?_eq_none h] at hh; simp at hh
theorem Own.set {w : World} {g : Nat} {l : List UInt8} (h : Own w g l) (k : Nat) (x : UInt8) : Own (w.setCell ⟨g, k, none⟩ (.int .u8 (x.toNat : Int))) g (l.set k x) := by
  obtain ⟨cur, hh, hsz, ht⟩ := h
  refine ⟨cur.setIfInBounds k (B8 x), ?_, by simpa using hsz, ?_⟩
  · simp [World.setCell, Array.getElem?_modify, hh]
  · simp only [List.length_set, Array.toList_setIfInBounds, List.map_set]
    rw [← ht, List.take_set]
theorem Own.congr {w w' : World} {g : Nat} {l : List UInt8} (h : Own w g l) (he : w'.heap[g]? = w.heap[g]?) : Own w' g l := by
  obtain ⟨cur, hh, r⟩ := h
  exact ⟨cur, by rw [he]; exact hh, r⟩
theorem Own.drewN {w : World} {g : Nat} {l : List UInt8} (h : Own w g l) (n : Nat) : Own (w.drewN n) g l := h
theorem Own.drew {w : World} {g : Nat} {l : List UInt8} (h : Own w g l) : Own w.drew g l := h
theorem Sl.news {w : World} {ad : Addr} {cap : Nat} {l : List UInt8} (h : Sl w (.slice (some ad) l.length cap) l) : ∀ j u, (l.map B8)[j]? = some u → w.cell? (ad.add j) = some u := by
  obtain ⟨ao, c, hv, h1, h2, h3, h4⟩ := h
  simp only [Value.slice.injEq] at hv
  obtain ⟨rfl, -, rfl⟩ := hv
  intro j u hj
  simp only [List.getElem?_map, Option.map_eq_some_iff] at hj
  obtain ⟨x, hx, rfl⟩ := hj
  have hne : l ≠ [] := by intro h; subst h; simp at hx
  obtain ⟨b, off, he, hb, hB⟩ := h4 hne
  injection he with he
  subst he
  have := hB j x hx
  unfold Addr.add
  split
  · rename_i h0; subst h0; simpa using this
  · exact this
end
end Go.Proofs.YtpgnlhfokffioaaDoor
namespace Go.Proofs.YtpgnlhfokffioaaDoor
section
open Go.RowKit
def byteAt (v : Int) (i : Nat) : UInt8 := UInt8.ofNat (v / 2 ^ (8 * i) % 256).toNat
theorem byteAt_toNat (v : Int) (i : Nat) : ((byteAt v i).toNat : Int) = v / 2 ^ (8 * i) % 256 := by
  unfold byteAt; simp only [UInt8.toNat_ofNat']; omega
def bigv (v : Int) : Nat → List UInt8
  | 0 => []
  | n + 1 => byteAt v n :: bigv v n
theorem bigv_length (v : Int) (n : Nat) : (bigv v n).length = n := by induction n with | zero => rfl | succ n ih => simp [bigv, ih]
set_option maxRecDepth 100000 in
set_option maxHeartbeats 1000000 in
theorem numAppend_any (base n0 : Nat) (vb : Value) (xs : List UInt8) (n : Nat) (v : Int) (w : World) (hown : w.ownsRow base 5 1 vb n0 (xs.map B8)) (hn : n ≤ 8) (hn0 : n0 ≤ 1000000) (hbase : base ≤ w.heap.size) :
    Calls Tryd.prog 77 #[vb, .int .i64 n, .int .i64 v] w fun e w' => ∃ v', e = .returned v' ∧ Grew w w' vb v' ∧ w'.ownsRow base 5 1 v' (n0 + n) ((xs ++ bigv v n).map B8) := by
  obtain ⟨i0, hi, hz0, hz1, hz2⟩ := info_parts infoU8
  go_enter Tryd.func77, Tryd.ntmps77
  go_wp2
  go_loopw [0, 7] (fun m i wr => ∃ (j c : Nat) (ys : List UInt8), j ≤ n ∧ i = .int .i64 ((j : Int) - 1) ∧ Grew w wr vb m ∧ c + j = n0 + n ∧ xs ++ bigv v n = ys ++ bigv v j ∧ wr.ownsRow base 5 1 m c (ys.map B8)) (fun _ i _ => (intOf i + 1).toNat)
  case atStart => exact ⟨n, n0, xs, by omega, rfl, Grew.refl _ _, rfl, rfl, hown⟩
  case round =>
    obtain ⟨j, c, ys, hj, rfl, hg, hcj, hys, hown1⟩ := hrel
    clear hown
    have HY := Lib.hid hys; clear hys
    have HJ := Lib.hid hcj
    have hc1 : c ≤ n0 + n := by omega
    clear hcj
    have hsz := hg.1.size
    by_cases h0 : 1 ≤ j
    · obtain ⟨q, rfl⟩ : ∃ q, j = q + 1 := ⟨j - 1, by omega⟩
      rw [show (((q + 1 : Nat) : Int) - 1) = (q : Int) by omega]
      have hb := byteAt_toNat v q
      have HB := Lib.hid hb; clear hb
      go_wp2_with (first
        | (at_builtin; refine wpList_append_at _ rfl _ _ 31 rfl base 5 i0 (.int .u8 0) 1 1 Tryd.underlying31 hi hz0 hz1 hz2 rfl (by decide) _ _ _ rfl (hown1.alloc _) ⟨wr.heap.size, 0, none⟩ 1 1 [B8 (byteAt v q)] rfl rfl ?c1 ?c2 ?c3 ?c4 ?c5 ?_))
      case c1 =>
        intro t u hj
        match t, hj with
        | 0, hj => simp at hj; subst hj; simp [Addr.add]; exact HB.out.symm
      case c2 => intro u hu; simp at hu; subst hu; rfl
      case c3 => unfold maxLen; omega
      case c4 => omega
      case c5 => simp; omega
      intro v' w1 hown' hgrow hat
      have hg2 := hg.app hgrow hat
      have hown2 : w1.ownsRow base 5 1 v' (c + 1) ((ys ++ [byteAt v q]).map B8) := by rw [List.map_append]; exact hown'
      clear hown' hgrow hat hg hown1
      go_wp2
      go_roundw
      case rel => exact ⟨q, c + 1, _, by omega, by go_num, hg2, by have := HJ.out; omega, by rw [HY.out, List.append_assoc]; rfl, hown2⟩
      case measure => simp [intOf]
    · have : j = 0 := by omega
      subst this
      go_wp2
      go_ret
      have h1 := HJ.out
      have h2 : c = n0 + n := by omega
      have h3 : ys = xs ++ bigv v n := by rw [HY.out]; simp [bigv]
      rw [← h3, ← h2]
      exact ⟨_, rfl, hg, hown1⟩
set_option maxRecDepth 100000 in
set_option maxHeartbeats 1000000 in
theorem big_any (n : Nat) (v : Int) (w : World) (hn : n ≤ 8) :
    Calls Tryd.prog 88 #[.int .i64 v, .int .i64 n] w fun e w' => ∃ v', e = .returned v' ∧ Grew w w' (.slice none 0 0) v' ∧ w'.ownsRow w.heap.size 5 1 v' n ((bigv v n).map B8) := by
  obtain ⟨i0, hi, hz0, hz1, hz2⟩ := info_parts infoU8
  go_enter Tryd.func88, Tryd.ntmps88
  go_wp2
  go_loopw [5, 6] (fun m i wr => ∃ (j c : Nat) (ys : List UInt8), j ≤ n ∧ i = .int .i64 ((j : Int) - 1) ∧ Grew w wr (.slice none 0 0) m ∧ c + j = n ∧ bigv v n = ys ++ bigv v j ∧ wr.ownsRow w.heap.size 5 1 m c (ys.map B8)) (fun _ i _ => (intOf i + 1).toNat)
  case atStart => exact ⟨n, 0, [], by omega, rfl, Grew.refl _ _, by omega, rfl, World.ownsRow_nil _ _ _ _⟩
  case round =>
    obtain ⟨j, c, ys, hj, rfl, hg, hcj, hys, hown1⟩ := hrel
    have HY := Lib.hid hys; clear hys
    have HJ := Lib.hid hcj
    have hc1 : c ≤ n := by omega
    clear hcj
    have hsz := hg.1.size
    by_cases h0 : 1 ≤ j
    · obtain ⟨q, rfl⟩ : ∃ q, j = q + 1 := ⟨j - 1, by omega⟩
      rw [show (((q + 1 : Nat) : Int) - 1) = (q : Int) by omega]
      have hb := byteAt_toNat v q
      have HB := Lib.hid hb; clear hb
      go_wp2_with (first
        | (at_builtin; refine wpList_append_at _ rfl _ _ 31 rfl w.heap.size 5 i0 (.int .u8 0) 1 1 Tryd.underlying31 hi hz0 hz1 hz2 rfl (by decide) _ _ _ rfl (hown1.alloc _) ⟨wr.heap.size, 0, none⟩ 1 1 [B8 (byteAt v q)] rfl rfl ?c1 ?c2 ?c3 ?c4 ?c5 ?_))
      case c1 =>
        intro t u hj
        match t, hj with
        | 0, hj => simp at hj; subst hj; simp [Addr.add]; exact HB.out.symm
      case c2 => intro u hu; simp at hu; subst hu; rfl
      case c3 => unfold maxLen; omega
      case c4 => omega
      case c5 => simp; omega
      intro v' w1 hown' hgrow hat
      have hg2 := hg.app hgrow hat
      have hown2 : w1.ownsRow w.heap.size 5 1 v' (c + 1) ((ys ++ [byteAt v q]).map B8) := by rw [List.map_append]; exact hown'
      clear hown' hgrow hat hg hown1
      go_wp2
      go_roundw
      case rel => exact ⟨q, c + 1, _, by omega, by go_num, hg2, by have := HJ.out; omega, by rw [HY.out, List.append_assoc]; rfl, hown2⟩
      case measure => simp [intOf]
    · have : j = 0 := by omega
      subst this
      go_wp2
      go_ret
      have h1 := HJ.out
      have h2 : c = n := by omega
      have h3 : ys = bigv v n := by rw [HY.out]; simp [bigv]
      rw [← h3, ← h2]
      exact ⟨_, rfl, hg, hown1⟩
def ofv (l : List UInt8) : Int := l.foldl (fun v x => v * 256 + (x.toNat : Int)) 0
theorem ofv_snoc (l : List UInt8) (x : UInt8) : ofv (l ++ [x]) = ofv l * 256 + x.toNat := by simp [ofv, List.foldl_append]
theorem ofv_aux (l : List UInt8) : ∀ a : Int, 0 ≤ a → 0 ≤ l.foldl (fun v x => v * 256 + (x.toNat : Int)) a ∧ l.foldl (fun v x => v * 256 + (x.toNat : Int)) a < (a + 1) * 256 ^ l.length := by
  induction l with
  | nil => intro a h; simp; omega
  | cons x t ih =>
    intro a h
    have hx := x.toNat_lt
    obtain ⟨h1, h2⟩ := ih (a * 256 + x.toNat) (by omega)
    refine ⟨h1, Int.lt_of_lt_of_le h2 ?_⟩
    rw [List.length_cons, Int.pow_succ, Int.mul_comm (256 ^ t.length) 256, ← Int.mul_assoc]
    exact Int.mul_le_mul_of_nonneg_right (by omega) (Int.pow_nonneg (by decide))
theorem ofv_bd (l : List UInt8) : 0 ≤ ofv l ∧ ofv l < 256 ^ l.length := by
  have := ofv_aux l 0 (Int.le_refl 0)
  simpa [ofv] using this
set_option maxRecDepth 100000 in
set_option maxHeartbeats 1000000 in
theorem numRead_any (v : Value) (l : List UInt8) (w : World) (hl : l.length ≤ 6) (hv : Sl w v l) :
    Calls Tryd.prog 91 #[v] w fun e w' => e = .returned (.int .i64 (ofv l)) ∧ w = w' := by
  obtain ⟨ao, cap, rfl, hcl, hcm, -, hB⟩ := hv
  have HB := Lib.hid hB; clear hB
  go_enter Tryd.func91, Tryd.ntmps91
  go_wp2
  go_loop [3, 8] (fun x i => ∃ k : Nat, k ≤ l.length ∧ i = .int .i64 k ∧ x = .int .i64 (ofv (l.take k))) (fun _ i => l.length - (intOf i).toNat)
  case atStart => exact ⟨0, by omega, rfl, rfl⟩
  case round =>
    obtain ⟨k, hk, rfl, rfl⟩ := hrel
    have hbd := ofv_bd (l.take k)
    have hkl : (l.take k).length = k := by rw [List.length_take]; omega
    have hp : (256 : Int) ^ (l.take k).length ≤ 256 ^ 6 := by
      rw [hkl]; exact_mod_cast Nat.pow_le_pow_right (n := 256) (by omega) (by omega : k ≤ 6)
    obtain ⟨y, hy⟩ : ∃ y, y = ofv (l.take k) := ⟨_, rfl⟩
    rw [← hy] at hbd ⊢
    have hy0 : 0 ≤ y := hbd.1
    have hlt : k < l.length ∨ k = l.length := by omega
    rcases hlt with hlt | rfl
    · have hk6 : k ≤ 5 := by omega
      have hy1 : y < 1099511627776 := by
        have : (256 : Int) ^ (l.take k).length ≤ 256 ^ 5 := by
          rw [hkl]; exact_mod_cast Nat.pow_le_pow_right (n := 256) (by omega) hk6
        omega
      obtain ⟨b, off, rfl, hbw, hBB⟩ := HB.out (by intro h; simp [h] at hlt)
      obtain ⟨x, hx, hcx, hx1⟩ := hBB.get k hlt
      have orb := or_byte y (x.toNat : Int) hy0 (by omega) (by omega) hx1
      have hnx : ofv (l.take (k + 1)) = y * 256 + x.toNat := by
        rw [List.take_add_one, hx, hy]; exact ofv_snoc _ _
      have HY := Lib.hid hy; have HX := Lib.hid hx; have HN := Lib.hid hnx; clear hy hx hnx hp hkl hbd hBB
      go_wp2
      go_round
      case rel => exact ⟨k + 1, by omega, by go_num, by rw [HN.out]⟩
      case measure => simp [intOf]; omega
    · have hfin : ofv l = y := by rw [hy, List.take_length]
      have HY := Lib.hid hfin; clear hfin hy hp hkl hbd HB
      go_wp2
      go_ret
      exact ⟨by rw [HY.out]; rfl, rfl⟩
set_option maxRecDepth 100000 in
set_option maxHeartbeats 1000000 in
theorem of_any (v : Value) (l : List UInt8) (w : World) (hl : l.length ≤ 6) (hv : Sl w v l) :
    Calls Tryd.prog 93 #[v] w fun e w' => e = .returned (.int .i64 (ofv l)) ∧ w = w' := by
  obtain ⟨ao, cap, rfl, hcl, hcm, -, hB⟩ := hv
  have HB := Lib.hid hB; clear hB
  go_enter Tryd.func93, Tryd.ntmps93
  go_wp2
  go_loop [3, 4] (fun x i => ∃ k : Nat, k ≤ l.length ∧ i = .int .i64 k ∧ x = .int .i64 (ofv (l.take k))) (fun _ i => l.length - (intOf i).toNat)
  case atStart => exact ⟨0, by omega, rfl, rfl⟩
  case round =>
    obtain ⟨k, hk, rfl, rfl⟩ := hrel
    have hbd := ofv_bd (l.take k)
    have hkl : (l.take k).length = k := by rw [List.length_take]; omega
    have hp : (256 : Int) ^ (l.take k).length ≤ 256 ^ 6 := by
      rw [hkl]; exact_mod_cast Nat.pow_le_pow_right (n := 256) (by omega) (by omega : k ≤ 6)
    obtain ⟨y, hy⟩ : ∃ y, y = ofv (l.take k) := ⟨_, rfl⟩
    rw [← hy] at hbd ⊢
    have hy0 : 0 ≤ y := hbd.1
    have hlt : k < l.length ∨ k = l.length := by omega
    rcases hlt with hlt | rfl
    · have hk6 : k ≤ 5 := by omega
      have hy1 : y < 1099511627776 := by
        have : (256 : Int) ^ (l.take k).length ≤ 256 ^ 5 := by
          rw [hkl]; exact_mod_cast Nat.pow_le_pow_right (n := 256) (by omega) hk6
        omega
      obtain ⟨b, off, rfl, hbw, hBB⟩ := HB.out (by intro h; simp [h] at hlt)
      obtain ⟨x, hx, hcx, hx1⟩ := hBB.get k hlt
      have orb := or_byte y (x.toNat : Int) hy0 (by omega) (by omega) hx1
      have hnx : ofv (l.take (k + 1)) = y * 256 + x.toNat := by
        rw [List.take_add_one, hx, hy]; exact ofv_snoc _ _
      have HY := Lib.hid hy; have HX := Lib.hid hx; have HN := Lib.hid hnx; clear hy hx hnx hp hkl hbd hBB
      go_wp2
      go_round
      case rel => exact ⟨k + 1, by omega, by go_num, by rw [HN.out]⟩
      case measure => simp [intOf]; omega
    · have hfin : ofv l = y := by rw [hy, List.take_length]
      have HY := Lib.hid hfin; clear hfin hy hp hkl hbd HB
      go_wp2
      go_ret
      exact ⟨by rw [HY.out]; rfl, rfl⟩
end
end Go.Proofs.YtpgnlhfokffioaaDoor
namespace Go.Proofs.YtpgnlhfokffioaaDoor
section
open Go.RowKit
def Rd (P : Program) (w : World) (t : TypeId) (cs : List Value) : Prop :=
  ∃ (H : Type) (enc : TypeId × Value → H) (base : Nat) (spare : Nat → Bool) (held : Bool) (fuel : Nat) (x : DataW H × List MemPlace), DataW.trod enc P w base spare held fuel t cs = some x
section
variable {P : Program} {w : World} {t e : TypeId} {cs : List Value}
theorem Rd.int {k : IntKind} (ht : P.underlying t = some (.int k)) (h : Rd P w t cs) : ∃ n, cs = [.int k n] ∧ (Lit.int k n).wf = true := by
  obtain ⟨H, enc, base, spare, held, fuel, x, h⟩ := h
  obtain ⟨n, h1, _, h2⟩ := DataW.trod_int ht h
  exact ⟨n, h1, h2⟩
theorem Rd.i64 (ht : P.underlying t = some (.int .i64)) (h : Rd P w t cs) : ∃ n, cs = [.int .i64 n] ∧ -9223372036854775808 ≤ n ∧ n < 9223372036854775808 := by
  obtain ⟨n, h1, h2⟩ := h.int ht
  simp [Lit.wf, IntKind.min, IntKind.max, IntKind.signed, IntKind.bits] at h2
  exact ⟨n, h1, by omega, by omega⟩
theorem Rd.u8 (ht : P.underlying t = some (.int .u8)) (h : Rd P w t cs) : ∃ x : UInt8, cs = [B8 x] := by
  obtain ⟨n, h1, h2⟩ := h.int ht
  simp [Lit.wf, IntKind.min, IntKind.max, IntKind.signed, IntKind.bits] at h2
  refine ⟨UInt8.ofNat n.toNat, ?_⟩
  rw [h1]; simp only [B8, UInt8.toNat_ofNat']
  congr 2; omega
theorem Rd.u64 (ht : P.underlying t = some (.int .u64)) (h : Rd P w t cs) : ∃ n, cs = [.int .u64 n] ∧ 0 ≤ n ∧ n < 18446744073709551616 := by
  obtain ⟨n, h1, h2⟩ := h.int ht
  simp [Lit.wf, IntKind.min, IntKind.max, IntKind.signed, IntKind.bits] at h2
  exact ⟨n, h1, by omega, by omega⟩
theorem Rd.bool (ht : P.underlying t = some .bool) (h : Rd P w t cs) : ∃ b, cs = [.bool b] := by
  obtain ⟨H, enc, base, spare, held, fuel, x, h⟩ := h
  cases fuel with
  | zero => simp [DataW.trod] at h
  | succ n =>
    unfold DataW.trod at h
    rw [ht] at h
    split at h <;> simp_all
theorem Rd.string (ht : P.underlying t = some .string) (h : Rd P w t cs) : ∃ s : ByteArray, cs = [.string s] ∧ s.size ≤ maxLen := by
  obtain ⟨H, enc, base, spare, held, fuel, x, h⟩ := h
  obtain ⟨n, h1, _, h2⟩ := DataW.trod_string ht h
  exact ⟨n, h1, h2⟩
theorem Rd.struct {fs : Array Field} (ht : P.underlying t = some (.struct fs)) (h : Rd P w t cs) : cs.length = P.cellsOf t ∧ ∀ (i : Nat) (f : Field), fs[i]? = some f → Rd P w f.type ((cs.drop f.offset).take (P.cellsOf f.type)) := by
  obtain ⟨H, enc, base, spare, held, fuel, x, h⟩ := h
  obtain ⟨xs, n, _, _, h1, hsz, h2⟩ := DataW.trod_struct ht h
  refine ⟨h1, fun i f hf => ?_⟩
  have hi : i < xs.length := by
    rw [hsz]; rcases Nat.lt_or_ge i fs.size with h | h
    · exact h
    · rw [Array.getElem?_eq_none h] at hf; simp at hf
  exact ⟨H, enc, base, spare, held, n, xs[i], by rw [h2 i f hf, List.getElem?_eq_getElem hi]⟩
def Cells (w : World) (b off n : Nat) (cs : List Value) : Prop := cs.length = n ∧ ∀ j, j < n → w.cell? ⟨b, off + j, none⟩ = cs[j]?
theorem Rd.slice (ht : P.underlying t = some (.slice e)) (hpos : 0 < P.cellsOf e) (h : Rd P w t cs) :
    ∃ (ao : Option Addr) (len cap : Nat), cs = [.slice ao len cap] ∧ len ≤ cap ∧ cap ≤ maxLen ∧ (ao = none → cap = 0) ∧
      (0 < len → ∃ b off, ao = some ⟨b, off, none⟩ ∧ b < w.heap.size ∧ ∀ i, i < len → ∃ cs', Cells w b (off + i * P.cellsOf e) (P.cellsOf e) cs' ∧ Rd P w e cs') := by
  obtain ⟨H, enc, base, spare, held, fuel, x, h⟩ := h
  rcases Go.Deep.open_slice ht h with ⟨rfl, _⟩ | ⟨a, len, cap, m, n, D, Pl, rfl, hb, hl, hm, hmm, _, hel⟩
  · exact ⟨none, 0, 0, rfl, Nat.le_refl _, by simp, fun _ => rfl, fun h => by omega⟩
  · refine ⟨some a, len, cap, rfl, hl, hm, by simp, fun hlen => ?_⟩
    have hle : len ≤ m := by rw [hmm]; split <;> omega
    obtain ⟨cs0, h0, _⟩ := hel 0 (by omega)
    obtain ⟨_, hl0, hc0⟩ := World.cells?_some h0
    have hc := hc0 0 hpos
    have hadd : (a.add (0 * P.cellsOf e)).add 0 = a := by simp [Addr.add]
    rw [hadd, List.getElem?_eq_getElem (by omega)] at hc
    have hspot := World.cell?_spot hc
    obtain ⟨b, off, spot⟩ := a
    obtain rfl : spot = none := hspot
    refine ⟨b, off, rfl, ?_, fun i hi => ?_⟩
    · rcases Nat.lt_or_ge b w.heap.size with h | h
      · exact h
      · simp [World.cell?, Array.getElem?_eq_none h] at hc
    · obtain ⟨cs', h1, h2⟩ := hel i (by omega)
      obtain ⟨_, h3, h4⟩ := World.cells?_some h1
      have key : ∀ p q : Nat, ((⟨b, off, none⟩ : Addr).add p).add q = ⟨b, off + p + q, none⟩ := by
        intro p q; unfold Addr.add; split <;> split <;> simp_all
      refine ⟨cs', ⟨h3, fun j hj => ?_⟩, H, enc, base, spare, held, n, _, h2⟩
      rw [← h4 j hj, key]
theorem list_of_choice {α : Type} {n : Nat} {p : Nat → α → Prop} (h : ∀ i, i < n → ∃ q, p i q) : ∃ L : List α, L.length = n ∧ ∀ i q, L[i]? = some q → p i q := by
  induction n with
  | zero => exact ⟨[], rfl, by simp⟩
  | succ n ih =>
    obtain ⟨L, hL, hp⟩ := ih fun i hi => h i (by omega)
    obtain ⟨q, hq⟩ := h n (by omega)
    refine ⟨L ++ [q], by simp [hL], fun i x hx => ?_⟩
    rcases Nat.lt_or_ge i n with hi | hi
    · rw [List.getElem?_append_left (by omega)] at hx; exact hp i x hx
    · rw [List.getElem?_append_right (by omega), hL] at hx
      have : i = n := by
        rcases Nat.lt_or_ge (i - n) 1 with h | h
        · omega
        · rw [List.getElem?_eq_none (by simpa using h)] at hx; simp at hx
      subst this
      simp at hx; subst hx; exact hq
def SlOf {α : Type} (w : World) (size : Nat) (p : World → Nat → Nat → α → Prop) (v : Value) (L : List α) : Prop :=
  ∃ ao cap, v = .slice ao L.length cap ∧ L.length ≤ cap ∧ cap ≤ maxLen ∧ (ao = none → cap = 0) ∧ (L ≠ [] → ∃ b off, ao = some ⟨b, off, none⟩ ∧ b < w.heap.size ∧ ∀ i q, L[i]? = some q → p w b (off + i * size) q)
theorem Rd.slOf {α : Type} {p : World → Nat → Nat → α → Prop} {size : Nat} (ht : P.underlying t = some (.slice e)) (hs : P.cellsOf e = size) (hpos : 0 < size) (h : Rd P w t cs)
    (hp : ∀ b off cs', b < w.heap.size → Cells w b off size cs' → Rd P w e cs' → ∃ q, p w b off q) : ∃ v L, cs = [v] ∧ SlOf w size p v L := by
  subst hs
  obtain ⟨ao, len, cap, rfl, h1, h2, h3, h4⟩ := h.slice ht hpos
  by_cases h0 : 0 < len
  · obtain ⟨b, off, rfl, hb, hel⟩ := h4 h0
    obtain ⟨L, hL, hq⟩ := list_of_choice (p := fun i q => p w b (off + i * P.cellsOf e) q) fun i hi => by
      obtain ⟨cs', hc, hr⟩ := hel i hi
      exact hp b _ cs' hb hc hr
    exact ⟨_, L, rfl, _, cap, by rw [hL], by omega, h2, h3, fun _ => ⟨b, off, rfl, hb, hq⟩⟩
  · have : len = 0 := by omega
    subst this
    exact ⟨_, [], rfl, ao, cap, rfl, h1, h2, h3, fun hne => (hne rfl).elim⟩
theorem Rd.bytes (ht : P.underlying t = some (.slice e)) (hs : P.cellsOf e = 1) (he : P.underlying e = some (.int .u8)) (h : Rd P w t cs) : ∃ v l, cs = [v] ∧ Sl w v l := by
  obtain ⟨v, L, rfl, ao, cap, rfl, h1, h2, h3, h4⟩ := h.slOf (p := fun w b off x => w.cell? ⟨b, off, none⟩ = some (B8 x)) ht hs (by omega) (by
    intro b off cs' _ hc hr
    obtain ⟨x, rfl⟩ := hr.u8 he
    exact ⟨x, by simpa using hc.2 0 (by omega)⟩)
  refine ⟨_, L, rfl, ao, cap, rfl, h1, h2, h3, fun hne => ?_⟩
  obtain ⟨b, off, rfl, hb, hq⟩ := h4 hne
  exact ⟨b, off, rfl, hb, fun i x hx => by simpa using hq i x hx⟩
end
end
end Go.Proofs.YtpgnlhfokffioaaDoor
namespace Go.Proofs.YtpgnlhfokffioaaDoor
section
open Go.RowKit
theorem B8_one (l : List UInt8) : ∀ u ∈ l.map B8, u.oneCell' = true := by
  intro u hu; simp only [List.mem_map] at hu; obtain ⟨x, -, rfl⟩ := hu; rfl
theorem own_mono {w : World} {base base' e size n : Nat} {v : Value} {xs : List Value} (h : w.ownsRow base e size v n xs) (hb : base' ≤ base) : w.ownsRow base' e size v n xs := by
  obtain ⟨h1, h2⟩ := h
  refine ⟨h1, ?_⟩
  rcases h2 with h2 | ⟨g, cap, cur, hv, hg, r⟩
  · exact .inl h2
  · exact .inr ⟨g, cap, cur, hv, Nat.le_trans hb hg, r⟩
theorem own_slice {w : World} {base e size n : Nat} {v : Value} {xs : List Value} (h : w.ownsRow base e size v n xs) : ∃ ao cap, v = .slice ao n cap := by
  rcases h.2 with ⟨rfl, rfl⟩ | ⟨g, cap, cur, rfl, _⟩
  · exact ⟨none, 0, rfl⟩
  · exact ⟨_, cap, rfl⟩
theorem below_own {w w' : World} {base e size n : Nat} {v : Value} {xs : List Value} (h : w.ownsRow base e size v n xs) (hb : Below w.heap.size w w') : w'.ownsRow base e size v n xs := by
  obtain ⟨h1, h2⟩ := h
  refine ⟨h1, ?_⟩
  rcases h2 with h2 | ⟨g, cap, cur, h3, h4, h5, h6⟩
  · exact .inl h2
  · have hg : g < w.heap.size := by
      by_cases hq : g < w.heap.size
      · exact hq
      · rw [Array.getElem?_eq_none (by omega)] at h5; cases h5
    exact .inr ⟨g, cap, cur, h3, h4, (hb.block g hg).trans h5, h6⟩
end
end Go.Proofs.YtpgnlhfokffioaaDoor
namespace Go.Proofs.YtpgnlhfokffioaaDoor
section
open Go.RowKit
def RowAt (W : World) (q : Nat) (vs : List Value) : Prop := (∀ j v, vs[j]? = some v → W.cell? ⟨q, j, none⟩ = some v) ∧ (∀ j, W.frozen? ⟨q, j, none⟩ = false) ∧ q < W.heap.size
theorem RowAt.below {W W' : World} {q : Nat} {vs : List Value} (h : RowAt W q vs) (hb : Below W.heap.size W W') : RowAt W' q vs :=
  ⟨fun j v hj => (hb.cell (p := ⟨q, j, none⟩) h.2.2).trans (h.1 j v hj), fun j => (hb.frozen (p := ⟨q, j, none⟩) h.2.2).trans (h.2.1 j), Nat.lt_of_lt_of_le h.2.2 hb.size⟩
end
end Go.Proofs.YtpgnlhfokffioaaDoor
namespace Go
section
open Go.RowKit
theorem fresh {C : Act → World → Prop} {a : Act} {w : World} (F : Act → World → Prop) (h : F a w) (k : ∀ a w, F a w → C a w) : C a w := k a w h
theorem put_defers (a : Act) (d : Option Tmp) (v : Value) : (a.put d v).defers = a.defers := by cases d <;> rfl
section
variable {P : Program} {Q N : Exit → Act → World → Prop} {M : Act → World → Prop} {a : Act} {w : World}
theorem ow_run {o : Oper} {l : List Oper} {K : Act → World → Prop} (d : Nat) (v : Value) (w1 : World) (hd : o.dst = some d) (hr : (execOp a.eval o).run P w = .ok (.value v) w1) (h : wpRun P l (a.put (some d) v) w1 K) : wpRun P (o :: l) a w K := .inl ⟨v, w1, hr, by rw [hd]; exact h⟩
section
variable {ops : Array Oper}
theorem wanted_none {o : Oper} (h : o.guard = none) : Region.wanted o (yielded ops a.tmps) = true := by simp [Region.wanted, h]
theorem wanted_yes {o : Oper} {f fs : Nat} {pol : Bool} (hg : o.guard = some (f, pol)) (hfs : (ops[f]?).bind (·.dst) = some fs) (hf : a.tmps[fs]? = some (.bool pol)) : Region.wanted o (yielded ops a.tmps) = true := by
  simp only [Region.wanted, hg, yields hfs hf]; cases pol <;> rfl
theorem wanted_no {o : Oper} {f fs : Nat} {pol pol' : Bool} (hg : o.guard = some (f, pol)) (hfs : (ops[f]?).bind (·.dst) = some fs) (hf : a.tmps[fs]? = some (.bool pol')) (hn : pol' ≠ pol) : Region.wanted o (yielded ops a.tmps) = false := by
  simp only [Region.wanted, hg, yields hfs hf]; cases pol <;> cases pol' <;> first | rfl | exact (hn rfl).elim
theorem wanted_gone {o : Oper} {f fs : Nat} {pol : Bool} (hg : o.guard = some (f, pol)) (hfs : (ops[f]?).bind (·.dst) = some fs) (hf : a.tmps[fs]? = some undef) : Region.wanted o (yielded ops a.tmps) = false := by
  simp only [Region.wanted, hg, yielded, hfs, Option.bind_some, hf]; rfl
structure WL (P : Program) (ops : Array Oper) (Q : Exit → Act → World → Prop) (l : List Oper) (a : Act) (w : World) : Prop where
  out : wpList P ops Q l a w
theorem wl_done (h : Q .normal a w) : WL P ops Q [] a w := ⟨h⟩
theorem owl_wp {o : Oper} {l : List Oper} {K : Value → World → Prop} (hw : Region.wanted o (yielded ops a.tmps) = true) (h : opTo P o a w K) (hk : ∀ v w', K v w' → WL P ops Q l (a.put o.dst v) w') : WL P ops Q (o :: l) a w :=
  ⟨BigFrame.wpList_want hw fun _ hK => opTo_wp h fun v w' hv => hK _ _ (hk v w' hv).out⟩
theorem owl_run {o : Oper} {l : List Oper} (hw : Region.wanted o (yielded ops a.tmps) = true) (d : Nat) (v : Value) (w1 : World) (hd : o.dst = some d) (hr : (execOp a.eval o).run P w = .ok (.value v) w1) (h : WL P ops Q l (a.put (some d) v) w1) : WL P ops Q (o :: l) a w :=
  owl_wp hw (K := fun u w' => u = v ∧ w' = w1) (.inl ⟨v, w1, hr, rfl, rfl⟩) fun u w' ⟨hu, hw'⟩ => by rw [hu, hw', hd]; exact h
theorem owl_skip {o : Oper} {l : List Oper} (hw : Region.wanted o (yielded ops a.tmps) = true) (w1 : World) (hd : o.dst = none) (hr : (execOp a.eval o).run P w = .ok .skip w1) (h : WL P ops Q l a w1) : WL P ops Q (o :: l) a w :=
  owl_wp hw (K := fun _ w' => w' = w1) (.inr (.inr ⟨w1, hr, rfl⟩)) fun u w' hw' => by rw [hw', hd]; exact h
theorem owl_call {o : Oper} {l : List Oper} (hw : Region.wanted o (yielded ops a.tmps) = true) (d : Nat) (V : Value → World → Prop) (hd : o.dst = some d) (f : FuncId) (args : Array Value) (hr : (execOp a.eval o).run P w = .ok (.enter f args) w)
    (hc : Calls P f args w fun e w' => ∃ v, e = .returned v ∧ V v w') (h : ∀ v w', V v w' → WL P ops Q l (a.put (some d) v) w') : WL P ops Q (o :: l) a w :=
  owl_wp hw (K := V) (.inr (.inl ⟨f, args, hr, hc⟩)) fun u w' hu => by rw [hd]; exact h _ _ hu
theorem owl_no {o : Oper} {l : List Oper} (hw : Region.wanted o (yielded ops a.tmps) = false) (d : Nat) (hd : o.dst = some d) (h : WL P ops Q l (a.put (some d) undef) w) : WL P ops Q (o :: l) a w :=
  ⟨wpList_skip hw (by rw [hd]; exact h.out)⟩
theorem not_of {b c : Bool} (h : b = c) : (!b) = !c := by rw [h]
theorem flag_of {s : Nat} {b c : Bool} (h : a.tmps[s]? = some (.bool b)) (hb : b = c) : a.tmps[s]? = some (.bool c) := by rw [h, hb]
theorem owg_no {o : Oper} {l : List Oper} (f fs : Nat) (pol pol' : Bool) (hg : o.guard = some (f, pol)) (hfs : (ops[f]?).bind (·.dst) = some fs) (hf : a.tmps[fs]? = some (.bool pol')) (hn : pol' ≠ pol) (d : Nat) (hd : o.dst = some d) (h : WL P ops Q l (a.put (some d) undef) w) : WL P ops Q (o :: l) a w :=
  owl_no (wanted_no hg hfs hf hn) d hd h
theorem owg_run {o : Oper} {l : List Oper} (f fs : Nat) (pol : Bool) (hg : o.guard = some (f, pol)) (hfs : (ops[f]?).bind (·.dst) = some fs) (hf : a.tmps[fs]? = some (.bool pol)) (d : Nat) (v : Value) (w1 : World) (hd : o.dst = some d) (hr : (execOp a.eval o).run P w = .ok (.value v) w1) (h : WL P ops Q l (a.put (some d) v) w1) : WL P ops Q (o :: l) a w :=
  owl_run (wanted_yes hg hfs hf) d v w1 hd hr h
theorem owl_region {id : Nat} (pre : List Oper) (hp : ops.toList = pre) (h : WL P ops Q pre a w) : (Code.region id ops false).wp P Q a w := wp_region_list (by rw [hp]; exact h.out)
end
theorem ow_region {id : Nat} {ops : Array Oper} (pre : List Oper) (hp : ops.toList = pre) (hg : ∀ o ∈ pre, o.guard = none) (h : wpRun P pre a w (Q .normal)) : (Code.region id ops false).wp P Q a w := by
  refine wp_region_list ?_
  have := plain_runs (P := P) (ops := ops) (Q := Q) (rest := []) pre a w hg h
  rw [List.append_nil] at this
  rw [hp]; exact this
theorem ow_then (h : M a w) : Exit.then M Q .normal a w := h
theorem ow_then_ret (h : Q .ret a w) : Exit.then M Q .ret a w := h
theorem ow_then_goto {l : Nat} (h : Q (.goto l) a w) : Exit.then M Q (.goto l) a w := h
theorem ow_jump {J : Nat → Act → World → Prop} {l : Nat} (h : J l a w) : Exit.jumpsTo J Q (.goto l) a w := h
theorem ow_jump_ret {J : Nat → Act → World → Prop} (h : Q .ret a w) : Exit.jumpsTo J Q .ret a w := h
theorem ow_nogoto_ret (h : Q .ret a w) : Exit.noGoto Q .ret a w := h
theorem ow_blk_exit (id : Nat) (h : Q .normal a w) : Exit.inBlock id Q (.exit id) a w := by simpa [Exit.inBlock] using h
theorem ow_blk_far (id id' : Nat) (hn : id' ≠ id) (h : Q (.exit id') a w) : Exit.inBlock id Q (.exit id') a w := by simpa [Exit.inBlock, hn] using h
theorem ow_true {c : Operand} {x y : Code} (hc : a.eval c = .bool true) (h : x.wp P Q a w) : (Code.cond c x y).wp P Q a w := wp_cond hc (by simpa using h)
theorem ow_false {c : Operand} {x y : Code} (hc : a.eval c = .bool false) (h : y.wp P Q a w) : (Code.cond c x y).wp P Q a w := wp_cond hc (by simpa using h)
theorem ow_ret1 {fn : Func} {R : Ending → World → Prop} {t : Nat} {v : Value} (hr : fn.results = #[.tmp t]) (hd : a.defers = []) (hv : a.tmps[t]? = some v) (hR : R (.returned v) w) : bodyPost P fn R .ret a w :=
  bodyPost_ret (results_tmp hr _ _ _) hd (by rw [show a.tmps.getD t undef = v from by simp [Array.getD_eq_getD_getElem?, hv]]; exact hR)
theorem ow_ret2 {fn : Func} {R : Ending → World → Prop} {t1 t2 : Nat} {v1 v2 : Value} (hr : fn.results = #[.tmp t1, .tmp t2]) (hd : a.defers = []) (h1 : a.tmps[t1]? = some v1) (h2 : a.tmps[t2]? = some v2) (hR : R (.returned (.tuple #[v1, v2])) w) : bodyPost P fn R .ret a w :=
  bodyPost_ret (v := .tuple #[v1, v2]) (by simp [results, hr, Array.getD_eq_getD_getElem?, h1, h2]) hd hR
theorem ow_ret3 {fn : Func} {R : Ending → World → Prop} {t1 t2 t3 : Nat} {v1 v2 v3 : Value} (hr : fn.results = #[.tmp t1, .tmp t2, .tmp t3]) (hd : a.defers = []) (h1 : a.tmps[t1]? = some v1) (h2 : a.tmps[t2]? = some v2) (h3 : a.tmps[t3]? = some v3) (hR : R (.returned (.tuple #[v1, v2, v3])) w) : bodyPost P fn R .ret a w :=
  bodyPost_ret (v := .tuple #[v1, v2, v3]) (by simp [results, hr, Array.getD_eq_getD_getElem?, h1, h2, h3]) hd hR
theorem ow_retCell {fn : Func} {R : Ending → World → Prop} {t : Nat} {ty : TypeId} {ad : Addr} {v : Value} (hr : fn.results = #[.cell t ty]) (hd : a.defers = []) (hv : a.tmps[t]? = some (.pointer (some ad))) (hl : (loadVar ty ad).run P w = .ok v w) (hR : R (.returned v) w) : bodyPost P fn R .ret a w :=
  bodyPost_ret (v := v) (by simp [results, hr, Array.getD_eq_getD_getElem?, hv, asAddr, hl]) hd hR
theorem ow_retCell2 {fn : Func} {R : Ending → World → Prop} {t t2 t3 : Nat} {ty : TypeId} {ad : Addr} {v v2 v3 : Value} (hr : fn.results = #[.cell t ty, .tmp t2, .tmp t3]) (hd : a.defers = []) (hv : a.tmps[t]? = some (.pointer (some ad))) (hl : (loadVar ty ad).run P w = .ok v w) (h2 : a.tmps[t2]? = some v2) (h3 : a.tmps[t3]? = some v3) (hR : R (.returned (.tuple #[v, v2, v3])) w) : bodyPost P fn R .ret a w :=
  bodyPost_ret (v := .tuple #[v, v2, v3]) (by simp [results, hr, Array.getD_eq_getD_getElem?, hv, asAddr, hl, h2, h3]) hd hR
theorem ow_enter {f : FuncId} {fn : Func} {body : Code} {args : Array Value} {R : Ending → World → Prop} (n : Nat) (hf : P.funcs[f]? = some fn) (hb : fn.body = some body) (hn : fn.ntmps = n) (hle : args.size ≤ n)
    (h : ∀ a : Act, a.tmps.size = n → a.defers = [] → (∀ (i : Nat) (v : Value), args[i]? = some v → a.tmps[i]? = some v) → body.wp P (bodyPost P fn R) a w) : Calls P f args w R := by
  refine calls_of_wp hf hb (h _ (by simp [hn]; omega) rfl fun i v hi => ?_)
  have hl : i < args.size := by
    rcases Nat.lt_or_ge i args.size with h | h
    · exact h
    · rw [Array.getElem?_eq_none h] at hi; cases hi
  show (args ++ _)[i]? = some v
  rw [Array.getElem?_append_left hl]; exact hi
/-! a region that draws its order: an operation at a time, as the text has them; S holds all the while -/
section
variable {ops : Array Oper} {S : World → Prop}
structure AH (P : Program) (ops : Array Oper) (Q : Exit → Act → World → Prop) (S : World → Prop) (fuel : Nat) (listed : Array Bool) (a : Act) (w : World) : Prop where
  out : wpAnyH P .any ops Q S fuel listed a w
theorem ah_region {id : Nat} (S : World → Prop) (hm : P.follows .mixedOrders = true) (n : Nat) (hn : ops.size = n) (h : AH P ops Q S n (Array.replicate n false) a w.drew) : (Code.region id ops true).wp P Q a w := by
  subst hn; exact wp_region_held hm h.out
theorem ah_done {fuel : Nat} {listed : Array Bool} (hr : Region.ready .any ops listed = []) (h : Q .normal a w) : AH P ops Q S fuel listed a w := ⟨wpAnyH_done hr h _⟩
end
/-! values of operations -/
variable {ρ : Operand → Value} {d : Option Tmp} {ty : TypeId} {pos : String} {af : Array Edge} {g : Option (Nat × Bool)} {u v : Value} {w' : World}
theorem run_moveOp {x : Operand} (hx : ρ x = u) : (execOp ρ ⟨d, .move x, ty, pos, af, g⟩).run P w = .ok (.value u) w := by simp only [execOp, hx, Sem.run_pure]
theorem run_assignOp {x : Operand} (hx : ρ x = u) : (execOp ρ ⟨d, .assign x, ty, pos, af, g⟩).run P w = .ok (.value u) w := by simp only [execOp, hx, Sem.run_pure]
theorem run_boxOp {e : TypeId} {x : Operand} (hx : ρ x = u) (h : (Instr.box e u).run P w = .ok v w') : (execOp ρ ⟨d, .box e x, ty, pos, af, g⟩).run P w = .ok (.value v) w' := by
  simp only [execOp, hx, Sem.run_bind, h, Result.andThen_ok, Sem.run_pure]
theorem run_allocOp {e : TypeId} (h : (Instr.alloc e true (.tuple #[])).run P w = .ok v w') : (execOp ρ ⟨d, .alloc e, ty, pos, af, g⟩).run P w = .ok (.value v) w' := by
  simp only [execOp, Sem.run_bind, h, Result.andThen_ok, Sem.run_pure]
theorem run_storeOp {t : TypeId} {x y : Operand} (hx : ρ x = u) (hy : ρ y = v) (h : (Instr.storeAt t u v).run P w = .ok () w') : (execOp ρ ⟨d, .store t x y, ty, pos, af, g⟩).run P w = .ok .skip w' := by
  simp only [execOp, hx, hy, Sem.run_bind, h, Result.andThen_ok, Sem.run_pure]
theorem run_convOp {t1 t2 : TypeId} {x : Operand} (hx : ρ x = u) (h : (convert t1 t2 u).run P w = .ok v w) : (execOp ρ ⟨d, .convert t1 t2 x, ty, pos, af, g⟩).run P w = .ok (.value v) w := by
  simp only [execOp, hx, Sem.run_bind, h, Result.andThen_ok, Sem.run_pure]
theorem run_buildOp {t : TypeId} {parts : Array (Nat × Operand)} {vs : Array (Nat × Value)} {cells : Array Value} (hx : parts.map (fun (i, x) => (i, ρ x)) = vs) (h : P.built t vs.toList = some cells) : (execOp ρ ⟨d, .build t parts, ty, pos, af, g⟩).run P w = .ok (.value (.agg cells)) w := by
  simp only [execOp, hx, Sem.run_bind, run_build w t vs cells h, Result.andThen_ok, Sem.run_pure]
theorem run_extractOp {x : Operand} {i : Nat} {vs : Array Value} (hx : ρ x = .tuple vs) (hi : vs[i]? = some v) : (execOp ρ ⟨d, .extract x i, ty, pos, af, g⟩).run P w = .ok (.value v) w := by
  simp [execOp, hx, Instr.extract, hi, go_sem]
theorem run_sliceOp2 {t : TypeId} {x y z : Operand} {u1 u2 u3 : Value} (hx : ρ x = u1) (hy : ρ y = u2) (hz : ρ z = u3) (h : (Instr.sliceAt t u1 (some u2) (some u3) none).run P w = .ok v w) : (execOp ρ ⟨d, .slice t x (some y) (some z) none, ty, pos, af, g⟩).run P w = .ok (.value v) w := by
  simp only [execOp, hx, hy, hz, Option.map_some, Option.map_none, Sem.run_bind, h, Result.andThen_ok, Sem.run_pure]
theorem run_sliceOp1 {t : TypeId} {x z : Operand} {u1 u3 : Value} (hx : ρ x = u1) (hz : ρ z = u3) (h : (Instr.sliceAt t u1 none (some u3) none).run P w = .ok v w) : (execOp ρ ⟨d, .slice t x none (some z) none, ty, pos, af, g⟩).run P w = .ok (.value v) w := by
  simp only [execOp, hx, hz, Option.map_some, Option.map_none, Sem.run_bind, h, Result.andThen_ok, Sem.run_pure]
theorem run_indexOp {t : TypeId} {x y : Operand} {u1 u2 : Value} (hx : ρ x = u1) (hy : ρ y = u2) (h : (Instr.indexAt t u1 u2).run P w = .ok v w) : (execOp ρ ⟨d, .indexAddr t x y, ty, pos, af, g⟩).run P w = .ok (.value v) w := by
  simp only [execOp, hx, hy, Sem.run_bind, h, Result.andThen_ok, Sem.run_pure]
theorem run_lenStr {x : Operand} {t : TypeId} {s : ByteArray} (ht : P.underlying t = some .string) (hx : ρ x = .string s) :
    (execOp ρ ⟨d, .call { callee := .builtin .len, args := #[x], argTypes := #[t] }, ty, pos, af, g⟩).run P w = .ok (.value (.int .i64 s.size)) w := by
  simp [hx, go_sem, Builtin.len_, underlying, ht]
theorem run_pickT {c x y : Operand} (hc : ρ c = .bool true) (hx : ρ x = u) : (execOp ρ ⟨d, .pick c x y, ty, pos, af, g⟩).run P w = .ok (.value u) w := by
  simp only [execOp, hc, hx, asBool, Sem.run_bind, Sem.run_pure, Result.andThen_ok, if_true]
theorem run_pickF {c x y : Operand} (hc : ρ c = .bool false) (hy : ρ y = v) : (execOp ρ ⟨d, .pick c x y, ty, pos, af, g⟩).run P w = .ok (.value v) w := by
  simp only [execOp, hc, hy, asBool, Sem.run_bind, Sem.run_pure, Result.andThen_ok, Bool.false_eq_true, if_false]
theorem eval_cast {a : Act} {x : Operand} {b c : Bool} (h : a.eval x = .bool b) (hb : b = c) : a.eval x = .bool c := by rw [h, hb]
theorem bp1 {x0 : Operand} {u0 : Value} {k0 : Nat} (h0 : ρ x0 = u0) : #[(k0, x0)].map (fun ((i, x) : Nat × Operand) => (i, ρ x)) = #[(k0, u0)] := by simp [h0]
theorem bp2 {x0 x1 : Operand} {u0 u1 : Value} {k0 k1 : Nat} (h0 : ρ x0 = u0) (h1 : ρ x1 = u1) : #[(k0, x0), (k1, x1)].map (fun ((i, x) : Nat × Operand) => (i, ρ x)) = #[(k0, u0), (k1, u1)] := by simp [h0, h1]
theorem bp3 {x0 x1 x2 : Operand} {u0 u1 u2 : Value} {k0 k1 k2 : Nat} (h0 : ρ x0 = u0) (h1 : ρ x1 = u1) (h2 : ρ x2 = u2) : #[(k0, x0), (k1, x1), (k2, x2)].map (fun ((i, x) : Nat × Operand) => (i, ρ x)) = #[(k0, u0), (k1, u1), (k2, u2)] := by simp [h0, h1, h2]
theorem bp5 {x0 x1 x2 x3 x4 : Operand} {u0 u1 u2 u3 u4 : Value} {k0 k1 k2 k3 k4 : Nat} (h0 : ρ x0 = u0) (h1 : ρ x1 = u1) (h2 : ρ x2 = u2) (h3 : ρ x3 = u3) (h4 : ρ x4 = u4) : #[(k0, x0), (k1, x1), (k2, x2), (k3, x3), (k4, x4)].map (fun ((i, x) : Nat × Operand) => (i, ρ x)) = #[(k0, u0), (k1, u1), (k2, u2), (k3, u3), (k4, u4)] := by simp [h0, h1, h2, h3, h4]
theorem arr1 {x : Operand} (h1 : ρ x = u) : #[x].map ρ = #[u] := by simp [h1]
end
end
end Go
namespace Go.Proofs.YtpgnlhfokffioaaDoor
section
open Go.RowKit
section
variable {P : Program} {W : World} {q : Nat} {vs : List Value}
theorem rowAt_alloc (w : World) (vs : List Value) (t : TypeId) : RowAt (w.alloc (.cells vs.toArray t)) w.heap.size vs := by
  have h : (w.alloc (.cells vs.toArray t)).heap[w.heap.size]? = some (.cells vs.toArray t) := by
    show (w.heap.push _)[w.heap.size]? = _
    simp
  refine ⟨fun j v hj => ?_, fun j => ?_, by simp⟩
  · simp only [World.cell?, h, Option.isSome_none, Bool.false_eq_true, if_false]
    simpa using hj
  · unfold World.frozen?; rw [h]; simp
theorem RowAt.cell {j : Nat} {v : Value} (h : RowAt W q vs) (hj : vs[j]? = some v) : W.cell? ⟨q, j, none⟩ = some v := h.1 j v hj
theorem RowAt.range (h : RowAt W q vs) (o : Nat) (cs : List Value) (hc : ∀ j v, cs[j]? = some v → vs[o + j]? = some v) : W.rangeAt q o cs := fun j v hj => h.1 _ _ (hc j v hj)
theorem RowAt.there (h : RowAt W q vs) (o n : Nat) (hn : o + n ≤ vs.length) : W.there q o n := fun j hj =>
  ⟨by rw [h.1 (o + j) _ (List.getElem?_eq_getElem (by omega))]; rfl, h.2.1 _⟩
theorem RowAt.set1 (h : RowAt W q vs) (j : Nat) (v : Value) (hj : j < vs.length) : RowAt (W.setCell ⟨q, j, none⟩ v) q (vs.set j v) := by
  have h0 := h.1 j _ (List.getElem?_eq_getElem hj)
  refine ⟨fun i u hi => ?_, fun i => ?_, by simpa using h.2.2⟩
  · by_cases he : j = i
    · subst he
      obtain rfl : v = u := by simpa [hj] using hi
      exact World.cell?_setCell_same _ _ _ h0
    · rw [List.getElem?_set_ne he] at hi
      exact (World.cell?_setCell_other _ _ _ _ (by simp)).trans (h.1 i u hi)
  · rw [World.frozen?_setCell]; exact h.2.1 i
theorem RowAt.low {W' : World} {g : Nat} (h : RowAt W q vs) (hb : Below g W W') (hq : q < g) : RowAt W' q vs :=
  ⟨fun j v hj => (hb.cell (p := ⟨q, j, none⟩) hq).trans (h.1 j v hj), fun j => (hb.frozen (p := ⟨q, j, none⟩) hq).trans (h.2.1 j), Nat.lt_of_lt_of_le h.2.2 hb.size⟩
theorem mid_row (o n : Nat) (vs cs : List Value) (h : (vs.drop o).take n = cs) (j : Nat) (v : Value) (hj : cs[j]? = some v) : vs[o + j]? = some v := by
  subst h
  rw [List.getElem?_take] at hj
  split at hj
  · rwa [List.getElem?_drop] at hj
  · cases hj
theorem run_store1 {t : TypeId} {j : Nat} {v : Value} (h : RowAt W q vs) (hj : j < vs.length) (hs : (P.info? t).map (·.size) = some 1) (h1 : v.oneCell' = true) :
    (Instr.storeAt t (.pointer (some ⟨q, j, none⟩)) v).run P W = .ok () (W.setCell ⟨q, j, none⟩ v) := by
  obtain ⟨o, ho⟩ : ∃ o, vs[j]? = some o := ⟨_, List.getElem?_eq_getElem hj⟩
  cases hq : P.info? t with
  | none => simp [hq] at hs
  | some ie =>
    have hs' : ie.size = 1 := by simpa [hq] using hs
    simp only [Instr.storeAt, Instr.sureAddr, Sem.run_bind, Sem.run_pure, Result.andThen_ok]
    exact Lib.rl_storeVar_one t ie hq hs' _ v o h1 W (h.1 j o ho) (h.2.1 j)
theorem run_storeN {t : TypeId} {o : Nat} {xs : List Value} (h : RowAt W q vs) (hj : o + xs.length ≤ vs.length) (hs : (P.info? t).map (·.size) = some xs.length) (h1 : xs.all (·.oneCell') = true) :
    (Instr.storeAt t (.pointer (some ⟨q, o, none⟩)) (.agg xs.toArray)).run P W = .ok () (W.setCells q o xs) := by
  have := run_storeAt_mid (P := P) W q o t xs.toArray (h.there o _ (by simpa using hj)) (by simpa using hs) (by simpa using h1)
  simpa using this
theorem run_loadN {t : TypeId} {dsc : TypeDesc} {o : Nat} (cs : List Value) (h : RowAt W q vs) (hc : ∀ j v, cs[j]? = some v → vs[o + j]? = some v) (hu : P.underlying t = some dsc) (hd : dsc.isRow = true) (hs : (P.info? t).map (·.size) = some cs.length) :
    (Instr.loadAt t (.pointer (some ⟨q, o, none⟩))).run P W = .ok (.agg cs.toArray) W := run_loadAt_mid W q o t cs dsc (h.range o cs hc) hu hd hs
end
end
end Go.Proofs.YtpgnlhfokffioaaDoor
namespace Go.Proofs.YtpgnlhfokffioaaDoor
section
open Go.RowKit
def flg (b : Bool) (f : Int) : Int := if b then f else 0
theorem flag_any (b : Bool) (f : Int) (w : World) : Calls Tryd.prog 75 #[.bool b, .int .i64 f] w fun e w' => e = .returned (.int .i64 (flg b f)) ∧ w = w' := by
  cases b
  all_goals
    go_enter Tryd.func75, Tryd.ntmps75
    go_wp2
    go_ret
    exact ⟨rfl, rfl⟩
theorem bit_any (b : Bool) (n : UInt8) (w : World) : Calls Tryd.prog 61 #[.bool b, B8 n] w fun e w' => e = .returned (B8 (if b then n else 0)) ∧ w = w' := by
  cases b
  all_goals
    go_enter Tryd.func61, Tryd.ntmps61
    go_wp2
    go_ret
    exact ⟨rfl, rfl⟩
def lenB : Nat → Nat → List UInt8
  | 0, n => [UInt8.ofNat n]
  | k + 1, n => if n < 128 then [UInt8.ofNat n] else UInt8.ofNat (n % 128 + 128) :: lenB k (n / 128)
end
end Go.Proofs.YtpgnlhfokffioaaDoor
namespace Go.Proofs.YtpgnlhfokffioaaDoor
section
open Go.RowKit
def SlR (w : World) (n : Nat) (v : Value) (L : List (List Value)) : Prop :=
  ∃ ao cap, v = .slice ao L.length cap ∧ L.length ≤ cap ∧ cap ≤ maxLen ∧ (ao = none → cap = 0) ∧
    (L ≠ [] → ∃ b off, ao = some ⟨b, off, none⟩ ∧ b < w.heap.size ∧ ∀ i q, L[i]? = some q → ∀ j u, q[j]? = some u → w.cell? ⟨b, off + i * n + j, none⟩ = some u)
theorem SlR.below {w w' : World} {n : Nat} {v : Value} {L : List (List Value)} (h : SlR w n v L) (hb : Below w.heap.size w w') : SlR w' n v L := by
  obtain ⟨ao, cap, rfl, h1, h2, h3, h4⟩ := h
  refine ⟨ao, cap, rfl, h1, h2, h3, fun hne => ?_⟩
  obtain ⟨b, off, rfl, hlt, hB⟩ := h4 hne
  exact ⟨b, off, rfl, Nat.lt_of_lt_of_le hlt hb.size, fun i q hq j u hu => (hb.cell (p := ⟨b, off + i * n + j, none⟩) hlt).trans (hB i q hq j u hu)⟩
theorem SlR.drewN {w : World} {n : Nat} {v : Value} {L : List (List Value)} (h : SlR w n v L) (m : Nat) : SlR (w.drewN m) n v L := h.below (bdrew (Below.refl _ _) m)
theorem SlR.nil (w : World) (n : Nat) : SlR w n (.slice none 0 0) [] := ⟨none, 0, rfl, Nat.le_refl _, Nat.zero_le _, fun _ => rfl, fun h => (h rfl).elim⟩
theorem flatten_get {n : Nat} : ∀ (L : List (List Value)), (∀ q ∈ L, q.length = n) → ∀ i q, L[i]? = some q → ∀ j, j < n → L.flatten[i * n + j]? = q[j]? := by
  intro L
  induction L with
  | nil => intro _ i q hq; simp at hq
  | cons x t ih =>
    intro hl i q hq j hj
    have hx : x.length = n := hl x (by simp)
    match i, hq with
    | 0, hq =>
      simp only [List.getElem?_cons_zero, Option.some.injEq] at hq
      subst hq
      rw [List.flatten_cons, Nat.zero_mul, Nat.zero_add, List.getElem?_append_left (by omega)]
    | i + 1, hq =>
      simp only [List.getElem?_cons_succ] at hq
      rw [List.flatten_cons, List.getElem?_append_right (by rw [hx, Nat.succ_mul]; omega), hx]
      have := ih (fun q hq => hl q (by simp [hq])) i q hq j hj
      rw [← this]; congr 1; rw [Nat.succ_mul]; omega
theorem flatten_len {n : Nat} : ∀ (L : List (List Value)), (∀ q ∈ L, q.length = n) → L.flatten.length = L.length * n := by
  intro L
  induction L with
  | nil => intro _; simp
  | cons x t ih =>
    intro hl
    rw [List.flatten_cons, List.length_append, ih (fun q hq => hl q (by simp [hq])), hl x (by simp), List.length_cons, Nat.succ_mul]; omega
theorem SlR.of_own {w : World} {n : Nat} {v : Value} {L : List (List Value)} {base e k : Nat} (hn : 0 < n) (hL : ∀ q ∈ L, q.length = n) (h : w.ownsRow base e n v k L.flatten) : SlR w n v L ∧ k = L.length := by
  obtain ⟨h1, h2⟩ := h
  have hk : k = L.length := by rw [flatten_len L hL] at h1; exact (Nat.eq_of_mul_eq_mul_right hn h1).symm
  subst hk
  refine ⟨?_, rfl⟩
  rcases h2 with ⟨rfl, h0⟩ | ⟨g, cap, cur, rfl, hb, hh, hle, hcap, hsz, htake⟩
  · have : L = [] := List.eq_nil_of_length_eq_zero h0
    subst this
    exact SlR.nil _ _
  · refine ⟨_, cap, rfl, hle, hcap, fun hne => by simp at hne, fun _ => ⟨g, 0, rfl, ?_, ?_⟩⟩
    · rcases Nat.lt_or_ge g w.heap.size with h | h
      · exact h
      · rw [Array.getElem?_eq_none h] at hh; simp at hh
    · intro i q hq j u hu
      have hqn : q.length = n := hL q (List.mem_of_getElem? hq)
      have hj : j < n := by
        rcases Nat.lt_or_ge j n with h | h
        · exact h
        · rw [List.getElem?_eq_none (by omega)] at hu; simp at hu
      have h3 := flatten_get L hL i q hq j hj
      rw [hu, ← htake, List.getElem?_take] at h3
      split at h3
      · simp only [World.cell?, hh, Nat.zero_add, Option.isSome_none, Bool.false_eq_true, if_false]
        simpa using h3
      · simp at h3
end
end Go.Proofs.YtpgnlhfokffioaaDoor
namespace Go.Proofs.YtpgnlhfokffioaaDoor
section
open Go.RowKit
abbrev cn (x : Int) : List Value := [.int .i64 x]
abbrev cs1 (x : ByteArray) : List Value := [.string x]
theorem ba_inj (x y : ByteArray) (h : x.toList = y.toList) : x = y := by
  rw [ByteArray.toList_eq, ByteArray.toList_eq] at h
  exact ByteArray.ext (Array.toList_inj.1 h)
theorem infoI64 : (Tryd.prog.info? 3).map (fun i => (i.zero, i.size, i.bytes)) = some (some (.int .i64 0), 1, 8) := by kernel_rfl
theorem infoStr : (Tryd.prog.info? 9).map (fun i => (i.zero, i.size, i.bytes)) = some (some (.string ByteArray.empty), 1, 16) := by kernel_rfl
set_option maxRecDepth 100000 in
set_option maxHeartbeats 1000000 in
theorem eqNumbers_any (v1 v2 : Value) (l1 l2 : List Int) (w : World) (hl : l1.length ≤ 1000000) (_hl2 : l2.length ≤ 1000000) (hv1 : SlR w 1 v1 (l1.map cn)) (hv2 : SlR w 1 v2 (l2.map cn)) :
    Calls Tryd.prog 41 #[v1, v2] w fun e w' => e = .returned (.bool (decide (l1 = l2))) ∧ ∃ m, w' = w.drewN m := by
  obtain ⟨ao1, cap1, rfl, -, -, -, hB1⟩ := hv1
  obtain ⟨ao2, cap2, rfl, -, -, -, hB2⟩ := hv2
  simp only [List.length_map] at hB1 hB2 ⊢
  have HB1 := Lib.hid hB1; clear hB1
  have HB2 := Lib.hid hB2; clear hB2
  by_cases hlen : l1.length = l2.length
  · have hne : ((l1.length : Int) != (l2.length : Int)) = false := by simp [hlen]
    have HL := Lib.hid hlen
    go_enter Tryd.func41, Tryd.ntmps41
    have h1 : l1.length ≤ l2.length := by omega
    have h2 : l2.length ≤ l1.length := by omega
    clear hlen
    go_wp2
    go_loopw [5] (fun i wr => ∃ (k m : Nat), k ≤ l1.length ∧ i = .int .i64 k ∧ wr = w.drewN m ∧ l1.take k = l2.take k) (fun i _ => l1.length - (intOf i).toNat)
    case atStart => exact ⟨0, 0, by omega, rfl, rfl, rfl⟩
    case round =>
      obtain ⟨k, m, hk, rfl, rfl, heq⟩ := hrel
      have HE := Lib.hid heq; clear heq
      by_cases hlt : k < l1.length
      · obtain ⟨b1, off1, rfl, hbw1, hBB1⟩ := HB1.out (by intro h; simp at h; simp [h] at hlt)
        obtain ⟨x, hx⟩ : ∃ x, l1[k]? = some x := ⟨_, List.getElem?_eq_getElem hlt⟩
        obtain ⟨b2, off2, rfl, hbw2, hBB2⟩ := HB2.out (by intro h; rw [List.map_eq_nil_iff] at h; have h5 : l2.length = 0 := (by rw [h]; rfl); omega)
        obtain ⟨y, hy⟩ : ∃ x, l2[k]? = some x := ⟨_, List.getElem?_eq_getElem (by omega)⟩
        have hcx : w.cell? ⟨b1, off1 + k, none⟩ = some (.int .i64 x) := by
          have := hBB1 k (cn x) (by rw [List.getElem?_map, hx]; rfl) 0 _ rfl
          simpa using this
        have hcy : w.cell? ⟨b2, off2 + k, none⟩ = some (.int .i64 y) := by
          have := hBB2 k (cn y) (by rw [List.getElem?_map, hy]; rfl) 0 _ rfl
          simpa using this
        have HX := Lib.hid hx; clear hx hBB1
        have HY := Lib.hid hy; clear hy hBB2
        have ht1 : l1.take (k+1) = l1.take k ++ [x] := by rw [List.take_add_one, HX.out]; rfl
        have ht2 : l2.take (k+1) = l2.take k ++ [y] := by rw [List.take_add_one, HY.out]; rfl
        have HT1 := Lib.hid ht1; have HT2 := Lib.hid ht2; clear ht1 ht2
        by_cases hxy : x = y
        · subst hxy
          have heq2 : ((x : Int) != (x : Int)) = false := by simp
          go_wp2
          go_quiet (fail)
          go_wp2
          go_roundw
          case rel => exact ⟨k + 1, m + nq, by omega, by go_num, rfl, by rw [HT1.out, HT2.out, HE.out]⟩
          case measure => simp [intOf]; omega
        · have hne2 : ((x : Int) != (y : Int)) = true := by simpa using hxy
          have hfin : decide (l1 = l2) = false := by
            simp only [decide_eq_false_iff_not]; intro h
            have := HX.out; rw [h, HY.out] at this; exact hxy (by simpa using this.symm)
          have HF := Lib.hid hfin; clear hfin hxy
          go_wp2
          go_quiet (fail)
          go_wp2
          go_ret
          exact ⟨by rw [HF.out]; rfl, _, by first | rfl | exact World.drewN_drewN _ _ _⟩
      · have : k = l1.length := by omega
        have hfin : decide (l1 = l2) = true := by
          simp only [decide_eq_true_eq]
          have := HE.out; rw [List.take_of_length_le (by omega), List.take_of_length_le (by omega)] at this; exact this
        have HF := Lib.hid hfin; clear hfin this HB1 HB2
        go_wp2
        go_ret
        exact ⟨by rw [HF.out]; rfl, _, rfl⟩
  · have hne : ((l1.length : Int) != (l2.length : Int)) = true := by
      simp only [bne_iff_ne, ne_eq]; omega
    have hfin : decide (l1 = l2) = false := by simp only [decide_eq_false_iff_not]; intro h; exact hlen (by rw [h])
    have HF := Lib.hid hfin; clear hfin hlen HB1 HB2
    go_enter Tryd.func41, Tryd.ntmps41
    go_wp2
    go_ret
    exact ⟨by rw [HF.out]; rfl, 0, rfl⟩
theorem flatNumbers (l : List Int) : (l.map cn).flatten = l.map (fun x => (.int .i64 x : Value)) := by induction l with | nil => rfl | cons x t ih => simp [ih]
set_option maxRecDepth 100000 in
set_option maxHeartbeats 1000000 in
theorem eqStrings_any (v1 v2 : Value) (l1 l2 : List ByteArray) (w : World) (hl : l1.length ≤ 1000000) (_hl2 : l2.length ≤ 1000000) (hv1 : SlR w 1 v1 (l1.map cs1)) (hv2 : SlR w 1 v2 (l2.map cs1)) :
    Calls Tryd.prog 43 #[v1, v2] w fun e w' => e = .returned (.bool (decide (l1 = l2))) ∧ ∃ m, w' = w.drewN m := by
  obtain ⟨ao1, cap1, rfl, -, -, -, hB1⟩ := hv1
  obtain ⟨ao2, cap2, rfl, -, -, -, hB2⟩ := hv2
  simp only [List.length_map] at hB1 hB2 ⊢
  have HB1 := Lib.hid hB1; clear hB1
  have HB2 := Lib.hid hB2; clear hB2
  by_cases hlen : l1.length = l2.length
  · have hne : ((l1.length : Int) != (l2.length : Int)) = false := by simp [hlen]
    have HL := Lib.hid hlen
    go_enter Tryd.func43, Tryd.ntmps43
    have h1 : l1.length ≤ l2.length := by omega
    have h2 : l2.length ≤ l1.length := by omega
    clear hlen
    go_wp2
    go_loopw [5] (fun i wr => ∃ (k m : Nat), k ≤ l1.length ∧ i = .int .i64 k ∧ wr = w.drewN m ∧ l1.take k = l2.take k) (fun i _ => l1.length - (intOf i).toNat)
    case atStart => exact ⟨0, 0, by omega, rfl, rfl, rfl⟩
    case round =>
      obtain ⟨k, m, hk, rfl, rfl, heq⟩ := hrel
      have HE := Lib.hid heq; clear heq
      by_cases hlt : k < l1.length
      · obtain ⟨b1, off1, rfl, hbw1, hBB1⟩ := HB1.out (by intro h; simp at h; simp [h] at hlt)
        obtain ⟨x, hx⟩ : ∃ x, l1[k]? = some x := ⟨_, List.getElem?_eq_getElem hlt⟩
        obtain ⟨b2, off2, rfl, hbw2, hBB2⟩ := HB2.out (by intro h; rw [List.map_eq_nil_iff] at h; have h5 : l2.length = 0 := (by rw [h]; rfl); omega)
        obtain ⟨y, hy⟩ : ∃ x, l2[k]? = some x := ⟨_, List.getElem?_eq_getElem (by omega)⟩
        have hcx : w.cell? ⟨b1, off1 + k, none⟩ = some (.string x) := by
          have := hBB1 k (cs1 x) (by rw [List.getElem?_map, hx]; rfl) 0 _ rfl
          simpa using this
        have hcy : w.cell? ⟨b2, off2 + k, none⟩ = some (.string y) := by
          have := hBB2 k (cs1 y) (by rw [List.getElem?_map, hy]; rfl) 0 _ rfl
          simpa using this
        have HX := Lib.hid hx; clear hx hBB1
        have HY := Lib.hid hy; clear hy hBB2
        have ht1 : l1.take (k+1) = l1.take k ++ [x] := by rw [List.take_add_one, HX.out]; rfl
        have ht2 : l2.take (k+1) = l2.take k ++ [y] := by rw [List.take_add_one, HY.out]; rfl
        have HT1 := Lib.hid ht1; have HT2 := Lib.hid ht2; clear ht1 ht2
        by_cases hxy : x = y
        · subst hxy
          have heq2 : (x.toList == x.toList) = true := by simp
          go_wp2
          go_quiet (fail)
          go_wp2
          go_roundw
          case rel => exact ⟨k + 1, m + nq, by omega, by go_num, rfl, by rw [HT1.out, HT2.out, HE.out]⟩
          case measure => simp [intOf]; omega
        · have hne2 : (x.toList == y.toList) = false := by rw [beq_eq_false_iff_ne]; exact fun h => hxy (ba_inj x y h)
          have hfin : decide (l1 = l2) = false := by
            simp only [decide_eq_false_iff_not]; intro h
            have := HX.out; rw [h, HY.out] at this; exact hxy (by simpa using this.symm)
          have HF := Lib.hid hfin; clear hfin hxy
          go_wp2
          go_quiet (fail)
          go_wp2
          go_ret
          exact ⟨by rw [HF.out]; rfl, _, by first | rfl | exact World.drewN_drewN _ _ _⟩
      · have : k = l1.length := by omega
        have hfin : decide (l1 = l2) = true := by
          simp only [decide_eq_true_eq]
          have := HE.out; rw [List.take_of_length_le (by omega), List.take_of_length_le (by omega)] at this; exact this
        have HF := Lib.hid hfin; clear hfin this HB1 HB2
        go_wp2
        go_ret
        exact ⟨by rw [HF.out]; rfl, _, rfl⟩
  · have hne : ((l1.length : Int) != (l2.length : Int)) = true := by
      simp only [bne_iff_ne, ne_eq]; omega
    have hfin : decide (l1 = l2) = false := by simp only [decide_eq_false_iff_not]; intro h; exact hlen (by rw [h])
    have HF := Lib.hid hfin; clear hfin hlen HB1 HB2
    go_enter Tryd.func43, Tryd.ntmps43
    go_wp2
    go_ret
    exact ⟨by rw [HF.out]; rfl, 0, rfl⟩
theorem flatStrings (l : List ByteArray) : (l.map cs1).flatten = l.map (fun x => (.string x : Value)) := by induction l with | nil => rfl | cons x t ih => simp [ih]
end
end Go.Proofs.YtpgnlhfokffioaaDoor
namespace Go.Proofs.YtpgnlhfokffioaaDoor
section
open Go.RowKit
structure EWish where
  f : ByteArray
  q : Int
abbrev rowWish (x : EWish) : List Value := [.string x.f, .int .i64 x.q]
theorem wishesNe (f1 : ByteArray) (q1 : Int) (f2 : ByteArray) (q2 : Int) (w : World) : (binOp .neq 93 (.agg #[.string f1, .int .i64 q1]) (.agg #[.string f2, .int .i64 q2])).run Tryd.prog w = .ok (.bool (!((f1.toList == f2.toList) && (q1 == q2)))) w := by
  rw [run_neq_struct, show (10000 : Nat) = 9999 + 1 from rfl, run_equalIn_agg w 9999 _ _ _ (by kernel_rfl) (by kernel_rfl)]
  simp [go_sem, Program.fieldsOf, Tryd.underlying93, Op.eqFields, part, Tryd.underlying3, Tryd.underlying9]
  by_cases h0 : f1.toList = f2.toList <;> by_cases h1 : q1 = q2 <;> simp [*]
theorem infoWish : (Tryd.prog.info? 93).map (fun i => (i.zero, i.size, i.bytes)) = some (some (.agg #[.string ByteArray.empty, .int .i64 0]), 2, 24) := by kernel_rfl
theorem wishesGuard (x y : Operand) (xs ys : Array Value) (w : World) : (eqGuard .neq 93 x y (.agg xs) (.agg ys)).run Tryd.prog w = .ok () w := run_eqGuard_agg w .neq _ x y xs ys (by kernel_rfl)
theorem wishes_eq (x y : EWish) : ((x.f.toList == y.f.toList) && (x.q == y.q)) = true ↔ x = y := by
  obtain ⟨xf, xq⟩ := x; obtain ⟨yf, yq⟩ := y
  simp only [Bool.and_eq_true, beq_iff_eq, EWish.mk.injEq]
  constructor
  · intro h; exact ⟨ba_inj _ _ h.1, h.2⟩
  · intro h; obtain ⟨rfl, rfl⟩ := h; simp
instance : DecidableEq EWish := fun x y => decidable_of_iff _ (wishes_eq x y)
set_option maxRecDepth 100000 in
set_option maxHeartbeats 1000000 in
theorem eqWishes_any (v1 v2 : Value) (l1 l2 : List EWish) (w : World) (hl : l1.length ≤ 1000000) (_hl2 : l2.length ≤ 1000000) (hv1 : SlR w 2 v1 (l1.map rowWish)) (hv2 : SlR w 2 v2 (l2.map rowWish)) :
    Calls Tryd.prog 42 #[v1, v2] w fun e w' => e = .returned (.bool (decide (l1 = l2))) ∧ ∃ m, w' = w.drewN m := by
  obtain ⟨ao1, cap1, rfl, -, -, -, hB1⟩ := hv1
  obtain ⟨ao2, cap2, rfl, -, -, -, hB2⟩ := hv2
  simp only [List.length_map] at hB1 hB2 ⊢
  have HB1 := Lib.hid hB1; clear hB1
  have HB2 := Lib.hid hB2; clear hB2
  have hgu := wishesGuard
  by_cases hlen : l1.length = l2.length
  · have hne : ((l1.length : Int) != (l2.length : Int)) = false := by simp [hlen]
    go_enter Tryd.func42, Tryd.ntmps42
    have h1 : l1.length ≤ l2.length := by omega
    have h2 : l2.length ≤ l1.length := by omega
    clear hlen
    go_wp2
    go_loopw [5] (fun i wr => ∃ (k m : Nat), k ≤ l1.length ∧ i = .int .i64 k ∧ wr = w.drewN m ∧ l1.take k = l2.take k) (fun i _ => l1.length - (intOf i).toNat)
    case atStart => exact ⟨0, 0, by omega, rfl, rfl, rfl⟩
    case round =>
      obtain ⟨k, m, hk, rfl, rfl, heq⟩ := hrel
      have HE := Lib.hid heq; clear heq
      by_cases hlt : k < l1.length
      · obtain ⟨b1, off1, rfl, hbw1, hBB1⟩ := HB1.out (by intro h; simp at h; simp [h] at hlt)
        obtain ⟨x, hx⟩ : ∃ x, l1[k]? = some x := ⟨_, List.getElem?_eq_getElem hlt⟩
        obtain ⟨b2, off2, rfl, hbw2, hBB2⟩ := HB2.out (by intro h; rw [List.map_eq_nil_iff] at h; have h5 : l2.length = 0 := (by rw [h]; rfl); omega)
        obtain ⟨y, hy⟩ : ∃ x, l2[k]? = some x := ⟨_, List.getElem?_eq_getElem (by omega)⟩
        have cx0 : w.cell? ⟨b1, off1 + k * 2, none⟩ = some (.string x.f) := by
          have := hBB1 k (rowWish x) (by rw [List.getElem?_map, hx]; rfl) 0 _ rfl
          simpa using this
        have cx1 : w.cell? ⟨b1, off1 + k * 2 + 1, none⟩ = some (.int .i64 x.q) := by
          have := hBB1 k (rowWish x) (by rw [List.getElem?_map, hx]; rfl) 1 _ rfl
          simpa using this
        have cy0 : w.cell? ⟨b2, off2 + k * 2, none⟩ = some (.string y.f) := by
          have := hBB2 k (rowWish y) (by rw [List.getElem?_map, hy]; rfl) 0 _ rfl
          simpa using this
        have cy1 : w.cell? ⟨b2, off2 + k * 2 + 1, none⟩ = some (.int .i64 y.q) := by
          have := hBB2 k (rowWish y) (by rw [List.getElem?_map, hy]; rfl) 1 _ rfl
          simpa using this
        have HX := Lib.hid hx; clear hx hBB1
        have HY := Lib.hid hy; clear hy hBB2
        have ht1 : l1.take (k+1) = l1.take k ++ [x] := by rw [List.take_add_one, HX.out]; rfl
        have ht2 : l2.take (k+1) = l2.take k ++ [y] := by rw [List.take_add_one, HY.out]; rfl
        have HT1 := Lib.hid ht1; have HT2 := Lib.hid ht2; clear ht1 ht2
        have hb := wishesNe x.f x.q y.f y.q
        have hxyb := wishes_eq x y
        generalize ((x.f.toList == y.f.toList) && (x.q == y.q)) = B at hb hxyb
        by_cases hxy : x = y
        · obtain rfl : B = true := hxyb.2 hxy
          have HXY := Lib.hid hxy
          clear hxy hxyb
          simp only [Bool.not_true] at hb
          go_wp2
          go_quiet (fail)
          go_wp2
          go_roundw
          case rel => exact ⟨k + 1, m + nq, by omega, by go_num, rfl, by rw [HT1.out, HT2.out, HE.out, HXY.out]⟩
          case measure => simp [intOf]; omega
        · obtain rfl : B = false := by cases B with | false => rfl | true => exact (hxy (hxyb.1 rfl)).elim
          simp only [Bool.not_false] at hb
          have hfin : decide (l1 = l2) = false := by
            simp only [decide_eq_false_iff_not]; intro h
            have := HX.out; rw [h, HY.out] at this; exact hxy (by simpa using this.symm)
          have HF := Lib.hid hfin; clear hfin hxy hxyb
          go_wp2
          go_quiet (fail)
          go_wp2
          go_ret
          exact ⟨by rw [HF.out]; rfl, _, by first | rfl | exact World.drewN_drewN _ _ _⟩
      · have : k = l1.length := by omega
        have hfin : decide (l1 = l2) = true := by
          simp only [decide_eq_true_eq]
          have := HE.out; rw [List.take_of_length_le (by omega), List.take_of_length_le (by omega)] at this; exact this
        have HF := Lib.hid hfin; clear hfin this HB1 HB2
        go_wp2
        go_ret
        exact ⟨by rw [HF.out]; rfl, _, rfl⟩
  · have hne : ((l1.length : Int) != (l2.length : Int)) = true := by
      simp only [bne_iff_ne, ne_eq]; omega
    have hfin : decide (l1 = l2) = false := by simp only [decide_eq_false_iff_not]; intro h; exact hlen (by rw [h])
    have HF := Lib.hid hfin; clear hfin hlen HB1 HB2
    go_enter Tryd.func42, Tryd.ntmps42
    go_wp2
    go_ret
    exact ⟨by rw [HF.out]; rfl, 0, rfl⟩
end
end Go.Proofs.YtpgnlhfokffioaaDoor
namespace Go.Proofs.YtpgnlhfokffioaaDoor
section
open Go.RowKit
structure Mq where
  k : Int
  cl : ByteArray
  clean : Bool
  keep : Int
  wI : Bool
  wT : ByteArray
  wP : ByteArray
  wQ : Int
  wR : Bool
  us : ByteArray
  hu : Bool
  pa : ByteArray
  hp : Bool
  pres : Bool
  code : Int
  cs : List Int
  dup : Bool
  q : Int
  re : Bool
  top : ByteArray
  id : Int
  pay : ByteArray
  ws : List EWish
  fs : List ByteArray
abbrev Mq.row (m : Mq) (vc vw vf : Value) : List Value :=
  [.int .i64 m.k, .string m.cl, .bool m.clean, .int .i64 m.keep, .bool m.wI, .string m.wT, .string m.wP, .int .i64 m.wQ, .bool m.wR, .string m.us, .bool m.hu, .string m.pa, .bool m.hp, .bool m.pres, .int .i64 m.code, vc,
   .bool m.dup, .int .i64 m.q, .bool m.re, .string m.top, .int .i64 m.id, .string m.pay, vw, vf]
abbrev Mq.val (m : Mq) (vc vw vf : Value) : Value := .agg (m.row vc vw vf).toArray
structure Mq.Lists (W : World) (m : Mq) (vc vw vf : Value) : Prop where
  c : SlR W 1 vc (m.cs.map cn)
  w : SlR W 2 vw (m.ws.map rowWish)
  f : SlR W 1 vf (m.fs.map cs1)
theorem Mq.Lists.below {W W' : World} {m : Mq} {vc vw vf : Value} (h : m.Lists W vc vw vf) (hb : Below W.heap.size W W') : m.Lists W' vc vw vf := ⟨h.c.below hb, h.w.below hb, h.f.below hb⟩
def isE (s : ByteArray) : Bool := s.toList == ([] : List UInt8)
theorem ba_nil : ByteArray.empty.toList = [] := by rw [ByteArray.toList_eq]; rfl
theorem isE_iff (s : ByteArray) : isE s = true ↔ s = ByteArray.empty := by
  unfold isE
  constructor
  · intro h
    refine ba_inj _ _ ?_
    rw [beq_iff_eq] at h; rw [h, ba_nil]
  · rintro rfl; simp
theorem isE_size (s : ByteArray) : isE s = (s.size == 0) := by
  unfold isE
  rw [ByteArray.toList_eq]
  obtain ⟨⟨l⟩⟩ := s
  cases l <;> rfl
/-! the operations on a packet's fields -/
section
variable (q : Nat) (w : World)
theorem eqStr (x y : Operand) (s t : ByteArray) : (eqGuard .eql 9 x y (.string s) (.string t)).run Tryd.prog w = .ok () w := by simp [go_sem]
theorem eqBool (x y : Operand) (s t : Bool) : (eqGuard .eql 4 x y (.bool s) (.bool t)).run Tryd.prog w = .ok () w := by simp [go_sem]
theorem eqWill (x y : Operand) (xs ys : Array Value) : (eqGuard .eql 25 x y (.agg xs) (.agg ys)).run Tryd.prog w = .ok () w := run_eqGuard_agg w .eql _ x y xs ys (by kernel_rfl)
theorem strE (s : ByteArray) : (binOp .eql 9 (.string s) (.string { data := #[] })).run Tryd.prog w = .ok (.bool (isE s)) w := by simp [go_sem, isE]
theorem strEq (s t : ByteArray) : (binOp .eql 9 (.string s) (.string t)).run Tryd.prog w = .ok (.bool (s.toList == t.toList)) w := by simp [go_sem]
theorem boolEq (s t : Bool) : (binOp .eql 4 (.bool s) (.bool t)).run Tryd.prog w = .ok (.bool (s == t)) w := by simp [go_sem]
theorem willEq (b b' : Bool) (s s' t t' : ByteArray) (n n' : Int) (c c' : Bool) : (binOp .eql 25 (.agg #[.bool b, .string s, .string t, .int .i64 n, .bool c]) (.agg #[.bool b', .string s', .string t', .int .i64 n', .bool c'])).run Tryd.prog w =
    .ok (.bool ((b == b') && (s.toList == s'.toList) && (t.toList == t'.toList) && (n == n') && (c == c'))) w := by
  rw [run_eql_struct, show (10000 : Nat) = 9999 + 1 from rfl, run_equalIn_agg w 9999 _ _ _ (by kernel_rfl) (by kernel_rfl)]
  simp [go_sem, Program.fieldsOf, Tryd.underlying25, Op.eqFields, part, Tryd.underlying4, Tryd.underlying3, Tryd.underlying9]
  by_cases h0 : b = b' <;> by_cases h1 : s.toList = s'.toList <;> by_cases h2 : t.toList = t'.toList <;> by_cases h3 : n = n' <;> by_cases h4 : c = c' <;> simp [*]
end
end
end Go.Proofs.YtpgnlhfokffioaaDoor
namespace Go
section
open Go.RowKit
theorem pf1 {a : Act} {j : Nat} {d0 : Nat} {v0 : Value} {o : Option Value} (h : d0 ≠ j) (hx : a.tmps[j]? = o) : (a.put (some d0) v0).tmps[j]? = o := (put_far a d0 j v0 h).trans hx
theorem pf2 {a : Act} {j : Nat} {d0 d1 : Nat} {v0 v1 : Value} {o : Option Value} (h : d0 ≠ j ∧ d1 ≠ j) (hx : a.tmps[j]? = o) : ((a.put (some d0) v0).put (some d1) v1).tmps[j]? = o := by
  obtain ⟨h0, h1⟩ := h
  rw [put_far _ _ _ _ h1, put_far _ _ _ _ h0]; exact hx
theorem pf4 {a : Act} {j : Nat} {d0 d1 d2 d3 : Nat} {v0 v1 v2 v3 : Value} {o : Option Value} (h : d0 ≠ j ∧ d1 ≠ j ∧ d2 ≠ j ∧ d3 ≠ j) (hx : a.tmps[j]? = o) : ((((a.put (some d0) v0).put (some d1) v1).put (some d2) v2).put (some d3) v3).tmps[j]? = o := by
  obtain ⟨h0, h1, h2, h3⟩ := h
  rw [put_far _ _ _ _ h3, put_far _ _ _ _ h2, put_far _ _ _ _ h1, put_far _ _ _ _ h0]; exact hx
theorem pf8 {a : Act} {j : Nat} {d0 d1 d2 d3 d4 d5 d6 d7 : Nat} {v0 v1 v2 v3 v4 v5 v6 v7 : Value} {o : Option Value} (h : d0 ≠ j ∧ d1 ≠ j ∧ d2 ≠ j ∧ d3 ≠ j ∧ d4 ≠ j ∧ d5 ≠ j ∧ d6 ≠ j ∧ d7 ≠ j) (hx : a.tmps[j]? = o) : ((((((((a.put (some d0) v0).put (some d1) v1).put (some d2) v2).put (some d3) v3).put (some d4) v4).put (some d5) v5).put (some d6) v6).put (some d7) v7).tmps[j]? = o := by
  obtain ⟨h0, h1, h2, h3, h4, h5, h6, h7⟩ := h
  rw [put_far _ _ _ _ h7, put_far _ _ _ _ h6, put_far _ _ _ _ h5, put_far _ _ _ _ h4, put_far _ _ _ _ h3, put_far _ _ _ _ h2, put_far _ _ _ _ h1, put_far _ _ _ _ h0]; exact hx
theorem pf16 {a : Act} {j : Nat} {d0 d1 d2 d3 d4 d5 d6 d7 d8 d9 d10 d11 d12 d13 d14 d15 : Nat} {v0 v1 v2 v3 v4 v5 v6 v7 v8 v9 v10 v11 v12 v13 v14 v15 : Value} {o : Option Value} (h : d0 ≠ j ∧ d1 ≠ j ∧ d2 ≠ j ∧ d3 ≠ j ∧ d4 ≠ j ∧ d5 ≠ j ∧ d6 ≠ j ∧ d7 ≠ j ∧ d8 ≠ j ∧ d9 ≠ j ∧ d10 ≠ j ∧ d11 ≠ j ∧ d12 ≠ j ∧ d13 ≠ j ∧ d14 ≠ j ∧ d15 ≠ j) (hx : a.tmps[j]? = o) : ((((((((((((((((a.put (some d0) v0).put (some d1) v1).put (some d2) v2).put (some d3) v3).put (some d4) v4).put (some d5) v5).put (some d6) v6).put (some d7) v7).put (some d8) v8).put (some d9) v9).put (some d10) v10).put (some d11) v11).put (some d12) v12).put (some d13) v13).put (some d14) v14).put (some d15) v15).tmps[j]? = o := by
  obtain ⟨h0, h1, h2, h3, h4, h5, h6, h7, h8, h9, h10, h11, h12, h13, h14, h15⟩ := h
  rw [put_far _ _ _ _ h15, put_far _ _ _ _ h14, put_far _ _ _ _ h13, put_far _ _ _ _ h12, put_far _ _ _ _ h11, put_far _ _ _ _ h10, put_far _ _ _ _ h9, put_far _ _ _ _ h8, put_far _ _ _ _ h7, put_far _ _ _ _ h6, put_far _ _ _ _ h5, put_far _ _ _ _ h4, put_far _ _ _ _ h3, put_far _ _ _ _ h2, put_far _ _ _ _ h1, put_far _ _ _ _ h0]; exact hx
section
variable {P : Program} {Q : Exit → Act → World → Prop} {a : Act} {w : World}
theorem ow_loop {c : Code} (I : Nat → Act → World → Prop) (n0 : Nat) (h0 : I n0 a w) (round : ∀ n a w, I n a w → ∀ K : Act → World → Prop, (∀ n' a' w', n' < n → I n' a' w' → K a' w') → c.wp P (Exit.then K Q) a w) : (Code.loop c).wp P Q a w :=
  wp_loop_ghost I n0 h0 fun n a w h => round n a w h _ fun n' _ _ hn hI => ⟨n', hn, hI⟩
variable {ops : Array Oper} {S : World → Prop}
theorem ah_takeW {fuel : Nat} {listed : Array Bool} (i d : Nat) (v : Value) {oi : Oper} (hi : ops[i]? = some oi) (hw : Region.wanted oi (yielded ops a.tmps) = true) (hd : oi.dst = some d) (hs : Region.noSelect ops = true) (hf : Region.free .any ops listed i = true) (hr : (Region.ready .any ops listed).contains i = true)
    (hQ : ∀ c a w, Q (.panic c) (a.put (some d) v) w → Q (.panic c) a w) (hS : S w) (hrun : ∀ W, S W → (execOp a.eval oi).run P W = .ok (.value v) W) (h : AH P ops Q S fuel (listed.setIfInBounds i true) (a.put (some d) v) w) : AH P ops Q S (fuel + 1) listed a w :=
  ⟨wpAnyH_take hi hs hf hr (by rw [hd]; exact hQ) (.inl ⟨hw, hrun⟩) hS (by rw [hd]; exact h.out)⟩
theorem ah_takeNo {fuel : Nat} {listed : Array Bool} (i d : Nat) {oi : Oper} (hi : ops[i]? = some oi) (hw : Region.wanted oi (yielded ops a.tmps) = false) (hd : oi.dst = some d) (hs : Region.noSelect ops = true) (hf : Region.free .any ops listed i = true) (hr : (Region.ready .any ops listed).contains i = true)
    (hQ : ∀ c a w, Q (.panic c) (a.put (some d) undef) w → Q (.panic c) a w) (hS : S w) (h : AH P ops Q S fuel (listed.setIfInBounds i true) (a.put (some d) undef) w) : AH P ops Q S (fuel + 1) listed a w :=
  ⟨wpAnyH_take hi hs hf hr (by rw [hd]; exact hQ) (.inr ⟨hw, rfl⟩) hS (by rw [hd]; exact h.out)⟩
structure AO (P : Program) (ops : Array Oper) (Q : Exit → Act → World → Prop) (S : World → Prop) (fuel : Nat) (listed : Array Bool) (i : Nat) (a : Act) (w : World) : Prop where
  out : wpOp P ops Q i (fun a' w' => S w' ∧ wpAnyH P .any ops Q S fuel (listed.setIfInBounds i true) a' w') a w
theorem ah_one {fuel : Nat} {listed : Array Bool} (i : Nat) (hr : Region.ready .any ops listed = [i]) (h : AO P ops Q S fuel listed i a w) : AH P ops Q S (fuel + 1) listed a w :=
  ⟨wpAnyH_all hr (by simp) fun j hj => by
    obtain rfl : j = i := by simpa using hj
    exact h.out⟩
theorem ah_two {fuel : Nat} {listed : Array Bool} (i k : Nat) (hr : Region.ready .any ops listed = [i, k]) (h : AO P ops Q S fuel listed i a w) (h2 : AO P ops Q S fuel listed k a w) : AH P ops Q S (fuel + 1) listed a w :=
  ⟨wpAnyH_all hr (by simp) fun j hj => by
    rcases (show j = i ∨ j = k by simpa using hj) with rfl | rfl
    · exact h.out
    · exact h2.out⟩
theorem ao_wp {fuel : Nat} {listed : Array Bool} {i : Nat} {oi : Oper} (hi : ops[i]? = some oi) (hw : Region.wanted oi (yielded ops a.tmps) = true) (K : Value → World → Prop) (hop : opTo P oi a w K) (h : ∀ v w', K v w' → S w' ∧ AH P ops Q S fuel (listed.setIfInBounds i true) (a.put oi.dst v) w') : AO P ops Q S fuel listed i a w := by
  refine ⟨?_⟩
  unfold wpOp
  rw [hi]
  simp only [hw, if_true]
  exact .inl (opTo_wp hop fun v w' hv => ⟨(h v w' hv).1, (h v w' hv).2.out⟩)
theorem ao_run {fuel : Nat} {listed : Array Bool} {i : Nat} {oi : Oper} (hi : ops[i]? = some oi) (hw : Region.wanted oi (yielded ops a.tmps) = true) (d : Nat) (v : Value) (w1 : World) (hd : oi.dst = some d) (hrun : (execOp a.eval oi).run P w = .ok (.value v) w1) (hS : S w1) (h : AH P ops Q S fuel (listed.setIfInBounds i true) (a.put (some d) v) w1) : AO P ops Q S fuel listed i a w :=
  ao_wp hi hw (fun u w' => u = v ∧ w' = w1) (.inl ⟨v, w1, hrun, rfl, rfl⟩) fun u w' ⟨hu, hw'⟩ => by rw [hu, hw', hd]; exact ⟨hS, h⟩
theorem ao_call {fuel : Nat} {listed : Array Bool} {i : Nat} {oi : Oper} (hi : ops[i]? = some oi) (hw : Region.wanted oi (yielded ops a.tmps) = true) (d : Nat) (K : Value → World → Prop) (hd : oi.dst = some d) (f : FuncId) (args : Array Value) (hr : (execOp a.eval oi).run P w = .ok (.enter f args) w)
    (hc : Calls P f args w fun e w' => ∃ v, e = .returned v ∧ K v w') (h : ∀ v w', K v w' → S w' ∧ AH P ops Q S fuel (listed.setIfInBounds i true) (a.put (some d) v) w') : AO P ops Q S fuel listed i a w :=
  ao_wp hi hw K (.inr (.inl ⟨f, args, hr, hc⟩)) fun u w' hu => by rw [hd]; exact h _ _ hu
theorem ao_to {fuel : Nat} {listed : Array Bool} {i : Nat} {oi : Oper} (hi : ops[i]? = some oi) (hw : Region.wanted oi (yielded ops a.tmps) = true) (d : Nat) (K : Value → World → Prop) (hd : oi.dst = some d) (hop : opTo P oi a w K)
    (h : ∀ v w', K v w' → S w' ∧ AH P ops Q S fuel (listed.setIfInBounds i true) (a.put (some d) v) w') : AO P ops Q S fuel listed i a w :=
  ao_wp hi hw K hop fun u w' hu => by rw [hd]; exact h _ _ hu
theorem ao_skip {fuel : Nat} {listed : Array Bool} {i : Nat} {oi : Oper} (hi : ops[i]? = some oi) (hw : Region.wanted oi (yielded ops a.tmps) = true) (hd : oi.dst = none) (w1 : World) (hrun : (execOp a.eval oi).run P w = .ok .skip w1) (hS : S w1) (h : AH P ops Q S fuel (listed.setIfInBounds i true) a w1) : AO P ops Q S fuel listed i a w :=
  ao_wp hi hw (fun _ w' => w' = w1) (.inr (.inr ⟨w1, hrun, rfl⟩)) fun u w' hw' => by rw [hw', hd]; exact ⟨hS, h⟩
theorem run_nilOp {ρ : Operand → Value} {d : Option Tmp} {ty : TypeId} {pos : String} {af : Array Edge} {g : Option (Nat × Bool)} {x : Operand} {ad : Addr} (hx : ρ x = .pointer (some ad)) :
    (execOp ρ ⟨d, .nilCheck x, ty, pos, af, g⟩).run P w = .ok (.value (.pointer (some ad))) w := by
  simp [execOp, hx, go_sem]
end
end
end Go
namespace Go.Proofs.YtpgnlhfokffioaaDoor
section
open Go.RowKit
section
variable {ρ : Operand → Value} {d : Option Tmp} {ty : TypeId} {pos : String} {af : Array Edge} {g : Option (Nat × Bool)} {w : World} {P : Program}
end
theorem wrap_in (c : Int) (h1 : -9223372036854775808 ≤ c) (h2 : c < 9223372036854775808) : IntKind.i64.wrap c = c := wrap_i64 c h1 h2
section
variable (w : World)
theorem eqIntI (s t : Int) (op : BinOp) (x y : Operand) (t0 : TypeId) : (eqGuard op t0 x y (.int .i64 s) (.int .i64 t)).run Tryd.prog w = .ok () w := by cases op <;> rfl
theorem addIw (x y c : Int) (h : x + y = c) (h1 : -9223372036854775808 ≤ c) (h2 : c < 9223372036854775808) : (binOp .add 3 (.int .i64 x) (.int .i64 y)).run Tryd.prog w = .ok (.int .i64 c) w := by
  have e : IntKind.i64.wrap (x + y) = c := by rw [h]; exact wrap_in c h1 h2
  simp [go_sem, e]
theorem subIw (x y c : Int) (h : x - y = c) (h1 : -9223372036854775808 ≤ c) (h2 : c < 9223372036854775808) : (binOp .sub 3 (.int .i64 x) (.int .i64 y)).run Tryd.prog w = .ok (.int .i64 c) w := by
  have e : IntKind.i64.wrap (x - y) = c := by rw [h]; exact wrap_in c h1 h2
  simp [go_sem, e]
theorem mulIw (x y c : Int) (h : x * y = c) (h1 : -9223372036854775808 ≤ c) (h2 : c < 9223372036854775808) : (binOp .mul 3 (.int .i64 x) (.int .i64 y)).run Tryd.prog w = .ok (.int .i64 c) w := by
  have e : IntKind.i64.wrap (x * y) = c := by rw [h]; exact wrap_in c h1 h2
  simp [go_sem, e]
theorem andIw (x y : Int) : (binOp .and 3 (.int .i64 x) (.int .i64 y)).run Tryd.prog w = .ok (.int .i64 (bits .and .i64 x y)) w := by simp [go_sem]
theorem neqIw (s t : Int) : (binOp .neq 3 (.int .i64 s) (.int .i64 t)).run Tryd.prog w = .ok (.bool (!(s == t))) w := by simp [go_sem, bne]
theorem neqIb (s t : Int) (b : Bool) (h : (s == t) = !b) : (binOp .neq 3 (.int .i64 s) (.int .i64 t)).run Tryd.prog w = .ok (.bool b) w := by rw [neqIw, h, Bool.not_not]
end
theorem opTo_app {P : Program} {o : Oper} {a : Act} {w : World} (s x : Operand) (t e : TypeId) (ho : o.op = .call { callee := .builtin .append, args := #[s, x], argTypes := #[t, t] }) (base : Nat) (i : TypeInfo) (z : Value) (size bytes : Nat) (ht : P.underlying t = some (.slice e)) (hi : P.info? e = some i) (hz : i.zero = some z)
    (hsize : i.size = size) (hby : i.bytes = bytes) (hzs : z.cells.size = size) (hpos : 0 < size) (v : Value) (n : Nat) (xs : List Value) (hs : a.eval s = v) (hown : w.ownsRow base e size v n xs) (ad : Addr) (m cap : Nat) (news : List Value) (hx : a.eval x = .slice (some ad) m cap) (hlen : news.length = m * size)
    (hnews : ∀ j u, news[j]? = some u → w.cell? (ad.add j) = some u) (h1 : ∀ u ∈ news, u.oneCell' = true) (hn : n + m ≤ maxLen) (hb : (n + m) * bytes ≤ 140737488355328) (hbase : base ≤ w.heap.size) :
    opTo P o a w fun v' w' => Grew w w' v v' ∧ w'.ownsRow base e size v' (n + m) (xs ++ news) := by
  obtain ⟨v', w', hr, h2, h3, h4⟩ := run_append_at (P := P) w base t o.type e i z size bytes ht hi hz hsize hby hzs hpos v n xs hown ad m cap news hlen hnews h1 hn hb hbase
  refine .inl ⟨v', w', ?_, (Grew.refl w v).app0 h3 h4, h2⟩
  unfold execOp
  simp only [ho, resolve, invoke, builtin, Sem.run_bind, Sem.run_pure, Result.andThen_ok, List.map_toArray, List.map_cons, List.map_nil, hs, hx, hr]
theorem opTo_bytes {o : Oper} {a : Act} {w : World} (s x : Operand)
    (ho : o.op = .call { callee := .builtin .append, args := #[s, x], argTypes := #[31, 31] }) (base : Nat) (v : Value) (n : Nat) (xs l : List UInt8) (hs : a.eval s = v) (hown : w.ownsRow base 5 1 v n (xs.map B8)) (vx : Value) (hx : a.eval x = vx) (hl : Sl w vx l)
    (hb1 : n ≤ 100000000) (hb2 : l.length ≤ 100000000) (hbase : base ≤ w.heap.size) : opTo Tryd.prog o a w fun v' w' => Grew w w' v v' ∧ w'.ownsRow base 5 1 v' (n + l.length) ((xs ++ l).map B8) := by
  obtain ⟨i0, hi, hz0, hz1, hz2⟩ := info_parts infoU8
  obtain ⟨ao, cap, rfl, h1, h2, h3, h4⟩ := id hl
  cases ao with
  | none =>
    have hc := h3 rfl
    have hl0 : l = [] := List.eq_nil_of_length_eq_zero (by omega)
    subst hl0 hc
    have hr := run_append_owned_none (P := Tryd.prog) (w := w) base 31 o.type 5 i0 1 Tryd.underlying31 hi v n (xs.map B8) hown
    refine .inl ⟨v, w, ?_, Grew.refl _ _, by simpa using hown⟩
    unfold execOp
    simp only [ho, resolve, invoke, builtin, Sem.run_bind, Sem.run_pure, Result.andThen_ok, List.map_toArray, List.map_cons, List.map_nil, hs, hx, List.length_nil, hr]
  | some ad =>
    obtain ⟨v', w', hr, h2', h3', h4'⟩ := run_append_at (P := Tryd.prog) w base 31 o.type 5 i0 (.int .u8 0) 1 1 Tryd.underlying31 hi hz0 hz1 hz2 rfl (by decide) v n (xs.map B8) hown ad l.length cap (l.map B8) (by simp) hl.news (B8_one l) (by unfold maxLen; omega) (by omega) hbase
    refine .inl ⟨v', w', ?_, (Grew.refl w v).app0 h3' h4', by rw [List.map_append]; exact h2'⟩
    unfold execOp
    simp only [ho, resolve, invoke, builtin, Sem.run_bind, Sem.run_pure, Result.andThen_ok, List.map_toArray, List.map_cons, List.map_nil, hs, hx, hr]
end
end Go.Proofs.YtpgnlhfokffioaaDoor
namespace Go.Proofs.YtpgnlhfokffioaaDoor
section
open Go.RowKit
structure DK (α : Type) where
  n : Nat
  row : α → Value → List Value
  dat : α → List UInt8
  pos : 0 < n
  len : ∀ a v, (row a v).length = n
  one : ∀ a v, v.oneCell' = true → ∀ u ∈ row a v, u.oneCell' = true
def DK.At {α : Type} (K : DK α) (w : World) (b off : Nat) (a : α) : Prop := ∃ v, Sl w v (K.dat a) ∧ ∀ j u, (K.row a v)[j]? = some u → w.cell? ⟨b, off + j, none⟩ = some u
theorem DK.At.below {α : Type} {K : DK α} {w w' : World} {b off : Nat} {a : α} (h : K.At w b off a) (hb : Below w.heap.size w w') (hlt : b < w.heap.size) : K.At w' b off a := by
  obtain ⟨v, hs, hc⟩ := h
  exact ⟨v, hs.below hb, fun j u hj => (hb.cell (p := ⟨b, off + j, none⟩) hlt).trans (hc j u hj)⟩
def DK.Sl {α : Type} (K : DK α) (w : World) (v : Value) (L : List α) : Prop := SlOf w K.n K.At v L
theorem DK.Sl.below {α : Type} {K : DK α} {w w' : World} {v : Value} {L : List α} (h : K.Sl w v L) (hb : Below w.heap.size w w') : K.Sl w' v L := by
  obtain ⟨ao, cap, rfl, h1, h2, h3, h4⟩ := h
  refine ⟨ao, cap, rfl, h1, h2, h3, fun hne => ?_⟩
  obtain ⟨b, off, rfl, hlt, hq⟩ := h4 hne
  exact ⟨b, off, rfl, Nat.lt_of_lt_of_le hlt hb.size, fun i q hi => (hq i q hi).below hb hlt⟩
theorem DK.Sl.nil {α : Type} (K : DK α) (w : World) : K.Sl w (.slice none 0 0) [] := ⟨none, 0, rfl, Nat.le_refl _, Nat.zero_le _, fun _ => rfl, fun h => (h rfl).elim⟩
theorem blk_lt {w : World} {base e size n k : Nat} {v : Value} {xs : List Value} (h : w.ownsRow base e size v n xs) (hk : v.ownBlock = some k) : base ≤ k ∧ k < w.heap.size := by
  rcases h.2 with ⟨rfl, -⟩ | ⟨g, cap, cur, rfl, hb, hh, -⟩
  · simp [Value.ownBlock] at hk
  · simp [Value.ownBlock] at hk; subst hk
    refine ⟨hb, ?_⟩
    rcases Nat.lt_or_ge g w.heap.size with h | h
    · exact h
    · rw [Array.getElem?_eq_none h] at hh; simp at hh
theorem own_stay {w w' : World} {base e size n : Nat} {v : Value} {xs : List Value} {r : Option Nat} (h : w.ownsRow base e size v n xs) (hg : w.grownBy w' r) (hn : ∀ k, v.ownBlock = some k → some k ≠ r) : w'.ownsRow base e size v n xs := by
  refine ⟨h.1, ?_⟩
  rcases h.2 with h1 | ⟨g, cap, cur, rfl, hb, hh, h2⟩
  · exact .inl h1
  · have hlt : g < w.heap.size := by
      rcases Nat.lt_or_ge g w.heap.size with h | h
      · exact h
      · rw [Array.getElem?_eq_none h] at hh; simp at hh
    exact .inr ⟨g, cap, cur, rfl, hb, by rw [hg.block g hlt (hn g rfl)]; exact hh, h2⟩
structure DOwn {α : Type} (K : DK α) (t : TypeId) (w : World) (base : Nat) (v : Value) (L : List (α × Value)) : Prop where
  row : w.ownsRow base t K.n v L.length (L.map (fun q => K.row q.1 q.2)).flatten
  dat : ∀ q ∈ L, w.ownsRow base 5 1 q.2 (K.dat q.1).length ((K.dat q.1).map B8)
  ne : ∀ q ∈ L, ∀ k, q.2.ownBlock = some k → v.ownBlock ≠ some k
  two : L.Pairwise fun p q => ∀ k, p.2.ownBlock = some k → q.2.ownBlock ≠ some k
section
variable {α : Type} {K : DK α} {t : TypeId} {w w' : World} {base : Nat} {v : Value} {L : List (α × Value)}
theorem DOwn.below (h : DOwn K t w base v L) (hb : Below w.heap.size w w') : DOwn K t w' base v L := ⟨below_own h.row hb, fun q hq => below_own (h.dat q hq) hb, h.ne, h.two⟩
theorem DOwn.nil (K : DK α) (t : TypeId) (w : World) (base : Nat) : DOwn K t w base (.slice none 0 0) [] := ⟨World.ownsRow_nil _ _ _ _, fun q h => by simp at h, fun q h => by simp at h, .nil⟩
theorem DOwn.mono {base' : Nat} (h : DOwn K t w base v L) (hb : base' ≤ base) : DOwn K t w base' v L := ⟨own_mono h.row hb, fun q hq => own_mono (h.dat q hq) hb, h.ne, h.two⟩
theorem DOwn.slice (h : DOwn K t w base v L) : ∃ ao cap, v = .slice ao L.length cap := own_slice h.row
theorem rows_len (K : DK α) (L : List (α × Value)) : ∀ r ∈ L.map (fun q => K.row q.1 q.2), r.length = K.n := by intro r hr; obtain ⟨y, -, rfl⟩ := List.mem_map.1 hr; exact K.len _ _
theorem DOwn.of (h : DOwn K t w base v L) : K.Sl w v (L.map Prod.fst) := by
  obtain ⟨ao, cap, hv, h1, h2, h3, h4⟩ := (SlR.of_own K.pos (rows_len K L) h.row).1
  rw [List.length_map] at hv h1
  refine ⟨ao, cap, by rw [List.length_map]; exact hv, by rw [List.length_map]; exact h1, h2, h3, fun hne => ?_⟩
  obtain ⟨b, off, rfl, hlt, hB⟩ := h4 (by simpa using hne)
  refine ⟨b, off, rfl, hlt, fun i a hi => ?_⟩
  rw [List.getElem?_map] at hi
  obtain ⟨q, hq, rfl⟩ := Option.map_eq_some_iff.1 hi
  exact ⟨q.2, (Sl.of_own (h.dat q (List.mem_of_getElem? hq))).1, fun j u hj => hB i _ (by rw [List.getElem?_map, hq]; rfl) j u hj⟩
end
theorem grown_set1 (w : World) (g j : Nat) (u : Value) : w.grownBy (w.setCell ⟨g, j, none⟩ u) (some g) :=
  ⟨rfl, rfl, rfl, by simp [World.setCell], fun k _ hn => Below.heap_setCell _ _ _ _ (fun e => hn (congrArg some e))⟩
structure Tch (T : Nat → Prop) (w w' : World) : Prop where
  os : w'.os = w.os
  tape : w'.tape = w.tape
  output : w'.output = w.output
  size : w.heap.size ≤ w'.heap.size
  block : ∀ k, k < w.heap.size → ¬ T k → w'.heap[k]? = w.heap[k]?
section
variable {T : Nat → Prop} {w w1 w' : World}
theorem Tch.refl (T : Nat → Prop) (w : World) : Tch T w w := ⟨rfl, rfl, rfl, Nat.le_refl _, fun _ _ _ => rfl⟩
theorem Tch.trans (h1 : Tch T w w1) (h2 : Tch T w1 w') : Tch T w w' := ⟨h2.os.trans h1.os, h2.tape.trans h1.tape, h2.output.trans h1.output, Nat.le_trans h1.size h2.size, fun k hk hn => (h2.block k (Nat.lt_of_lt_of_le hk h1.size) hn).trans (h1.block k hk hn)⟩
theorem Tch.of_grown {r : Option Nat} (h : w.grownBy w' r) (hr : ∀ k, r = some k → T k) : Tch T w w' := ⟨h.os, h.tape, h.output, h.size, fun k hk hn => h.block k hk fun e => hn (hr k e.symm)⟩
theorem Tch.below {B : Nat} (h : Tch T w w') (hB : B ≤ w.heap.size) (ht : ∀ k, T k → B ≤ k) : Below B w w' := ⟨h.os, h.tape, h.output, h.size, fun k hk => h.block k (by omega) fun hh => by have := ht k hh; omega⟩
theorem Tch.own {base e size n : Nat} {v : Value} {xs : List Value} (h : Tch T w w') (ho : w.ownsRow base e size v n xs) (hn : ∀ k, v.ownBlock = some k → ¬ T k) : w'.ownsRow base e size v n xs := by
  refine ⟨ho.1, ?_⟩
  rcases ho.2 with h1 | ⟨g, cap, cur, rfl, hb, hh, h2⟩
  · exact .inl h1
  · have hlt : g < w.heap.size := by
      rcases Nat.lt_or_ge g w.heap.size with h | h
      · exact h
      · rw [Array.getElem?_eq_none h] at hh; simp at hh
    exact .inr ⟨g, cap, cur, rfl, hb, by rw [h.block g hlt (hn g rfl)]; exact hh, h2⟩
theorem Tch.set {g j : Nat} {u : Value} (h : Tch T w w') (hg : T g) : Tch T w (w'.setCell ⟨g, j, none⟩ u) :=
  h.trans (Tch.of_grown (grown_set1 w' g j u) fun k hk => by injection hk with hk; rw [← hk]; exact hg)
def DBlk {α : Type} (v : Value) (L : List (α × Value)) (k : Nat) : Prop := v.ownBlock = some k ∨ ∃ q ∈ L, q.2.ownBlock = some k
end
end
end Go.Proofs.YtpgnlhfokffioaaDoor
namespace Go.Proofs.YtpgnlhfokffioaaDoor
section
structure EP where
  s : Int
  d : List UInt8
end
end Go.Proofs.YtpgnlhfokffioaaDoor
namespace Go.Proofs.YtpgnlhfokffioaaDoor
section
open Go.RowKit
structure Grown (W : World) where
  w : World
  low : Below W.heap.size W w
instance (W : World) : Nonempty (Grown W) := ⟨⟨W, Below.refl _ _⟩⟩
theorem Grown.cell {W : World} {p : Addr} {v : Value} (h : W.cell? p = some v) (hp : p.block < W.heap.size) : ∀ g : Grown W, g.w.cell? p = some v := fun g => (g.low.cell hp).trans h
end
end Go.Proofs.YtpgnlhfokffioaaDoor
namespace Go.Proofs.YtpgnlhfokffioaaDoor
section
open Go.RowKit
def KPart : DK EP := ⟨2, fun x v => [.int .i64 x.s, v], fun x => x.d, by decide, fun _ _ => rfl, fun x v h u hu => by
  simp only [List.mem_cons, List.not_mem_nil, or_false] at hu
  rcases hu with rfl | rfl <;> first | rfl | exact h⟩
end
end Go.Proofs.YtpgnlhfokffioaaDoor
namespace Go.Proofs.YtpgnlhfokffioaaDoor
section
open Go.RowKit
def Apart (vt vp : Value) (PL : List (EP × Value)) : Prop := ∀ k, vt.ownBlock = some k → ¬ DBlk vp PL k
theorem Apart.nil (vt : Value) : Apart vt (.slice none 0 0) [] := fun k _ h => by
  rcases h with h | ⟨q, hq, -⟩
  · simp [Value.ownBlock] at h
  · simp at hq
end
end Go.Proofs.YtpgnlhfokffioaaDoor
namespace Go.Proofs.YtpgnlhfokffioaaDoor
section
open Go.RowKit
theorem add_off (g o k : Nat) : (⟨g, o, none⟩ : Addr).add k = ⟨g, o + k, none⟩ := by unfold Addr.add; split <;> simp_all
theorem SlR.news {w : World} {ad : Addr} {cap n : Nat} {L : List (List Value)} (hn : 0 < n) (hL : ∀ r ∈ L, r.length = n) (h : SlR w n (.slice (some ad) L.length cap) L) : ∀ j u, L.flatten[j]? = some u → w.cell? (ad.add j) = some u := by
  obtain ⟨ao, c, hv, h1, h2, h3, h4⟩ := h
  simp only [Value.slice.injEq] at hv
  obtain ⟨rfl, -, rfl⟩ := hv
  intro j u hj
  have hne : L ≠ [] := by rintro rfl; simp at hj
  obtain ⟨b, off, hae, hb, hB⟩ := h4 hne
  injection hae with hae
  subst hae
  have hjl : j < L.length * n := by
    have := (List.getElem?_eq_some_iff.1 hj).1
    rwa [flatten_len L hL] at this
  have hdm := Nat.div_add_mod j n
  have hmod := Nat.mod_lt j hn
  have hdl : j / n < L.length := (Nat.div_lt_iff_lt_mul hn).2 hjl
  have hq := List.getElem?_eq_getElem hdl
  have hfg := flatten_get L hL (j / n) _ hq (j % n) hmod
  rw [show j / n * n + j % n = j by rw [Nat.mul_comm]; exact hdm, hj] at hfg
  have := hB (j / n) _ hq (j % n) u hfg.symm
  rw [add_off]
  rw [show off + j / n * n + j % n = off + j by rw [Nat.add_assoc, show j / n * n + j % n = j by rw [Nat.mul_comm]; exact hdm]] at this
  exact this
variable {α : Type}
structure Half (t : TypeId) (w0 : World) (B : Nat) (w : World) (v : Value) (PL : List (EP × Value)) (k : Nat) : Prop where
  low : Below w0.heap.size w0 w
  bot : w0.heap.size ≤ B
  top : B ≤ w.heap.size
  row : w.ownsRow B t 2 v PL.length (PL.map (fun q => KPart.row q.1 q.2)).flatten
  dat : ∀ q ∈ PL.take k, w.ownsRow B 5 1 q.2 q.1.d.length (q.1.d.map B8)
  ne : ∀ q ∈ PL.take k, ∀ j, q.2.ownBlock = some j → v.ownBlock ≠ some j
  two : (PL.take k).Pairwise fun p q => ∀ j, p.2.ownBlock = some j → q.2.ownBlock ≠ some j
  rest : ∀ q ∈ PL.drop k, Sl w0 q.2 q.1.d
theorem Half.done {t : TypeId} {B : Nat} {w0 w : World} {v : Value} {PL : List (EP × Value)} (h : Half t w0 B w v PL PL.length) : DOwn KPart t w B v PL := by
  obtain ⟨-, -, -, h1, h2, h3, h4, -⟩ := h
  rw [List.take_length] at h2 h3 h4
  exact ⟨h1, h2, h3, h4⟩
end
end Go.Proofs.YtpgnlhfokffioaaDoor
namespace Go.Proofs.YtpgnlhfokffioaaDoor
section
open Go.RowKit
theorem rowAt_keep {w w' : World} {q : Nat} {vs : List Value} {r : Option Nat} (h : RowAt w q vs) (hg : w.grownBy w' r) (hn : some q ≠ r) : RowAt w' q vs := by
  have hb := hg.block q h.2.2 hn
  exact ⟨fun j v hj => (World.cell?_of_block (w := w) (w' := w') (a := ⟨q, j, none⟩) hb).trans (h.1 j v hj), fun j => (World.frozen?_of_block (w := w) (w' := w') (a := ⟨q, j, none⟩) hb).trans (h.2.1 j), Nat.lt_of_lt_of_le h.2.2 hg.size⟩
end
end Go.Proofs.YtpgnlhfokffioaaDoor
namespace Go.Proofs.YtpgnlhfokffioaaDoor
section
open Go.RowKit
theorem DOwn.stay {α : Type} {K : DK α} {t base : Nat} {w w' : World} {v : Value} {L : List (α × Value)} {r : Option Nat} (h : DOwn K t w base v L) (hg : w.grownBy w' r) (hn : ∀ k, DBlk v L k → some k ≠ r) : DOwn K t w' base v L :=
  ⟨own_stay h.row hg (fun k hk => hn k (.inl hk)), fun q hq => own_stay (h.dat q hq) hg (fun k hk => hn k (.inr ⟨q, hq, hk⟩)), h.ne, h.two⟩
end
end Go.Proofs.YtpgnlhfokffioaaDoor
namespace Go
section
open Go.RowKit
abbrev Kn := List (Nat × Value)
def Look : Kn → Nat → Option Value
  | [], _ => none
  | (k, v) :: L, j => bif Nat.beq k j then some v else Look L j
def evL (L : Kn) : Operand → Option Value
  | .tmp j => Look L j
  | .const v => some v
  | _ => none
structure Has (n : Nat) (a : Act) (L : Kn) : Prop where
  sz : a.tmps.size = n
  df : a.defers = []
  at_ : ∀ j v, Look L j = some v → a.tmps[j]? = some v
theorem Has.g {n : Nat} {a : Act} {L : Kn} (h : Has n a L) (j : Nat) {v : Value} (e : Look L j = some v) : a.tmps[j]? = some v := h.at_ j v e
theorem Has.ev {n : Nat} {a : Act} {L : Kn} (h : Has n a L) {x : Operand} {v : Value} (e : evL L x = some v) : a.eval x = v := by
  cases x with
  | tmp j => exact eval_of (h.at_ j v e)
  | const u => simp only [evL, Option.some.injEq] at e; subst e; rfl
  | global _ => simp [evL] at e
  | func _ => simp [evL] at e
theorem Has.put {n : Nat} {a : Act} {L : Kn} (h : Has n a L) {d : Nat} {v : Value} (hd : Nat.blt d n = true) : Has n (a.put (some d) v) ((d, v) :: L) := by
  have hd' : d < n := by simpa [Nat.blt_eq] using hd
  refine ⟨(put_size _ _ _).trans h.sz, (put_defers _ _ _).trans h.df, fun j u hj => ?_⟩
  unfold Look at hj
  by_cases e : d = j
  · subst e
    simp only [Nat.beq_refl, cond_true, Option.some.injEq] at hj
    subst hj
    exact put_get _ _ _ (by rw [h.sz]; exact hd')
  · have e2 : Nat.beq d j = false := by
      cases hb : Nat.beq d j with
      | false => rfl
      | true => exact absurd (Nat.eq_of_beq_eq_true hb) e
    rw [e2, cond_false] at hj
    exact (put_far _ _ _ _ e).trans (h.at_ j u hj)
structure Fr (n : Nat) (L : Kn) (X : Act → World → Prop) (W : World) : Prop where
  out : ∀ a, Has n a L → X a W
structure TE where
  id : Nat
  row : Bool
  size : Nat
  offs : List Nat
  kind : Nat
def TE.okB (P : Program) (e : TE) : Bool :=
  match P.info? e.id, P.underlying e.id with
  | some i, some d => Nat.beq i.size e.size && (match d with
      | .struct fs => e.row && (Nat.beq e.kind 0 && (fs.toList.map (·.offset) == e.offs && fs.toList.all (fun f => match P.info? f.type with | some j => !(Nat.beq j.size 0) | none => false)))
      | .array _ _ => e.row && (Nat.beq e.kind 0 && e.offs.isEmpty)
      | .slice _ => !e.row && (Nat.beq e.kind 1 && e.offs.isEmpty)
      | .string => !e.row && (Nat.beq e.kind 2 && e.offs.isEmpty)
      | _ => !e.row && (Nat.beq e.kind 0 && e.offs.isEmpty))
  | _, _ => false
def teOf : List TE → Nat → Option TE
  | [], _ => none
  | e :: T, t => bif Nat.beq e.id t then some e else teOf T t
theorem teOf_ok {P : Program} : ∀ {T : List TE}, T.all (TE.okB P) = true → ∀ {t : Nat} {e : TE}, teOf T t = some e → e.okB P = true ∧ e.id = t
  | [], _, _, _, h => by simp [teOf] at h
  | e :: T, hT, t, e', h => by
    rw [List.all_cons, Bool.and_eq_true] at hT
    unfold teOf at h
    cases hb : Nat.beq e.id t with
    | true => rw [hb, cond_true, Option.some.injEq] at h; subst h; exact ⟨hT.1, Nat.eq_of_beq_eq_true hb⟩
    | false => rw [hb, cond_false] at h; exact teOf_ok hT.2 h
class TOk (P : Program) (T : outParam (List TE)) : Prop where
  ok : T.all (TE.okB P) = true
def offT (T : List TE) (s k : Nat) : Option Nat := match teOf T s with | some e => e.offs[k]? | none => none
def kindT (T : List TE) (s : Nat) : Nat := match teOf T s with | some e => e.kind | none => 0
def cmpL : BinOp → Int → Int → Option Value
  | .eql, s, t => some (.bool (s == t))
  | .neq, s, t => some (.bool (!(s == t)))
  | .lss, s, t => some (.bool (decide (s < t)))
  | .leq, s, t => some (.bool (decide (s ≤ t)))
  | .gtr, s, t => some (.bool (decide (t < s)))
  | .geq, s, t => some (.bool (decide (t ≤ s)))
  | _, _, _ => none
def pv (T : List TE) (L : Kn) : Op → Option Value
  | .move x => evL L x
  | .assign x => evL L x
  | .nilCheck x => match evL L x with | some (.pointer (some a)) => some (.pointer (some a)) | _ => none
  | .fieldAddr s x k => match evL L x with
    | some (.pointer (some ⟨b, i, none⟩)) => match offT T s k with | some o => some (.pointer (some ⟨b, i + o, none⟩)) | none => none
    | _ => none
  | .extract x i => match evL L x with | some (.tuple vs) => vs[i]? | _ => none
  | .pick c x y => match evL L c with | some (.bool true) => evL L x | some (.bool false) => evL L y | _ => none
  | .unOp .not _ x => match evL L x with | some (.bool b) => some (.bool (!b)) | _ => none
  | .binOp op _ x y _ => match evL L x with
    | some (.int .i64 s) => match evL L y with | some (.int .i64 t) => cmpL op s t | _ => none
    | _ => none
  | .call { callee := .builtin .len, args := ⟨[x]⟩, argTypes := ⟨[t]⟩, .. } => match kindT T t, evL L x with
    | 1, some (.slice _ n _) => some (.int .i64 (n : Int))
    | 2, some (.string s) => some (.int .i64 (s.size : Int))
    | _, _ => none
  | _ => none
section
variable {P : Program} {W : World}
theorem fieldAt_T {T : List TE} (hT : T.all (TE.okB P) = true) {s k o b i : Nat} (h : offT T s k = some o) : (Instr.fieldAt s (.pointer (some ⟨b, i, none⟩)) k).run P W = .ok (.pointer (some ⟨b, i + o, none⟩)) W := by
  unfold offT at h
  cases he : teOf T s with
  | none => rw [he] at h; cases h
  | some e =>
    rw [he] at h
    dsimp only at h
    obtain ⟨h1, h2⟩ := teOf_ok hT he
    subst h2
    unfold TE.okB at h1
    cases hi : P.info? e.id with
    | none => rw [hi] at h1; cases h1
    | some ie =>
      cases hu : P.underlying e.id with
      | none => rw [hi, hu] at h1; cases h1
      | some d =>
        rw [hi, hu] at h1
        simp only [Bool.and_eq_true] at h1
        obtain ⟨-, h1⟩ := h1
        cases d with
        | struct fs =>
          simp only [Bool.and_eq_true, beq_iff_eq] at h1
          obtain ⟨-, -, h3, h4⟩ := h1
          rw [← h3, List.getElem?_map] at h
          cases hf : fs.toList[k]? with
          | none => rw [hf] at h; cases h
          | some f =>
            rw [hf] at h
            simp only [Option.map_some, Option.some.injEq] at h
            have h5 := List.all_eq_true.1 h4 f (List.mem_of_getElem? hf)
            have hf' : fs[k]? = some f := by simpa using hf
            cases hj : P.info? f.type with
            | none => rw [hj] at h5; cases h5
            | some j =>
              rw [hj] at h5
              dsimp only at h5
              have hz : ¬ j.size = 0 := fun e0 => by rw [e0] at h5; exact absurd h5 (by decide)
              subst h
              by_cases h0 : f.offset = 0 <;> simp [go_sem, Instr.fieldAt, underlying, hu, hf', Instr.sureAddr, fieldPlace, sizeOf, typeInfo, hj, hz, Addr.add, h0]
        | array _ _ => simp only [Bool.and_eq_true, List.isEmpty_iff] at h1; rw [h1.2.2] at h; simp at h
        | slice _ => simp only [Bool.and_eq_true, List.isEmpty_iff] at h1; rw [h1.2.2] at h; simp at h
        | _ => simp only [Bool.and_eq_true, List.isEmpty_iff] at h1; rw [h1.2.2] at h; simp at h
theorem kindT_1 {T : List TE} (hT : T.all (TE.okB P) = true) {s : Nat} (h : kindT T s = 1) : ∃ e, P.underlying s = some (.slice e) := by
  unfold kindT at h
  cases he : teOf T s with
  | none => rw [he] at h; cases h
  | some e =>
    rw [he] at h
    dsimp only at h
    obtain ⟨h1, h2⟩ := teOf_ok hT he
    subst h2
    unfold TE.okB at h1
    cases hi : P.info? e.id with
    | none => rw [hi] at h1; cases h1
    | some ie =>
      cases hu : P.underlying e.id with
      | none => rw [hi, hu] at h1; cases h1
      | some d =>
        rw [hi, hu] at h1
        cases d <;> first | exact ⟨_, rfl⟩ | (simp only [Bool.and_eq_true, h] at h1; exact absurd h1.2.2.1 (by decide))
theorem kindT_2 {T : List TE} (hT : T.all (TE.okB P) = true) {s : Nat} (h : kindT T s = 2) : P.underlying s = some .string := by
  unfold kindT at h
  cases he : teOf T s with
  | none => rw [he] at h; cases h
  | some e =>
    rw [he] at h
    dsimp only at h
    obtain ⟨h1, h2⟩ := teOf_ok hT he
    subst h2
    unfold TE.okB at h1
    cases hi : P.info? e.id with
    | none => rw [hi] at h1; cases h1
    | some ie =>
      cases hu : P.underlying e.id with
      | none => rw [hi, hu] at h1; cases h1
      | some d =>
        rw [hi, hu] at h1
        cases d <;> first | rfl | (simp only [Bool.and_eq_true, h] at h1; exact absurd h1.2.2.1 (by decide))
theorem cmpL_run {op : BinOp} {s t : Int} {v : Value} {ty : TypeId} {x y : Operand} (h : cmpL op s t = some v) : (eqGuard op ty x y (.int .i64 s) (.int .i64 t)).run P W = .ok () W ∧ (binOp op ty (.int .i64 s) (.int .i64 t)).run P W = .ok v W := by
  cases op <;> simp only [cmpL, Option.some.injEq, reduceCtorEq] at h <;> subst h <;> refine ⟨rfl, ?_⟩ <;> simp [go_sem, bne]
theorem pv_sound {T : List TE} (hT : T.all (TE.okB P) = true) {n : Nat} {a : Act} {L : Kn} (h : Has n a L) {o : Oper} {v : Value} (hv : pv T L o.op = some v) (W : World) : (execOp a.eval o).run P W = .ok (.value v) W := by
  obtain ⟨dst, op, ty, pos, af, g⟩ := o
  dsimp only at hv
  unfold pv at hv
  split at hv
  · exact run_moveOp (h.ev hv)
  · exact run_assignOp (h.ev hv)
  · split at hv
    · rename_i e; cases hv; exact run_nilOp (h.ev e)
    · cases hv
  · split at hv
    · rename_i e
      split at hv
      · rename_i e2; cases hv; exact run_fieldAddr (h.ev e) (fieldAt_T hT e2)
      · cases hv
    · cases hv
  · split at hv
    · rename_i e; exact run_extractOp (h.ev e) hv
    · cases hv
  · split at hv
    · rename_i e; exact run_pickT (h.ev e) (h.ev hv)
    · rename_i e; exact run_pickF (h.ev e) (h.ev hv)
    · cases hv
  · split at hv
    · rename_i e; cases hv; exact run_notOp (h.ev e)
    · cases hv
  · split at hv
    · rename_i e
      split at hv
      · rename_i e2
        obtain ⟨h1, h2⟩ := cmpL_run (P := P) (W := W) hv
        exact run_binOp (h.ev e) (h.ev e2) h1 h2
      · cases hv
    · cases hv
  · split at hv
    · rename_i e1 e2; cases hv
      obtain ⟨e, he⟩ := kindT_1 hT e1
      exact run_lenOp he (h.ev e2)
    · rename_i e1 e2; cases hv
      exact run_lenStr (kindT_2 hT e1) (h.ev e2)
    · cases hv
  · cases hv
end
def wantL (ops : Array Oper) (L : Kn) (o : Oper) : Option Bool :=
  match o.guard with
  | none => some true
  | some (f, pol) => match (ops[f]?).bind (·.dst) with
    | some fs => match Look L fs with
      | some (.bool b) => some (bif b then pol else !pol)
      | some (.tuple ⟨[]⟩) => some false
      | _ => none
    | none => none
theorem wantL_sound {ops : Array Oper} {n : Nat} {a : Act} {L : Kn} {o : Oper} {b : Bool} (h : Has n a L) (hw : wantL ops L o = some b) : Region.wanted o (yielded ops a.tmps) = b := by
  unfold wantL at hw
  split at hw
  · rename_i hg; cases hw; exact wanted_none hg
  · rename_i f pol hg
    split at hw
    · rename_i fs hfs
      split at hw
      · rename_i c hl
        simp only [Option.some.injEq] at hw
        have hf := h.g fs hl
        simp only [Region.wanted, hg, yields hfs hf]
        subst hw
        cases c <;> cases pol <;> rfl
      · rename_i hl; cases hw; exact wanted_gone hg hfs (h.g fs hl)
      · cases hw
    · cases hw
def stepP (T : List TE) (ops : Array Oper) (n : Nat) (L : Kn) (o : Oper) : Option Kn :=
  match o.dst with
  | none => none
  | some d => bif Nat.blt d n then (match wantL ops L o with
    | some true => (match pv T L o.op with | some v => some ((d, v) :: L) | none => none)
    | some false => some ((d, undef) :: L)
    | none => none) else none
theorem stepP_sound {P : Program} {T : List TE} (hT : T.all (TE.okB P) = true) {ops : Array Oper} {n : Nat} {L L' : Kn} {o : Oper} (hs : stepP T ops n L o = some L') : ∃ d v, o.dst = some d ∧ Nat.blt d n = true ∧ L' = (d, v) :: L ∧
    ((wantL ops L o = some true ∧ ∀ a, Has n a L → ∀ W, (execOp a.eval o).run P W = .ok (.value v) W) ∨ (wantL ops L o = some false ∧ v = undef)) := by
  unfold stepP at hs
  split at hs
  · cases hs
  · rename_i d hd
    cases hb : Nat.blt d n with
    | false => rw [hb] at hs; cases hs
    | true =>
      rw [hb, cond_true] at hs
      split at hs
      · rename_i hw
        split at hs
        · rename_i v hv; cases hs; exact ⟨d, v, hd, hb, rfl, .inl ⟨hw, fun a ha W => pv_sound hT ha hv W⟩⟩
        · cases hs
      · rename_i hw; cases hs; exact ⟨d, undef, hd, hb, rfl, .inr ⟨hw, rfl⟩⟩
      · cases hs
def loadC (T : List TE) (ops : Array Oper) (n : Nat) (L : Kn) (o : Oper) : Option (Nat × Nat × Nat × Option Nat) :=
  match o.dst, o.op with
  | some d, .load t x => bif Nat.blt d n then (match wantL ops L o with
    | some true => (match evL L x, teOf T t with
      | some (.pointer (some ⟨q, j, none⟩)), some e => some (d, q, j, bif e.row then some e.size else none)
      | _, _ => none)
    | _ => none) else none
  | _, _ => none
def ldv : Option Nat → List Value → Nat → Option Value
  | none, vs, j => vs[j]?
  | some m, vs, j => bif Nat.ble (j + m) vs.length then some (.agg ((vs.drop j).take m).toArray) else none
def evLs (L : Kn) : List Operand → Option (List Value)
  | [] => some []
  | x :: xs => match evL L x, evLs L xs with | some v, some vs => some (v :: vs) | _, _ => none
theorem evLs_sound {n : Nat} {a : Act} {L : Kn} (h : Has n a L) : ∀ {xs : List Operand} {vs : List Value}, evLs L xs = some vs → xs.map a.eval = vs
  | [], vs, e => by simp [evLs] at e; subst e; rfl
  | x :: xs, vs, e => by
    unfold evLs at e
    split at e
    · rename_i v vs' e1 e2; cases e; rw [List.map_cons, h.ev e1, evLs_sound h e2]
    · cases e
def callC (ops : Array Oper) (n : Nat) (L : Kn) (o : Oper) : Option (Nat × FuncId × List Value) :=
  match o.dst, o.op with
  | some d, .call { callee := .value (.func f), args := ⟨xs⟩, .. } => bif Nat.blt d n then (match wantL ops L o with
    | some true => (match evLs L xs with | some vs => some (d, f, vs) | none => none)
    | _ => none) else none
  | _, _ => none
def setL : List Value → Nat → List Value → List Value
  | vs, _, [] => vs
  | vs, j, c :: cs => setL (vs.set j c) (j + 1) cs
def setR (vs : List Value) (j : Nat) (cs : List Value) : List Value := bif Nat.beq j 0 && Nat.beq cs.length vs.length then cs else setL vs j cs
def storeC (T : List TE) (ops : Array Oper) (L : Kn) (o : Oper) : Option (Nat × Nat × List Value) :=
  match o.dst, o.op with
  | none, .store t x y => (match wantL ops L o with
    | some true => (match evL L x, evL L y, teOf T t with
      | some (.pointer (some ⟨q, j, none⟩)), some v, some e => bif e.row then (match v with | .agg ⟨cs⟩ => bif Nat.beq cs.length e.size then some (q, j, cs) else none | _ => none) else bif Nat.beq e.size 1 then some (q, j, [v]) else none
      | _, _, _ => none)
    | _ => none)
  | _, _ => none
def stB (vs : List Value) (j : Nat) (cs : List Value) : Bool := Nat.ble (j + cs.length) vs.length && cs.all (·.oneCell')
def boxC (ops : Array Oper) (n : Nat) (L : Kn) (o : Oper) : Option (Nat × TypeId × Value) :=
  match o.dst, o.op with
  | some d, .box t x => bif Nat.blt d n then (match wantL ops L o with
    | some true => (match evL L x with | some v => some (d, t, v) | none => none)
    | _ => none) else none
  | _, _ => none
end
end Go
namespace Go.Proofs.YtpgnlhfokffioaaDoor
section
open Go.RowKit Go.Lib
section
variable {P : Program} {Q : Exit → Act → World → Prop} {M : Act → World → Prop} {W : World} {n : Nat} {L L' : Kn} {ops : Array Oper} {o : Oper} {l : List Oper} {d q j : Nat} {v : Value} {vs cs : List Value}
theorem gr_trans {w w1 w2 : World} {r : Option Nat} (h1 : w.grownBy w1 r) (h2 : w1.grownBy w2 r) : w.grownBy w2 r := ⟨h2.os.trans h1.os, h2.tape.trans h1.tape, h2.output.trans h1.output, Nat.le_trans h1.size h2.size, fun k hk hn => (h2.block k (Nat.lt_of_lt_of_le hk h1.size) hn).trans (h1.block k hk hn)⟩
theorem gr_refl (w : World) (r : Option Nat) : w.grownBy w r := ⟨rfl, rfl, rfl, Nat.le_refl _, fun _ _ _ => rfl⟩
theorem gr_sets (q : Nat) : ∀ (cs : List Value) (j : Nat) (W : World), W.grownBy (W.setCells q j cs) (some q)
  | [], _, W => gr_refl W _
  | c :: cs, j, W => gr_trans (grown_set1 W q j c) (gr_sets q cs (j + 1) _)
theorem setL_len : ∀ (cs vs : List Value) (j : Nat), (setL vs j cs).length = vs.length
  | [], _, _ => rfl
  | c :: cs, vs, j => by unfold setL; rw [setL_len cs, List.length_set]
theorem row_sets {q : Nat} : ∀ (cs vs : List Value) (j : Nat) (W : World), RowAt W q vs → j + cs.length ≤ vs.length → RowAt (W.setCells q j cs) q (setL vs j cs)
  | [], _, _, _, h, _ => h
  | c :: cs, vs, j, W, h, hl => row_sets cs _ _ _ (h.set1 j c (by simp only [List.length_cons] at hl; omega)) (by simp only [List.length_cons] at hl; rw [List.length_set]; omega)
theorem setL_get : ∀ (cs vs : List Value) (j i : Nat), j + cs.length ≤ vs.length → j ≤ i → i < j + cs.length → (setL vs j cs)[i]? = cs[i - j]?
  | [], _, _, _, _, _, h => by simp at h; omega
  | c :: cs, vs, j, i, hl, h1, h2 => by
    simp only [List.length_cons] at hl h2
    unfold setL
    by_cases e : j = i
    · subst e
      have key : ∀ (cs vs : List Value) (k i : Nat), i < k → (setL vs k cs)[i]? = vs[i]? := by
        intro cs
        induction cs with
        | nil => intro vs k i _; rfl
        | cons c cs ih => intro vs k i hk; unfold setL; rw [ih _ _ _ (by omega), List.getElem?_set_ne (by omega)]
      rw [key _ _ _ _ (by omega), List.getElem?_set_self (by omega), Nat.sub_self]; rfl
    · rw [setL_get cs _ (j + 1) i (by rw [List.length_set]; omega) (by omega) (by omega), show i - j = (i - (j + 1)) + 1 by omega]; rfl
theorem setR_eq (vs : List Value) (j : Nat) (cs : List Value) : setR vs j cs = setL vs j cs := by
  unfold setR
  cases hb : (Nat.beq j 0 && Nat.beq cs.length vs.length) with
  | false => rfl
  | true =>
    rw [Bool.and_eq_true] at hb
    have h0 := Nat.eq_of_beq_eq_true hb.1
    have hl := Nat.eq_of_beq_eq_true hb.2
    subst h0
    rw [cond_true]
    apply List.ext_getElem?
    intro i
    by_cases hi : i < cs.length
    · rw [setL_get cs vs 0 i (by omega) (by omega) (by omega), Nat.sub_zero]
    · rw [List.getElem?_eq_none (by omega), List.getElem?_eq_none (by rw [setL_len]; omega)]
theorem RowAt.chg {W' : World} {g : Nat} (h : RowAt W q vs) (s : W.grownBy W' (some g)) (hn : q ≠ g) : RowAt W' q vs := rowAt_keep h s (fun e => hn (by injection e))
theorem below_chg {B g : Nat} {W0 W W' : World} (h : Below B W0 W) (s : W.grownBy W' (some g)) (hg : B ≤ g) (hB : B ≤ W.heap.size) : Below B W0 W' := h.trans ⟨s.os, s.tape, s.output, s.size, fun k hk => s.block k (by omega) (fun e => by injection e; omega)⟩
theorem RowAt.lt {g : Nat} (h : RowAt W q vs) (hg : W.heap.size ≤ g) : q < g := Nat.lt_of_lt_of_le h.2.2 hg
theorem loadC_run {T : List TE} (hT : T.all (TE.okB P) = true) {z : Option Nat} {a : Act} (h : Has n a L) (hl : loadC T ops n L o = some (d, q, j, z)) (r : RowAt W q vs) (hv : ldv z vs j = some v) : (execOp a.eval o).run P W = .ok (.value v) W ∧ o.dst = some d ∧ Nat.blt d n = true ∧ wantL ops L o = some true := by
  obtain ⟨dst, op, ty, pos, af, g⟩ := o
  unfold loadC at hl
  dsimp only at hl
  split at hl
  · rename_i d' t x
    cases hb : Nat.blt d' n with
    | false => rw [hb] at hl; cases hl
    | true =>
      rw [hb, cond_true] at hl
      split at hl
      · rename_i hw
        split at hl
        · rename_i q' j' e he hte
          simp only [Option.some.injEq, Prod.mk.injEq] at hl
          obtain ⟨rfl, rfl, rfl, hz⟩ := hl
          refine ⟨run_loadOp (h.ev he) ?_, rfl, hb, hw⟩
          obtain ⟨h1, h2⟩ := teOf_ok hT hte
          subst h2
          unfold TE.okB at h1
          cases hi : P.info? e.id with
          | none => rw [hi] at h1; cases h1
          | some ie =>
            cases hu : P.underlying e.id with
            | none => rw [hi, hu] at h1; cases h1
            | some dd =>
              rw [hi, hu] at h1
              dsimp only at h1
              rw [Bool.and_eq_true] at h1
              obtain ⟨hsz, h1⟩ := h1
              have hsz' := Nat.eq_of_beq_eq_true hsz
              cases hr : e.row with
              | true =>
                rw [hr, cond_true] at hz
                subst hz
                unfold ldv at hv
                dsimp only at hv
                cases hble : Nat.ble (j' + e.size) vs.length with
                | false => rw [hble] at hv; cases hv
                | true =>
                  rw [hble, cond_true] at hv
                  have hle := Nat.le_of_ble_eq_true hble
                  cases hv
                  refine run_loadN (dsc := dd) ((vs.drop j').take e.size) r (mid_row j' e.size vs _ rfl) hu ?_ (by rw [hi, Option.map_some, hsz', List.length_take, List.length_drop]; congr 1; omega)
                  cases dd <;> first | rfl | (simp [hr] at h1)
              | false =>
                rw [hr, cond_false] at hz
                subst hz
                have hc := r.cell hv
                have hag : ∀ w, (isAgg e.id).run P w = .ok false w := fun w => by
                  cases dd <;> first | (simp [go_sem, isAgg, underlying, hu]; done) | (simp [hr] at h1)
                simp [go_sem, Instr.loadAt, Instr.sureAddr, loadVar, hag, hc]
        · cases hl
      · cases hl
  · cases hl
theorem storeC_run {T : List TE} (hT : T.all (TE.okB P) = true) {a : Act} (h : Has n a L) (hs : storeC T ops L o = some (q, j, cs)) (r : RowAt W q vs) (hb : stB vs j cs = true) : (execOp a.eval o).run P W = .ok .skip (W.setCells q j cs) ∧ o.dst = none ∧ wantL ops L o = some true := by
  obtain ⟨dst, op, ty, pos, af, g⟩ := o
  unfold stB at hb
  rw [Bool.and_eq_true] at hb
  have hle := Nat.le_of_ble_eq_true hb.1
  unfold storeC at hs
  dsimp only at hs
  split at hs
  · rename_i t x y
    split at hs
    · rename_i hw
      split at hs
      · rename_i q' j' v e hx hy hte
        obtain ⟨h1, h2⟩ := teOf_ok hT hte
        subst h2
        unfold TE.okB at h1
        cases hi : P.info? e.id with
        | none => rw [hi] at h1; cases h1
        | some ie =>
          cases hu : P.underlying e.id with
          | none => rw [hi, hu] at h1; cases h1
          | some dd =>
            rw [hi, hu] at h1
            dsimp only at h1
            rw [Bool.and_eq_true] at h1
            have hsz := Nat.eq_of_beq_eq_true h1.1
            cases hr : e.row with
            | true =>
              rw [hr, cond_true] at hs
              split at hs
              · rename_i cs' 
                cases hq : Nat.beq cs'.length e.size with
                | false => rw [hq] at hs; cases hs
                | true =>
                  rw [hq, cond_true] at hs
                  simp only [Option.some.injEq, Prod.mk.injEq] at hs
                  obtain ⟨rfl, rfl, rfl⟩ := hs
                  have hlen := Nat.eq_of_beq_eq_true hq
                  exact ⟨run_storeOp (h.ev hx) (h.ev hy) (run_storeN (xs := cs') r hle (by rw [hi, Option.map_some, hsz, hlen]) hb.2), rfl, hw⟩
              · cases hs
            | false =>
              rw [hr, cond_false] at hs
              cases hq : Nat.beq e.size 1 with
              | false => rw [hq] at hs; cases hs
              | true =>
                rw [hq, cond_true] at hs
                simp only [Option.some.injEq, Prod.mk.injEq] at hs
                obtain ⟨rfl, rfl, rfl⟩ := hs
                have h1c := hb.2
                simp only [List.all_cons, List.all_nil, Bool.and_true] at h1c
                simp only [List.length_singleton] at hle
                exact ⟨run_storeOp (h.ev hx) (h.ev hy) (run_store1 r (by omega) (by rw [hi, Option.map_some, hsz, Nat.eq_of_beq_eq_true hq]) h1c), rfl, hw⟩
      · cases hs
    · cases hs
  · cases hs
theorem callC_run {f : FuncId} {fn : Func} {a : Act} {xs : List Value} (h : Has n a L) (hr : callC ops n L o = some (d, f, xs)) (hf : P.funcs[f]? = some fn) (hn : (fn.name == "runtime.NumGoroutine") = false) (hb : fn.body.isNone = false) :
    (execOp a.eval o).run P W = .ok (.enter f xs.toArray) W ∧ o.dst = some d ∧ Nat.blt d n = true ∧ wantL ops L o = some true := by
  obtain ⟨dst, op, ty, pos, af, g⟩ := o
  unfold callC at hr
  dsimp only at hr
  split at hr
  · rename_i d' f' ys _ 
    cases hbl : Nat.blt d' n with
    | false => rw [hbl] at hr; cases hr
    | true =>
      rw [hbl, cond_true] at hr
      split at hr
      · rename_i hw
        split at hr
        · rename_i us hys
          simp only [Option.some.injEq, Prod.mk.injEq] at hr
          obtain ⟨rfl, rfl, rfl⟩ := hr
          have he := evLs_sound h hys
          exact ⟨run_callOp hf hn hb (by rw [← he]; simp), rfl, hbl, hw⟩
        · cases hr
      · cases hr
  · cases hr
theorem boxC_run {t : TypeId} {a : Act} (h : Has n a L) (hb : boxC ops n L o = some (d, t, v)) : (execOp a.eval o).run P W = .ok (.value (.pointer (some ⟨W.heap.size, 0, none⟩))) (W.alloc (.cells v.cells t)) ∧ o.dst = some d ∧ Nat.blt d n = true ∧ wantL ops L o = some true := by
  obtain ⟨dst, op, ty, pos, af, g⟩ := o
  unfold boxC at hb
  dsimp only at hb
  split at hb
  · rename_i d' t' x
    cases hbl : Nat.blt d' n with
    | false => rw [hbl] at hb; cases hb
    | true =>
      rw [hbl, cond_true] at hb
      split at hb
      · rename_i hw
        split at hb
        · rename_i u hx
          simp only [Option.some.injEq, Prod.mk.injEq] at hb
          obtain ⟨rfl, rfl, rfl⟩ := hb
          exact ⟨run_boxOp (h.ev hx) (by simp [go_sem, Instr.box]), rfl, hbl, hw⟩
        · cases hb
      · cases hb
  · cases hb
/-! a list of operations, one behind the other -/
theorem fw_pu {T : List TE} [hTk : TOk P T] (hs : stepP T ops n L o = some L') (k : Fr n L' (WL P ops Q l) W) : Fr n L (WL P ops Q (o :: l)) W := by
  obtain ⟨d, v, hd, hb, rfl, ⟨hw, hr⟩ | ⟨hw, rfl⟩⟩ := stepP_sound hTk.ok hs
  · exact ⟨fun a h => owl_run (wantL_sound h hw) d v W hd (hr a h W) (k.out _ (h.put hb))⟩
  · exact ⟨fun a h => owl_no (wantL_sound h hw) d hd (k.out _ (h.put hb))⟩
theorem fw_ld {T : List TE} [hTk : TOk P T] {z : Option Nat} (r : RowAt W q vs) (hl : loadC T ops n L o = some (d, q, j, z)) (hv : ldv z vs j = some v) (k : Fr n ((d, v) :: L) (WL P ops Q l) W) : Fr n L (WL P ops Q (o :: l)) W :=
  ⟨fun a h => by
    obtain ⟨h1, h2, h3, h4⟩ := loadC_run hTk.ok h hl r hv
    exact owl_run (wantL_sound h h4) d v W h2 h1 (k.out _ (h.put h3))⟩
theorem fw_st {T : List TE} [hTk : TOk P T] (r : RowAt W q vs) (hs : storeC T ops L o = some (q, j, cs)) (hb : stB vs j cs = true) (k : ∀ W', W.grownBy W' (some q) → RowAt W' q (setR vs j cs) → Fr n L (WL P ops Q l) W') : Fr n L (WL P ops Q (o :: l)) W :=
  ⟨fun a h => by
    obtain ⟨h1, h2, h3⟩ := storeC_run hTk.ok h hs r hb
    have hle : j + cs.length ≤ vs.length := by unfold stB at hb; rw [Bool.and_eq_true] at hb; exact Nat.le_of_ble_eq_true hb.1
    exact owl_skip (wantL_sound h h3) _ h2 h1 ((k _ (gr_sets q cs j W) (by rw [setR_eq]; exact row_sets cs vs j W r hle)).out _ h)⟩
theorem fw_ca {f : FuncId} {fn : Func} {xs : List Value} {R : Ending → World → Prop} (hf : P.funcs[f]? = some fn) (hn : (fn.name == "runtime.NumGoroutine") = false) (hb : fn.body.isNone = false) (hr : callC ops n L o = some (d, f, xs)) (hc : Calls P f xs.toArray W R) (k : ∀ e w', R e w' → ∃ v, e = .returned v ∧ Fr n ((d, v) :: L) (WL P ops Q l) w') : Fr n L (WL P ops Q (o :: l)) W :=
  ⟨fun a h => by
    obtain ⟨h1, h2, h3, h4⟩ := callC_run (W := W) h hr hf hn hb
    exact owl_call (wantL_sound h h4) d (fun v w' => Fr n ((d, v) :: L) (WL P ops Q l) w') h2 f _ h1 (hc.mono fun e w' he => k e w' he) (fun v w' hv => hv.out _ (h.put h3))⟩
theorem fw_al {t : TypeId} {u : Nat → Value} (d : Nat) (cs : List Value) (hw : wantL ops L o = some true) (hd : o.dst = some d) (hb : Nat.blt d n = true) (hr : ∀ a, Has n a L → (execOp a.eval o).run P W = .ok (.value (u W.heap.size)) (W.alloc (.cells cs.toArray t))) (k : ∀ q W', W.heap.size ≤ q → Below W.heap.size W W' → RowAt W' q cs → Fr n ((d, u q) :: L) (WL P ops Q l) W') : Fr n L (WL P ops Q (o :: l)) W :=
  ⟨fun a h => owl_run (wantL_sound h hw) d _ _ hd (hr a h) ((k _ _ (Nat.le_refl _) ((Below.refl _ W).alloc (Nat.le_refl _) _) (rowAt_alloc W cs t)).out _ (h.put hb))⟩
theorem fw_bx {t : TypeId} (hr : boxC ops n L o = some (d, t, v)) (hv : v.cells.toList = cs) (k : ∀ q W', W.heap.size ≤ q → Below W.heap.size W W' → RowAt W' q cs → Fr n ((d, .pointer (some ⟨q, 0, none⟩)) :: L) (WL P ops Q l) W') : Fr n L (WL P ops Q (o :: l)) W :=
  ⟨fun a h => by
    obtain ⟨h1, h2, h3, h4⟩ := boxC_run (P := P) (W := W) h hr
    subst hv
    exact owl_run (wantL_sound h h4) d _ _ h2 h1 ((k _ _ (Nat.le_refl _) ((Below.refl _ W).alloc (Nat.le_refl _) _) (by have := rowAt_alloc W v.cells.toList t; rwa [Array.toArray_toList] at this)).out _ (h.put h3))⟩
theorem fw_ex (d : Nat) (v : Value) (hw : wantL ops L o = some true) (hd : o.dst = some d) (hb : Nat.blt d n = true) (hr : ∀ a, Has n a L → (execOp a.eval o).run P W = .ok (.value v) W) (k : Fr n ((d, v) :: L) (WL P ops Q l) W) : Fr n L (WL P ops Q (o :: l)) W :=
  ⟨fun a h => owl_run (wantL_sound h hw) d v W hd (hr a h) (k.out _ (h.put hb))⟩
theorem fw_to {V : Value → World → Prop} (d : Nat) (hw : wantL ops L o = some true) (hd : o.dst = some d) (hb : Nat.blt d n = true) (hop : ∀ a, Has n a L → opTo P o a W V) (k : ∀ v w', V v w' → Fr n ((d, v) :: L) (WL P ops Q l) w') : Fr n L (WL P ops Q (o :: l)) W :=
  ⟨fun a h => owl_wp (wantL_sound h hw) (hop a h) (fun v w' hv => by rw [hd]; exact (k v w' hv).out _ (h.put hb))⟩
theorem fw_dn (h : Fr n L (Q .normal) W) : Fr n L (WL P ops Q []) W := ⟨fun a ha => wl_done (h.out a ha)⟩
theorem fw_dt (h : Fr n L M W) : Fr n L (WL P ops (Exit.then M Q) []) W := ⟨fun a ha => wl_done (h.out a ha)⟩
/-! code -/
theorem fw_rg {id : Nat} {pre : List Oper} (hp : ops.toList = pre) (h : Fr n L (WL P ops Q pre) W) : Fr n L ((Code.region id ops false).wp P Q) W := ⟨fun a ha => owl_region pre hp (h.out a ha)⟩
theorem fw_sq {c1 c2 : Code} (h : Fr n L (c1.wp P (Exit.then (fun a w => c2.wp P Q a w) Q)) W) : Fr n L ((Code.seq c1 c2).wp P Q) W := ⟨fun a ha => wp_seq (h.out a ha)⟩
theorem fw_sk (h : Fr n L (Q .normal) W) : Fr n L (Code.skip.wp P Q) W := ⟨fun a ha => wp_skip (h.out a ha)⟩
theorem fw_xt {id : Nat} (h : Fr n L (Q (.exit id)) W) : Fr n L ((Code.exit id).wp P Q) W := ⟨fun a ha => wp_exit (h.out a ha)⟩
theorem fw_rt (h : Fr n L (Q .ret) W) : Fr n L (Code.ret.wp P Q) W := ⟨fun a ha => wp_ret (h.out a ha)⟩
theorem fw_bk {id : Nat} {c : Code} (h : Fr n L (c.wp P (Exit.inBlock id Q)) W) : Fr n L ((Code.block id c).wp P Q) W := ⟨fun a ha => wp_block (h.out a ha)⟩
theorem fw_go {i : Nat} (h : Fr n L (Q (.goto i)) W) : Fr n L ((Code.goto i).wp P Q) W := ⟨fun a ha => wp_goto (h.out a ha)⟩
theorem fw_cT {c : Operand} {x y : Code} {t : Bool} (hc : evL L c = some (.bool t)) (ht : t = true) (h : Fr n L (x.wp P Q) W) : Fr n L ((Code.cond c x y).wp P Q) W := ⟨fun a ha => ow_true (by rw [ha.ev hc, ht]) (h.out a ha)⟩
theorem fw_cF {c : Operand} {x y : Code} {t : Bool} (hc : evL L c = some (.bool t)) (ht : t = false) (h : Fr n L (y.wp P Q) W) : Fr n L ((Code.cond c x y).wp P Q) W := ⟨fun a ha => ow_false (by rw [ha.ev hc, ht]) (h.out a ha)⟩
theorem fw_th (h : Fr n L M W) : Fr n L (Exit.then M Q .normal) W := ⟨fun a ha => h.out a ha⟩
theorem fw_te {id : Nat} (h : Fr n L (Q (.exit id)) W) : Fr n L (Exit.then M Q (.exit id)) W := ⟨fun a ha => h.out a ha⟩
theorem fw_tg {i : Nat} (h : Fr n L (Q (.goto i)) W) : Fr n L (Exit.then M Q (.goto i)) W := ⟨fun a ha => h.out a ha⟩
theorem fw_bg {id i : Nat} (h : Fr n L (Q (.goto i)) W) : Fr n L (Exit.inBlock id Q (.goto i)) W := ⟨fun a ha => h.out a ha⟩
theorem fw_bn {id : Nat} (h : Fr n L (Q .normal) W) : Fr n L (Exit.inBlock id Q .normal) W := ⟨fun a ha => h.out a ha⟩
theorem fw_be {id : Nat} (h : Fr n L (Q .normal) W) : Fr n L (Exit.inBlock id Q (.exit id)) W := ⟨fun a ha => ow_blk_exit id (h.out a ha)⟩
theorem fw_bf {id i : Nat} (hn : i ≠ id) (h : Fr n L (Q (.exit i)) W) : Fr n L (Exit.inBlock id Q (.exit i)) W := ⟨fun a ha => ow_blk_far id i hn (h.out a ha)⟩
theorem fw_tr (h : Fr n L (Q .ret) W) : Fr n L (Exit.then M Q .ret) W := ⟨fun a ha => h.out a ha⟩
theorem fw_br {id : Nat} (h : Fr n L (Q .ret) W) : Fr n L (Exit.inBlock id Q .ret) W := ⟨fun a ha => h.out a ha⟩
theorem fw_kn {X : Act → World → Prop} (j : Nat) {t b : Bool} (hk : Look L j = some (.bool t)) (hb : t = b) (h : Fr n ((j, .bool b) :: L) X W) : Fr n L X W := by
  subst hb
  refine ⟨fun a ha => h.out a ⟨ha.sz, ha.df, fun i u hi => ?_⟩⟩
  unfold Look at hi
  cases he : Nat.beq j i with
  | true =>
    rw [he, cond_true, Option.some.injEq] at hi
    subst hi
    rw [← Nat.eq_of_beq_eq_true he]; exact ha.g j hk
  | false => rw [he, cond_false] at hi; exact ha.at_ i u hi
def SubL (L : Kn) : Kn → Prop
  | [] => True
  | p :: K => Look L p.1 = some p.2 ∧ SubL L K
theorem SubL.look {L : Kn} : ∀ {K : Kn}, SubL L K → ∀ {j : Nat} {v : Value}, Look K j = some v → Look L j = some v
  | [], _, _, _, h => by simp [Look] at h
  | (k, u) :: K, hs, j, v, h => by
    unfold Look at h
    cases he : Nat.beq k j with
    | true => rw [he, cond_true] at h; rw [← Nat.eq_of_beq_eq_true he, ← h]; exact hs.1
    | false => rw [he, cond_false] at h; exact SubL.look hs.2 h
theorem fw_fg {X : Act → World → Prop} (K : Kn) (hs : SubL L K) (h : Fr n K X W) : Fr n L X W := ⟨fun a ha => h.out a ⟨ha.sz, ha.df, fun j v hj => ha.at_ j v (hs.look hj)⟩⟩
theorem fw_gf {X : Act → World → Prop} {K : Kn} (h : Fr n K X W) (hs : SubL L K) : Fr n L X W := fw_fg K hs h
theorem fw_lp {c : Code} (J : Nat → Kn → World → Prop) (n0 : Nat) (K : Kn) (h0 : J n0 K W) (hs : SubL L K) (round : ∀ N L W, J N L W → ∀ Z : Act → World → Prop, (∀ N' K W', N' < N → J N' K W' → Fr n K Z W') → Fr n L (c.wp P (Exit.then Z Q)) W) : Fr n L ((Code.loop c).wp P Q) W := by
  refine ⟨fun a ha => ow_loop (fun N a W => ∃ K, J N K W ∧ Has n a K) n0 ⟨K, h0, ha.sz, ha.df, fun j v hj => ha.at_ j v (hs.look hj)⟩ ?_⟩
  rintro N a W ⟨K, hJ, hK⟩ Z hZ
  exact (round N K W hJ Z fun N' K' W' hlt hJ' => ⟨fun a' ha' => hZ N' a' W' hlt ⟨K', hJ', ha'⟩⟩).out a hK
theorem fw_md {x y : Code} (J : Kn → World → Prop) (h1 : ∀ Z : Act → World → Prop, (∀ K W', J K W' → Fr n K Z W') → Fr n L (x.wp P (Exit.then Z Q)) W) (h2 : ∀ K W', J K W' → Fr n K (y.wp P Q) W') : Fr n L ((Code.seq x y).wp P Q) W :=
  fw_sq (h1 (fun a w => y.wp P Q a w) (fun K W' hJ => ⟨fun a ha => (h2 K W' hJ).out a ha⟩))
theorem fw_en {f : FuncId} {fn : Func} {body : Code} {args : Array Value} {R : Ending → World → Prop} (n : Nat) (K : Kn) (hf : P.funcs[f]? = some fn) (hb : fn.body = some body) (hn : fn.ntmps = n) (hle : Nat.ble args.size n = true) (hK : SubL (args.toList.zipIdx.map fun p => (p.2, p.1)) K) (h : Fr n K (body.wp P (bodyPost P fn R)) W) : Calls P f args W R := by
  refine ow_enter n hf hb hn (Nat.le_of_ble_eq_true hle) fun a h1 h2 h3 => h.out a ⟨h1, h2, fun j v hj => h3 j v ?_⟩
  have hj' := hK.look hj
  have key : ∀ (xs : List Value) (k j : Nat) (v : Value), Look ((xs.zipIdx k).map fun p => (p.2, p.1)) j = some v → k ≤ j ∧ xs[j - k]? = some v := by
    intro xs
    induction xs with
    | nil => intro k j v h; simp [Look] at h
    | cons x xs ih =>
      intro k j v h
      rw [List.zipIdx_cons, List.map_cons] at h
      unfold Look at h
      cases he : Nat.beq k j with
      | true =>
        have := Nat.eq_of_beq_eq_true he
        subst this
        rw [he, cond_true] at h
        exact ⟨Nat.le_refl _, by simpa using h⟩
      | false =>
        rw [he, cond_false] at h
        obtain ⟨h1, h2⟩ := ih (k + 1) j v h
        refine ⟨by omega, ?_⟩
        rw [show j - k = (j - (k + 1)) + 1 by omega]; exact h2
  have := (key args.toList 0 j v hj').2
  simpa using this
/-! a region that draws its order; S holds all the while -/
variable {S : World → Prop} {listed : Array Bool} {fuel : Nat}
structure Hd (P : Program) (ops : Array Oper) (Q : Exit → Act → World → Prop) (S : World → Prop) (n : Nat) (L : Kn) (fuel : Nat) (listed : Array Bool) (W : World) : Prop where
  out : S W → Fr n L (AH P ops Q S fuel listed) W
structure Ho (P : Program) (ops : Array Oper) (Q : Exit → Act → World → Prop) (S : World → Prop) (n : Nat) (L : Kn) (fuel : Nat) (listed : Array Bool) (i : Nat) (W : World) : Prop where
  out : S W → Fr n L (AO P ops Q S fuel listed i) W
def tkB (ops : Array Oper) (listed : Array Bool) (i : Nat) : Bool := Region.noSelect ops && (Region.free .any ops listed i && (Region.ready .any ops listed).contains i)
theorem fw_hr {id : Nat} (S : World → Prop) (hm : P.follows .mixedOrders = true) (k : Nat) (hk : ops.size = k) (h : ∀ W', Below W.heap.size W W' → S W' ∧ Hd P ops Q S n L k (Array.replicate k false) W') : Fr n L ((Code.region id ops true).wp P Q) W := by
  obtain ⟨h1, h2⟩ := h W.drew (Below.refl _ W).drew
  exact ⟨fun a ha => ah_region S hm k hk ((h2.out h1).out a ha)⟩
theorem fw_tk {T : List TE} [hTk : TOk P T] (i : Nat) {oi : Oper} (hi : ops[i]? = some oi) (hs : stepP T ops n L oi = some L') (hb : tkB ops listed i = true) (hQ : ∀ c a d v w, Q (.panic c) (Act.put a (some d) v) w → Q (.panic c) a w) (k : Hd P ops Q S n L' fuel (listed.setIfInBounds i true) W) : Hd P ops Q S n L (fuel + 1) listed W := by
  unfold tkB at hb
  rw [Bool.and_eq_true, Bool.and_eq_true] at hb
  obtain ⟨d, v, hd, hbl, rfl, ⟨hw, hr⟩ | ⟨hw, rfl⟩⟩ := stepP_sound hTk.ok hs
  · exact ⟨fun hS => ⟨fun a ha => ah_takeW i d v hi (wantL_sound ha hw) hd hb.1 hb.2.1 hb.2.2 (fun c a w => hQ c a d v w) hS (fun W _ => hr a ha W) ((k.out hS).out _ (ha.put hbl))⟩⟩
  · exact ⟨fun hS => ⟨fun a ha => ah_takeNo i d hi (wantL_sound ha hw) hd hb.1 hb.2.1 hb.2.2 (fun c a w => hQ c a d undef w) hS ((k.out hS).out _ (ha.put hbl))⟩⟩
theorem fw_tl {T : List TE} [hTk : TOk P T] (i : Nat) {oi : Oper} {z : Option Nat} (r : ∀ W, S W → RowAt W q vs) (hi : ops[i]? = some oi) (hl : loadC T ops n L oi = some (d, q, j, z)) (hv : ldv z vs j = some v) (hb : tkB ops listed i = true) (hQ : ∀ c a d v w, Q (.panic c) (Act.put a (some d) v) w → Q (.panic c) a w) (k : Hd P ops Q S n ((d, v) :: L) fuel (listed.setIfInBounds i true) W) : Hd P ops Q S n L (fuel + 1) listed W := by
  unfold tkB at hb
  rw [Bool.and_eq_true, Bool.and_eq_true] at hb
  refine ⟨fun hS => ⟨fun a ha => ?_⟩⟩
  obtain ⟨-, h2, h3, h4⟩ := loadC_run hTk.ok ha hl (r W hS) hv
  exact ah_takeW i d v hi (wantL_sound ha h4) h2 hb.1 hb.2.1 hb.2.2 (fun c a w => hQ c a d v w) hS (fun W hW => (loadC_run hTk.ok ha hl (r W hW) hv).1) ((k.out hS).out _ (ha.put h3))
theorem fw_tx (i d : Nat) (v : Value) {oi : Oper} (hi : ops[i]? = some oi) (hw : wantL ops L oi = some true) (hd : oi.dst = some d) (hbl : Nat.blt d n = true) (hr : ∀ a, Has n a L → ∀ W, S W → (execOp a.eval oi).run P W = .ok (.value v) W) (hb : tkB ops listed i = true) (hQ : ∀ c a d v w, Q (.panic c) (Act.put a (some d) v) w → Q (.panic c) a w) (k : Hd P ops Q S n ((d, v) :: L) fuel (listed.setIfInBounds i true) W) : Hd P ops Q S n L (fuel + 1) listed W := by
  unfold tkB at hb
  rw [Bool.and_eq_true, Bool.and_eq_true] at hb
  exact ⟨fun hS => ⟨fun a ha => ah_takeW i d v hi (wantL_sound ha hw) hd hb.1 hb.2.1 hb.2.2 (fun c a w => hQ c a d v w) hS (fun W hW => hr a ha W hW) ((k.out hS).out _ (ha.put hbl))⟩⟩
theorem fw_o1 (i : Nat) (hr : Region.ready .any ops listed = [i]) (k : Ho P ops Q S n L fuel listed i W) : Hd P ops Q S n L (fuel + 1) listed W := ⟨fun hS => ⟨fun a ha => ah_one i hr ((k.out hS).out a ha)⟩⟩
theorem fw_o2 (i j : Nat) (hr : Region.ready .any ops listed = [i, j]) (k : Ho P ops Q S n L fuel listed i W) (k2 : Ho P ops Q S n L fuel listed j W) : Hd P ops Q S n L (fuel + 1) listed W := ⟨fun hS => ⟨fun a ha => ah_two i j hr ((k.out hS).out a ha) ((k2.out hS).out a ha)⟩⟩
theorem fw_hz (hr : Region.ready .any ops listed = []) (h : Fr n L (Q .normal) W) : Hd P ops Q S n L fuel listed W := ⟨fun _ => ⟨fun a ha => ah_done hr (h.out a ha)⟩⟩
theorem fw_ht (hr : Region.ready .any ops listed = []) (h : Fr n L M W) : Hd P ops (Exit.then M Q) S n L fuel listed W := fw_hz hr ⟨fun a ha => h.out a ha⟩
section
variable {i : Nat} {oi : Oper} (hi : ops[i]? = some oi)
include hi
theorem fw_ol {T : List TE} [hTk : TOk P T] {z : Option Nat} (r : RowAt W q vs) (hl : loadC T ops n L oi = some (d, q, j, z)) (hv : ldv z vs j = some v) (k : Hd P ops Q S n ((d, v) :: L) fuel (listed.setIfInBounds i true) W) : Ho P ops Q S n L fuel listed i W := by
  refine ⟨fun hS => ⟨fun a ha => ?_⟩⟩
  obtain ⟨h1, h2, h3, h4⟩ := loadC_run hTk.ok ha hl r hv
  exact ao_run hi (wantL_sound ha h4) d v W h2 h1 hS ((k.out hS).out _ (ha.put h3))
theorem fw_ox (d : Nat) (v : Value) (hw : wantL ops L oi = some true) (hd : oi.dst = some d) (hbl : Nat.blt d n = true) (hr : ∀ a, Has n a L → (execOp a.eval oi).run P W = .ok (.value v) W) (k : Hd P ops Q S n ((d, v) :: L) fuel (listed.setIfInBounds i true) W) : Ho P ops Q S n L fuel listed i W :=
  ⟨fun hS => ⟨fun a ha => ao_run hi (wantL_sound ha hw) d v W hd (hr a ha) hS ((k.out hS).out _ (ha.put hbl))⟩⟩
theorem fw_os {T : List TE} [hTk : TOk P T] (r : RowAt W q vs) (hs : storeC T ops L oi = some (q, j, cs)) (hb : stB vs j cs = true) (k : ∀ W', W.grownBy W' (some q) → RowAt W' q (setR vs j cs) → S W' ∧ Hd P ops Q S n L fuel (listed.setIfInBounds i true) W') : Ho P ops Q S n L fuel listed i W := by
  refine ⟨fun _ => ⟨fun a ha => ?_⟩⟩
  obtain ⟨h1, h2, h3⟩ := storeC_run hTk.ok ha hs r hb
  have hle : j + cs.length ≤ vs.length := by unfold stB at hb; rw [Bool.and_eq_true] at hb; exact Nat.le_of_ble_eq_true hb.1
  obtain ⟨k1, k2⟩ := k _ (gr_sets q cs j W) (by rw [setR_eq]; exact row_sets cs vs j W r hle)
  exact ao_skip hi (wantL_sound ha h3) h2 _ h1 k1 ((k2.out k1).out _ ha)
theorem fw_oa {t : TypeId} {u : Nat → Value} (d : Nat) (cs : List Value) (hw : wantL ops L oi = some true) (hd : oi.dst = some d) (hbl : Nat.blt d n = true) (hr : ∀ a, Has n a L → (execOp a.eval oi).run P W = .ok (.value (u W.heap.size)) (W.alloc (.cells cs.toArray t))) (k : ∀ q W', W.heap.size ≤ q → Below W.heap.size W W' → RowAt W' q cs → S W' ∧ Hd P ops Q S n ((d, u q) :: L) fuel (listed.setIfInBounds i true) W') : Ho P ops Q S n L fuel listed i W := by
  refine ⟨fun _ => ⟨fun a ha => ?_⟩⟩
  obtain ⟨k1, k2⟩ := k _ _ (Nat.le_refl _) ((Below.refl _ W).alloc (Nat.le_refl _) _) (rowAt_alloc W cs t)
  exact ao_run hi (wantL_sound ha hw) d _ _ hd (hr a ha) k1 ((k2.out k1).out _ (ha.put hbl))
theorem fw_oc {f : FuncId} {fn : Func} {xs : List Value} {R : Ending → World → Prop} (hf : P.funcs[f]? = some fn) (hn : (fn.name == "runtime.NumGoroutine") = false) (hb : fn.body.isNone = false) (hr : callC ops n L oi = some (d, f, xs)) (hc : Calls P f xs.toArray W R) (k : ∀ e w', R e w' → ∃ v, e = .returned v ∧ S w' ∧ Hd P ops Q S n ((d, v) :: L) fuel (listed.setIfInBounds i true) w') : Ho P ops Q S n L fuel listed i W := by
  refine ⟨fun _ => ⟨fun a ha => ?_⟩⟩
  obtain ⟨h1, h2, h3, h4⟩ := callC_run (W := W) ha hr hf hn hb
  exact ao_call hi (wantL_sound ha h4) d (fun v w' => S w' ∧ Hd P ops Q S n ((d, v) :: L) fuel (listed.setIfInBounds i true) w') h2 f _ h1 (hc.mono fun e w' he => k e w' he) (fun v w' hv => ⟨hv.1, (hv.2.out hv.1).out _ (ha.put h3)⟩)
theorem fw_ot {V : Value → World → Prop} (d : Nat) (hw : wantL ops L oi = some true) (hd : oi.dst = some d) (hbl : Nat.blt d n = true) (hop : ∀ a, Has n a L → opTo P oi a W V) (k : ∀ v w', V v w' → S w' ∧ Hd P ops Q S n ((d, v) :: L) fuel (listed.setIfInBounds i true) w') : Ho P ops Q S n L fuel listed i W :=
  ⟨fun _ => ⟨fun a ha => ao_to hi (wantL_sound ha hw) d V hd (hop a ha) (fun v w' hv => ⟨(k v w' hv).1, ((k v w' hv).2.out (k v w' hv).1).out _ (ha.put hbl)⟩)⟩⟩
end
theorem fw_kh (j : Nat) {t b : Bool} (hk : Look L j = some (.bool t)) (hb : t = b) (h : Hd P ops Q S n ((j, .bool b) :: L) fuel listed W) : Hd P ops Q S n L fuel listed W := ⟨fun hS => fw_kn j hk hb (h.out hS)⟩
theorem fw_in {X : Act → World → Prop} {a : Act} (h : Has n a L) (k : Fr n L X W) : X a W := k.out a h
def RowBut (W : World) (q : Nat) (vs : List Value) (k : Nat) : Prop := ∃ z, RowAt W q (vs.set k z)
theorem RowBut.of {k : Nat} (r : RowAt W q vs) (hk : Nat.blt k vs.length = true) : RowBut W q vs k := by
  have hk' : k < vs.length := by simpa [Nat.blt_eq] using hk
  exact ⟨vs[k], by rwa [List.set_getElem_self]⟩
theorem RowBut.row {k : Nat} (h : RowBut W q vs k) : ∃ z, RowAt W q (vs.set k z) := h
theorem RowBut.below {k : Nat} {W' : World} (h : RowBut W q vs k) (hb : Below W.heap.size W W') : RowBut W' q vs k := by obtain ⟨z, r⟩ := h; exact ⟨z, r.below hb⟩
theorem RowBut.low {k g : Nat} {W' : World} (h : RowBut W q vs k) (hb : Below g W W') (hq : q < g) : RowBut W' q vs k := by obtain ⟨z, r⟩ := h; exact ⟨z, r.low hb hq⟩
theorem RowBut.set {k : Nat} {vs' : List Value} (r : RowAt W q vs') (e : vs' = vs.set k v) : RowBut W q vs k := ⟨v, e ▸ r⟩
end
end
end Go.Proofs.YtpgnlhfokffioaaDoor
namespace Go.Proofs.YtpgnlhfokffioaaDoor
section
open Go.RowKit
def tblG : List TE := [⟨3, false, 1, [], 0⟩, ⟨4, false, 1, [], 0⟩, ⟨5, false, 1, [], 0⟩, ⟨9, false, 1, [], 2⟩, ⟨15, false, 1, [], 0⟩, ⟨16, false, 1, [], 0⟩, ⟨17, false, 1, [], 0⟩, ⟨21, false, 1, [], 0⟩, ⟨22, false, 1, [], 1⟩, ⟨25, true, 5, [0, 1, 2, 3, 4], 0⟩, ⟨26, false, 1, [], 1⟩, ⟨27, false, 1, [], 1⟩, ⟨28, false, 1, [], 1⟩, ⟨30, true, 24, [0, 1, 2, 3, 4, 9, 10, 11, 12, 13, 14, 15, 16, 17, 18, 19, 20, 21, 22, 23], 0⟩, ⟨31, false, 1, [], 1⟩, ⟨33, true, 25, [0, 24], 0⟩, ⟨35, false, 1, [], 0⟩, ⟨44, false, 1, [], 1⟩, ⟨54, false, 1, [], 1⟩, ⟨83, false, 1, [], 0⟩, ⟨93, true, 2, [0, 1], 0⟩, ⟨97, false, 1, [], 0⟩, ⟨99, true, 1, [0], 0⟩, ⟨101, false, 1, [], 0⟩, ⟨104, false, 1, [], 0⟩, ⟨106, true, 2, [0, 1], 0⟩, ⟨116, false, 1, [], 1⟩, ⟨123, false, 1, [], 0⟩, ⟨134, false, 1, [], 0⟩, ⟨135, false, 1, [], 0⟩, ⟨146, false, 1, [], 0⟩]
theorem tblG_ok : tblG.all (TE.okB Tryd.prog) = true := by kernel_rfl
instance : TOk Tryd.prog tblG := ⟨tblG_ok⟩
theorem eqStrM (x y : Operand) (s t : ByteArray) (op : BinOp) (w : World) : (eqGuard op 9 x y (.string s) (.string t)).run Tryd.prog w = .ok () w := by cases op <;> simp [go_sem]
theorem bool_or (b : Bool) : b = false ∨ b = true := by cases b <;> simp
theorem ldMq {W : World} {q : Nat} {x0 x1 x2 x3 x4 x5 x6 x7 x8 x9 x10 x11 x12 x13 x14 x15 x16 x17 x18 x19 x20 x21 x22 x23 : Value} (r : RowAt W q [x0, x1, x2, x3, x4, x5, x6, x7, x8, x9, x10, x11, x12, x13, x14, x15, x16, x17, x18, x19, x20, x21, x22, x23]) : (loadVar 30 ⟨q, 0, none⟩).run Tryd.prog W = .ok (.agg #[x0, x1, x2, x3, x4, x5, x6, x7, x8, x9, x10, x11, x12, x13, x14, x15, x16, x17, x18, x19, x20, x21, x22, x23]) W :=
  run_loadVar_mid _ _ 0 _ [x0, x1, x2, x3, x4, x5, x6, x7, x8, x9, x10, x11, x12, x13, x14, x15, x16, x17, x18, x19, x20, x21, x22, x23] _ (r.range 0 _ (fun j v hj => by rw [Nat.zero_add j]; exact hj)) Tryd.underlying30 rfl (by kernel_rfl)
theorem willZ (w : World) (b : Bool) (s t : ByteArray) (n : Int) (c : Bool) : (binOp .eql 25 (.agg #[.bool b, .string s, .string t, .int .i64 n, .bool c]) (.agg #[.bool false, .string { data := #[] }, .string { data := #[] }, .int .i64 0, .bool false])).run Tryd.prog w =
    .ok (.bool (!b && isE s && isE t && (n == 0) && !c)) w := by
  rw [willEq]
  have h : (ByteArray.mk #[]).toList = [] := ba_nil
  simp only [isE, h]
  cases b <;> cases c <;> simp
def Mq.noB (m : Mq) : Bool := (((((((((((((((((((isE m.cl) && (!m.clean)) && (m.keep == 0)) && (!m.wI && isE m.wT && isE m.wP && (m.wQ == 0) && !m.wR)) && (isE m.us)) && (!m.hu)) && (isE m.pa)) && (!m.hp)) && (!m.pres)) && (m.code == 0)) && (((m.cs.length : Nat) : Int) == 0)) && (!m.dup)) && (m.q == 0)) && (!m.re)) && (isE m.top)) && (m.id == 0)) && (isE m.pay)) && (((m.ws.length : Nat) : Int) == 0)) && (((m.fs.length : Nat) : Int) == 0))
set_option maxRecDepth 100000 in
set_option maxHeartbeats 4000000 in
theorem nothing_any (m : Mq) (vc vw vf : Value) (w : World) (hL : m.Lists w vc vw vf) :
    Calls Tryd.prog 86 #[m.val vc vw vf] w fun e w' => e = .returned (.bool m.noB) ∧ Below w.heap.size w w' := by
  have hb0 := Below.refl w.heap.size w
  obtain ⟨⟨ac, cc, rfl, -⟩, ⟨aw, cw, rfl, -⟩, ⟨af, cf, rfl, -⟩⟩ := id hL
  rw [List.length_map, List.length_map, List.length_map] at hL ⊢
  refine fw_en 100 [(0, .agg (Mq.row m (.slice ac m.cs.length cc) (.slice aw m.ws.length cw) (.slice af m.fs.length cf)).toArray)] Tryd.func86 rfl Tryd.ntmps86 rfl ⟨rfl, trivial⟩ ?_
  refine fw_sq (fw_rg rfl (fw_bx rfl (cs := [.int .i64 m.k, .string m.cl, .bool m.clean, .int .i64 m.keep, .bool m.wI, .string m.wT, .string m.wP, .int .i64 m.wQ, .bool m.wR, .string m.us, .bool m.hu, .string m.pa, .bool m.hp, .bool m.pres, .int .i64 m.code, .slice ac m.cs.length cc, .bool m.dup, .int .i64 m.q, .bool m.re, .string m.top, .int .i64 m.id, .string m.pay, .slice aw m.ws.length cw, .slice af m.fs.length cf]) rfl ?_))
  intro q1 W2 g5 s3 r4
  have := Nat.le_trans hb0.size g5
  have b6 := hb0.trans (s3.mono hb0.size)
  refine fw_pu rfl (fw_dt (fw_sq (fw_rg rfl (fw_pu rfl (fw_ld r4 rfl rfl (fw_ex 5 (.bool (isE m.cl)) rfl rfl rfl (fun a h => (run_binOp (h.ev rfl) (h.ev rfl) (eqStrM _ _ _ _ _ _) (strE _ _))) (fw_pu rfl ?_)))))))
  rcases bool_or ((isE m.cl)) with hb_7 | hb_7
  · skip
    refine fw_kn 6 rfl hb_7 ?_
    iterate 94 refine fw_pu rfl ?_
    refine fw_dt (fw_rt ?_)
    refine ⟨fun a h => ?_⟩
    exact ow_ret1 rfl h.df (h.g 2 rfl) ⟨by (try unfold Mq.noB); simp [hb_7], b6⟩
  refine fw_kn 6 rfl hb_7 (fw_pu rfl (fw_ld r4 rfl rfl ?_))
  iterate 3 refine fw_pu rfl ?_
  rcases bool_or (m.clean) with hb_8 | hb_8
  · skip
    refine fw_kn 11 rfl (not_of hb_8) (fw_pu rfl (fw_ld r4 rfl rfl ?_))
    iterate 3 refine fw_pu rfl ?_
    rcases bool_or ((m.keep == 0)) with hb_9 | hb_9
    · skip
      refine fw_kn 16 rfl hb_9 ?_
      iterate 84 refine fw_pu rfl ?_
      refine fw_dt (fw_rt ?_)
      refine ⟨fun a h => ?_⟩
      exact ow_ret1 rfl h.df (h.g 2 rfl) ⟨by (try unfold Mq.noB); simp [hb_7, hb_8, hb_9], b6⟩
    refine fw_kn 16 rfl hb_9 (fw_pu rfl (fw_ld r4 rfl rfl ?_))
    refine fw_ex 19 (.agg #[.bool false, .string { data := #[] }, .string { data := #[] }, .int .i64 0, .bool false]) rfl rfl rfl (fun a h => (run_buildOp (vs := #[]) (by simp) (by kernel_rfl))) ?_
    refine fw_ex 20 (.bool ((!m.wI) && isE m.wT && isE m.wP && (m.wQ == 0) && !m.wR)) rfl rfl rfl (fun a h => (run_binOp (h.ev rfl) (h.ev rfl) (eqWill _ _ _ _ _) (willZ _ _ _ _ _ _))) ?_
    iterate 2 refine fw_pu rfl ?_
    rcases bool_or (((!m.wI) && isE m.wT && isE m.wP && (m.wQ == 0) && !m.wR)) with hb_10 | hb_10
    · skip
      refine fw_kn 22 rfl hb_10 ?_
      iterate 78 refine fw_pu rfl ?_
      refine fw_dt (fw_rt ?_)
      refine ⟨fun a h => ?_⟩
      exact ow_ret1 rfl h.df (h.g 2 rfl) ⟨by (try unfold Mq.noB); simp [hb_7, hb_8, hb_9, hb_10], b6⟩
    refine fw_kn 22 rfl hb_10 (fw_pu rfl (fw_ld r4 rfl rfl (fw_ex 25 (.bool (isE m.us)) rfl rfl rfl (fun a h => (run_binOp (h.ev rfl) (h.ev rfl) (eqStrM _ _ _ _ _ _) (strE _ _))) ?_)))
    iterate 2 refine fw_pu rfl ?_
    rcases bool_or ((isE m.us)) with hb_11 | hb_11
    · skip
      refine fw_kn 27 rfl hb_11 ?_
      iterate 73 refine fw_pu rfl ?_
      refine fw_dt (fw_rt ?_)
      refine ⟨fun a h => ?_⟩
      exact ow_ret1 rfl h.df (h.g 2 rfl) ⟨by (try unfold Mq.noB); simp [hb_7, hb_8, hb_9, hb_10, hb_11], b6⟩
    refine fw_kn 27 rfl hb_11 (fw_pu rfl (fw_ld r4 rfl rfl ?_))
    iterate 3 refine fw_pu rfl ?_
    rcases bool_or (m.hu) with hb_12 | hb_12
    · skip
      refine fw_kn 32 rfl (not_of hb_12) (fw_pu rfl (fw_ld r4 rfl rfl (fw_ex 35 (.bool (isE m.pa)) rfl rfl rfl (fun a h => (run_binOp (h.ev rfl) (h.ev rfl) (eqStrM _ _ _ _ _ _) (strE _ _))) ?_)))
      iterate 2 refine fw_pu rfl ?_
      rcases bool_or ((isE m.pa)) with hb_13 | hb_13
      · skip
        refine fw_kn 37 rfl hb_13 ?_
        iterate 63 refine fw_pu rfl ?_
        refine fw_dt (fw_rt ?_)
        refine ⟨fun a h => ?_⟩
        exact ow_ret1 rfl h.df (h.g 2 rfl) ⟨by (try unfold Mq.noB); simp [hb_7, hb_8, hb_9, hb_10, hb_11, hb_12, hb_13], b6⟩
      refine fw_kn 37 rfl hb_13 (fw_pu rfl (fw_ld r4 rfl rfl ?_))
      iterate 3 refine fw_pu rfl ?_
      rcases bool_or (m.hp) with hb_14 | hb_14
      · skip
        refine fw_kn 42 rfl (not_of hb_14) (fw_pu rfl (fw_ld r4 rfl rfl ?_))
        iterate 3 refine fw_pu rfl ?_
        rcases bool_or (m.pres) with hb_15 | hb_15
        · skip
          refine fw_kn 47 rfl (not_of hb_15) (fw_pu rfl (fw_ld r4 rfl rfl ?_))
          iterate 3 refine fw_pu rfl ?_
          rcases bool_or ((m.code == 0)) with hb_16 | hb_16
          · skip
            refine fw_kn 52 rfl hb_16 ?_
            iterate 48 refine fw_pu rfl ?_
            refine fw_dt (fw_rt ?_)
            refine ⟨fun a h => ?_⟩
            exact ow_ret1 rfl h.df (h.g 2 rfl) ⟨by (try unfold Mq.noB); simp [hb_7, hb_8, hb_9, hb_10, hb_11, hb_12, hb_13, hb_14, hb_15, hb_16], b6⟩
          refine fw_kn 52 rfl hb_16 (fw_pu rfl (fw_ld r4 rfl rfl ?_))
          iterate 4 refine fw_pu rfl ?_
          rcases bool_or ((((m.cs.length : Nat) : Int) == 0)) with hb_17 | hb_17
          · skip
            refine fw_kn 58 rfl hb_17 ?_
            iterate 42 refine fw_pu rfl ?_
            refine fw_dt (fw_rt ?_)
            refine ⟨fun a h => ?_⟩
            exact ow_ret1 rfl h.df (h.g 2 rfl) ⟨by (try unfold Mq.noB); simp [hb_7, hb_8, hb_9, hb_10, hb_11, hb_12, hb_13, hb_14, hb_15, hb_16, hb_17], b6⟩
          refine fw_kn 58 rfl hb_17 (fw_pu rfl (fw_ld r4 rfl rfl ?_))
          iterate 3 refine fw_pu rfl ?_
          rcases bool_or (m.dup) with hb_18 | hb_18
          · skip
            refine fw_kn 63 rfl (not_of hb_18) (fw_pu rfl (fw_ld r4 rfl rfl ?_))
            iterate 3 refine fw_pu rfl ?_
            rcases bool_or ((m.q == 0)) with hb_19 | hb_19
            · skip
              refine fw_kn 68 rfl hb_19 ?_
              iterate 32 refine fw_pu rfl ?_
              refine fw_dt (fw_rt ?_)
              refine ⟨fun a h => ?_⟩
              exact ow_ret1 rfl h.df (h.g 2 rfl) ⟨by (try unfold Mq.noB); simp [hb_7, hb_8, hb_9, hb_10, hb_11, hb_12, hb_13, hb_14, hb_15, hb_16, hb_17, hb_18, hb_19], b6⟩
            refine fw_kn 68 rfl hb_19 (fw_pu rfl (fw_ld r4 rfl rfl ?_))
            iterate 3 refine fw_pu rfl ?_
            rcases bool_or (m.re) with hb_20 | hb_20
            · skip
              refine fw_kn 73 rfl (not_of hb_20) (fw_pu rfl (fw_ld r4 rfl rfl (fw_ex 76 (.bool (isE m.top)) rfl rfl rfl (fun a h => (run_binOp (h.ev rfl) (h.ev rfl) (eqStrM _ _ _ _ _ _) (strE _ _))) ?_)))
              iterate 2 refine fw_pu rfl ?_
              rcases bool_or ((isE m.top)) with hb_21 | hb_21
              · skip
                refine fw_kn 78 rfl hb_21 ?_
                iterate 22 refine fw_pu rfl ?_
                refine fw_dt (fw_rt ?_)
                refine ⟨fun a h => ?_⟩
                exact ow_ret1 rfl h.df (h.g 2 rfl) ⟨by (try unfold Mq.noB); simp [hb_7, hb_8, hb_9, hb_10, hb_11, hb_12, hb_13, hb_14, hb_15, hb_16, hb_17, hb_18, hb_19, hb_20, hb_21], b6⟩
              refine fw_kn 78 rfl hb_21 (fw_pu rfl (fw_ld r4 rfl rfl ?_))
              iterate 3 refine fw_pu rfl ?_
              rcases bool_or ((m.id == 0)) with hb_22 | hb_22
              · skip
                refine fw_kn 83 rfl hb_22 ?_
                iterate 17 refine fw_pu rfl ?_
                refine fw_dt (fw_rt ?_)
                refine ⟨fun a h => ?_⟩
                exact ow_ret1 rfl h.df (h.g 2 rfl) ⟨by (try unfold Mq.noB); simp [hb_7, hb_8, hb_9, hb_10, hb_11, hb_12, hb_13, hb_14, hb_15, hb_16, hb_17, hb_18, hb_19, hb_20, hb_21, hb_22], b6⟩
              refine fw_kn 83 rfl hb_22 (fw_pu rfl (fw_ld r4 rfl rfl (fw_ex 86 (.bool (isE m.pay)) rfl rfl rfl (fun a h => (run_binOp (h.ev rfl) (h.ev rfl) (eqStrM _ _ _ _ _ _) (strE _ _))) ?_)))
              iterate 2 refine fw_pu rfl ?_
              rcases bool_or ((isE m.pay)) with hb_23 | hb_23
              · skip
                refine fw_kn 88 rfl hb_23 ?_
                iterate 12 refine fw_pu rfl ?_
                refine fw_dt (fw_rt ?_)
                refine ⟨fun a h => ?_⟩
                exact ow_ret1 rfl h.df (h.g 2 rfl) ⟨by (try unfold Mq.noB); simp [hb_7, hb_8, hb_9, hb_10, hb_11, hb_12, hb_13, hb_14, hb_15, hb_16, hb_17, hb_18, hb_19, hb_20, hb_21, hb_22, hb_23], b6⟩
              refine fw_kn 88 rfl hb_23 (fw_pu rfl (fw_ld r4 rfl rfl ?_))
              iterate 4 refine fw_pu rfl ?_
              rcases bool_or ((((m.ws.length : Nat) : Int) == 0)) with hb_24 | hb_24
              · skip
                refine fw_kn 94 rfl hb_24 ?_
                iterate 6 refine fw_pu rfl ?_
                refine fw_dt (fw_rt ?_)
                refine ⟨fun a h => ?_⟩
                exact ow_ret1 rfl h.df (h.g 2 rfl) ⟨by (try unfold Mq.noB); simp [hb_7, hb_8, hb_9, hb_10, hb_11, hb_12, hb_13, hb_14, hb_15, hb_16, hb_17, hb_18, hb_19, hb_20, hb_21, hb_22, hb_23, hb_24], b6⟩
              refine fw_kn 94 rfl hb_24 (fw_pu rfl (fw_ld r4 rfl rfl ?_))
              iterate 4 refine fw_pu rfl ?_
              refine fw_dt (fw_rt ?_)
              refine ⟨fun a h => ?_⟩
              exact ow_ret1 rfl h.df (h.g 2 rfl) ⟨by (try unfold Mq.noB); simp [hb_7, hb_8, hb_9, hb_10, hb_11, hb_12, hb_13, hb_14, hb_15, hb_16, hb_17, hb_18, hb_19, hb_20, hb_21, hb_22, hb_23, hb_24], b6⟩
            refine fw_kn 73 rfl (not_of hb_20) ?_
            iterate 27 refine fw_pu rfl ?_
            refine fw_dt (fw_rt ?_)
            refine ⟨fun a h => ?_⟩
            exact ow_ret1 rfl h.df (h.g 2 rfl) ⟨by (try unfold Mq.noB); simp [hb_7, hb_8, hb_9, hb_10, hb_11, hb_12, hb_13, hb_14, hb_15, hb_16, hb_17, hb_18, hb_19, hb_20], b6⟩
          refine fw_kn 63 rfl (not_of hb_18) ?_
          iterate 37 refine fw_pu rfl ?_
          refine fw_dt (fw_rt ?_)
          refine ⟨fun a h => ?_⟩
          exact ow_ret1 rfl h.df (h.g 2 rfl) ⟨by (try unfold Mq.noB); simp [hb_7, hb_8, hb_9, hb_10, hb_11, hb_12, hb_13, hb_14, hb_15, hb_16, hb_17, hb_18], b6⟩
        refine fw_kn 47 rfl (not_of hb_15) ?_
        iterate 53 refine fw_pu rfl ?_
        refine fw_dt (fw_rt ?_)
        refine ⟨fun a h => ?_⟩
        exact ow_ret1 rfl h.df (h.g 2 rfl) ⟨by (try unfold Mq.noB); simp [hb_7, hb_8, hb_9, hb_10, hb_11, hb_12, hb_13, hb_14, hb_15], b6⟩
      refine fw_kn 42 rfl (not_of hb_14) ?_
      iterate 58 refine fw_pu rfl ?_
      refine fw_dt (fw_rt ?_)
      refine ⟨fun a h => ?_⟩
      exact ow_ret1 rfl h.df (h.g 2 rfl) ⟨by (try unfold Mq.noB); simp [hb_7, hb_8, hb_9, hb_10, hb_11, hb_12, hb_13, hb_14], b6⟩
    refine fw_kn 32 rfl (not_of hb_12) ?_
    iterate 68 refine fw_pu rfl ?_
    refine fw_dt (fw_rt ?_)
    refine ⟨fun a h => ?_⟩
    exact ow_ret1 rfl h.df (h.g 2 rfl) ⟨by (try unfold Mq.noB); simp [hb_7, hb_8, hb_9, hb_10, hb_11, hb_12], b6⟩
  refine fw_kn 11 rfl (not_of hb_8) ?_
  iterate 89 refine fw_pu rfl ?_
  refine fw_dt (fw_rt ?_)
  refine ⟨fun a h => ?_⟩
  exact ow_ret1 rfl h.df (h.g 2 rfl) ⟨by (try unfold Mq.noB); simp [hb_7, hb_8], b6⟩
def Mq.eqB (m m2 : Mq) : Bool := ((((((((((((((((((((m.k == m2.k) && (m.cl.toList == m2.cl.toList)) && (m.clean == m2.clean)) && (m.keep == m2.keep)) && ((m.wI == m2.wI) && (m.wT.toList == m2.wT.toList) && (m.wP.toList == m2.wP.toList) && (m.wQ == m2.wQ) && (m.wR == m2.wR))) && (m.us.toList == m2.us.toList)) && (m.hu == m2.hu)) && (m.pa.toList == m2.pa.toList)) && (m.hp == m2.hp)) && (m.pres == m2.pres)) && (m.code == m2.code)) && (decide (m.cs = m2.cs))) && (m.dup == m2.dup)) && (m.q == m2.q)) && (m.re == m2.re)) && (m.top.toList == m2.top.toList)) && (m.id == m2.id)) && (m.pay.toList == m2.pay.toList)) && (decide (m.ws = m2.ws))) && (decide (m.fs = m2.fs)))
set_option maxRecDepth 100000 in
set_option maxHeartbeats 4000000 in
theorem eqMq_any (m m2 : Mq) (vc vw vf vc2 vw2 vf2 : Value) (w : World) (hL : m.Lists w vc vw vf) (hL2 : m2.Lists w vc2 vw2 vf2) (hc : m.cs.length ≤ 1000000) (hw : m.ws.length ≤ 1000000) (hf : m.fs.length ≤ 1000000) (hc2 : m2.cs.length ≤ 1000000) (hw2 : m2.ws.length ≤ 1000000) (hf2 : m2.fs.length ≤ 1000000) :
    Calls Tryd.prog 19 #[m.val vc vw vf, m2.val vc2 vw2 vf2] w fun e w' => e = .returned (.bool (m.eqB m2)) ∧ Below w.heap.size w w' := by
  have hb0 := Below.refl w.heap.size w
  obtain ⟨⟨ac, cc, rfl, -⟩, ⟨aw, cw, rfl, -⟩, ⟨af, cf, rfl, -⟩⟩ := id hL
  rw [List.length_map, List.length_map, List.length_map] at hL ⊢
  obtain ⟨⟨ac2, cc2, rfl, -⟩, ⟨aw2, cw2, rfl, -⟩, ⟨af2, cf2, rfl, -⟩⟩ := id hL2
  rw [List.length_map, List.length_map, List.length_map] at hL2 ⊢
  refine fw_en 143 [(0, .agg (Mq.row m (.slice ac m.cs.length cc) (.slice aw m.ws.length cw) (.slice af m.fs.length cf)).toArray), (1, .agg (Mq.row m2 (.slice ac2 m2.cs.length cc2) (.slice aw2 m2.ws.length cw2) (.slice af2 m2.fs.length cf2)).toArray)] Tryd.func19 rfl Tryd.ntmps19 rfl ⟨rfl, rfl, trivial⟩ ?_
  refine fw_sq (fw_rg rfl (fw_bx rfl (cs := [.int .i64 m.k, .string m.cl, .bool m.clean, .int .i64 m.keep, .bool m.wI, .string m.wT, .string m.wP, .int .i64 m.wQ, .bool m.wR, .string m.us, .bool m.hu, .string m.pa, .bool m.hp, .bool m.pres, .int .i64 m.code, .slice ac m.cs.length cc, .bool m.dup, .int .i64 m.q, .bool m.re, .string m.top, .int .i64 m.id, .string m.pay, .slice aw m.ws.length cw, .slice af m.fs.length cf]) rfl ?_))
  intro q1 W2 g5 s3 r4
  have := Nat.le_trans hb0.size g5
  have b6 := hb0.trans (s3.mono hb0.size)
  refine fw_bx rfl (cs := [.int .i64 m2.k, .string m2.cl, .bool m2.clean, .int .i64 m2.keep, .bool m2.wI, .string m2.wT, .string m2.wP, .int .i64 m2.wQ, .bool m2.wR, .string m2.us, .bool m2.hu, .string m2.pa, .bool m2.hp, .bool m2.pres, .int .i64 m2.code, .slice ac2 m2.cs.length cc2, .bool m2.dup, .int .i64 m2.q, .bool m2.re, .string m2.top, .int .i64 m2.id, .string m2.pay, .slice aw2 m2.ws.length cw2, .slice af2 m2.fs.length cf2]) rfl ?_
  intro q7 W8 g11 s9 r10
  have := Nat.le_trans b6.size g11
  have := r4.lt g11
  have b12 := b6.trans (s9.mono b6.size)
  have r13 := r4.below s9
  refine fw_pu rfl (fw_dt (fw_sq (fw_rg rfl (fw_pu rfl (fw_ld r13 rfl rfl (fw_pu rfl (fw_ld r10 rfl rfl ?_)))))))
  iterate 2 refine fw_pu rfl ?_
  rcases bool_or ((m.k == m2.k)) with hb_14 | hb_14
  · skip
    refine fw_kn 10 rfl hb_14 ?_
    iterate 133 refine fw_pu rfl ?_
    refine fw_dt (fw_rt ?_)
    refine ⟨fun a h => ?_⟩
    exact ow_ret1 rfl h.df (h.g 4 rfl) ⟨by (try unfold Mq.eqB); simp [hb_14], b12⟩
  refine fw_kn 10 rfl hb_14 (fw_pu rfl (fw_ld r13 rfl rfl (fw_pu rfl (fw_ld r10 rfl rfl (fw_ex 15 (.bool (m.cl.toList == m2.cl.toList)) rfl rfl rfl (fun a h => (run_binOp (h.ev rfl) (h.ev rfl) (eqStr _ _ _ _ _) (strEq _ _ _))) ?_)))))
  iterate 2 refine fw_pu rfl ?_
  rcases bool_or ((m.cl.toList == m2.cl.toList)) with hb_15 | hb_15
  · skip
    refine fw_kn 17 rfl hb_15 ?_
    iterate 126 refine fw_pu rfl ?_
    refine fw_dt (fw_rt ?_)
    refine ⟨fun a h => ?_⟩
    exact ow_ret1 rfl h.df (h.g 4 rfl) ⟨by (try unfold Mq.eqB); simp [hb_14, hb_15], b12⟩
  refine fw_kn 17 rfl hb_15 (fw_pu rfl (fw_ld r13 rfl rfl (fw_pu rfl (fw_ld r10 rfl rfl (fw_ex 22 (.bool (m.clean == m2.clean)) rfl rfl rfl (fun a h => (run_binOp (h.ev rfl) (h.ev rfl) (eqBool _ _ _ _ _) (boolEq _ _ _))) ?_)))))
  iterate 2 refine fw_pu rfl ?_
  rcases bool_or ((m.clean == m2.clean)) with hb_16 | hb_16
  · skip
    refine fw_kn 24 rfl hb_16 ?_
    iterate 119 refine fw_pu rfl ?_
    refine fw_dt (fw_rt ?_)
    refine ⟨fun a h => ?_⟩
    exact ow_ret1 rfl h.df (h.g 4 rfl) ⟨by (try unfold Mq.eqB); simp [hb_14, hb_15, hb_16], b12⟩
  refine fw_kn 24 rfl hb_16 (fw_pu rfl (fw_ld r13 rfl rfl (fw_pu rfl (fw_ld r10 rfl rfl ?_))))
  iterate 3 refine fw_pu rfl ?_
  rcases bool_or ((m.keep == m2.keep)) with hb_17 | hb_17
  · skip
    refine fw_kn 31 rfl hb_17 ?_
    iterate 112 refine fw_pu rfl ?_
    refine fw_dt (fw_rt ?_)
    refine ⟨fun a h => ?_⟩
    exact ow_ret1 rfl h.df (h.g 4 rfl) ⟨by (try unfold Mq.eqB); simp [hb_14, hb_15, hb_16, hb_17], b12⟩
  refine fw_kn 31 rfl hb_17 (fw_pu rfl (fw_ld r13 rfl rfl (fw_pu rfl (fw_ld r10 rfl rfl (fw_ex 36 (.bool ((m.wI == m2.wI) && (m.wT.toList == m2.wT.toList) && (m.wP.toList == m2.wP.toList) && (m.wQ == m2.wQ) && (m.wR == m2.wR))) rfl rfl rfl (fun a h => (run_binOp (h.ev rfl) (h.ev rfl) (eqWill _ _ _ _ _) (willEq _ _ _ _ _ _ _ _ _ _ _))) ?_)))))
  iterate 2 refine fw_pu rfl ?_
  rcases bool_or (((m.wI == m2.wI) && (m.wT.toList == m2.wT.toList) && (m.wP.toList == m2.wP.toList) && (m.wQ == m2.wQ) && (m.wR == m2.wR))) with hb_18 | hb_18
  · skip
    refine fw_kn 38 rfl hb_18 ?_
    iterate 105 refine fw_pu rfl ?_
    refine fw_dt (fw_rt ?_)
    refine ⟨fun a h => ?_⟩
    exact ow_ret1 rfl h.df (h.g 4 rfl) ⟨by (try unfold Mq.eqB); simp [hb_14, hb_15, hb_16, hb_17, hb_18], b12⟩
  refine fw_kn 38 rfl hb_18 (fw_pu rfl (fw_ld r13 rfl rfl (fw_pu rfl (fw_ld r10 rfl rfl (fw_ex 43 (.bool (m.us.toList == m2.us.toList)) rfl rfl rfl (fun a h => (run_binOp (h.ev rfl) (h.ev rfl) (eqStr _ _ _ _ _) (strEq _ _ _))) ?_)))))
  iterate 2 refine fw_pu rfl ?_
  rcases bool_or ((m.us.toList == m2.us.toList)) with hb_19 | hb_19
  · skip
    refine fw_kn 45 rfl hb_19 ?_
    iterate 98 refine fw_pu rfl ?_
    refine fw_dt (fw_rt ?_)
    refine ⟨fun a h => ?_⟩
    exact ow_ret1 rfl h.df (h.g 4 rfl) ⟨by (try unfold Mq.eqB); simp [hb_14, hb_15, hb_16, hb_17, hb_18, hb_19], b12⟩
  refine fw_kn 45 rfl hb_19 (fw_pu rfl (fw_ld r13 rfl rfl (fw_pu rfl (fw_ld r10 rfl rfl (fw_ex 50 (.bool (m.hu == m2.hu)) rfl rfl rfl (fun a h => (run_binOp (h.ev rfl) (h.ev rfl) (eqBool _ _ _ _ _) (boolEq _ _ _))) ?_)))))
  iterate 2 refine fw_pu rfl ?_
  rcases bool_or ((m.hu == m2.hu)) with hb_20 | hb_20
  · skip
    refine fw_kn 52 rfl hb_20 ?_
    iterate 91 refine fw_pu rfl ?_
    refine fw_dt (fw_rt ?_)
    refine ⟨fun a h => ?_⟩
    exact ow_ret1 rfl h.df (h.g 4 rfl) ⟨by (try unfold Mq.eqB); simp [hb_14, hb_15, hb_16, hb_17, hb_18, hb_19, hb_20], b12⟩
  refine fw_kn 52 rfl hb_20 (fw_pu rfl (fw_ld r13 rfl rfl (fw_pu rfl (fw_ld r10 rfl rfl (fw_ex 57 (.bool (m.pa.toList == m2.pa.toList)) rfl rfl rfl (fun a h => (run_binOp (h.ev rfl) (h.ev rfl) (eqStr _ _ _ _ _) (strEq _ _ _))) ?_)))))
  iterate 2 refine fw_pu rfl ?_
  rcases bool_or ((m.pa.toList == m2.pa.toList)) with hb_21 | hb_21
  · skip
    refine fw_kn 59 rfl hb_21 ?_
    iterate 84 refine fw_pu rfl ?_
    refine fw_dt (fw_rt ?_)
    refine ⟨fun a h => ?_⟩
    exact ow_ret1 rfl h.df (h.g 4 rfl) ⟨by (try unfold Mq.eqB); simp [hb_14, hb_15, hb_16, hb_17, hb_18, hb_19, hb_20, hb_21], b12⟩
  refine fw_kn 59 rfl hb_21 (fw_pu rfl (fw_ld r13 rfl rfl (fw_pu rfl (fw_ld r10 rfl rfl (fw_ex 64 (.bool (m.hp == m2.hp)) rfl rfl rfl (fun a h => (run_binOp (h.ev rfl) (h.ev rfl) (eqBool _ _ _ _ _) (boolEq _ _ _))) ?_)))))
  iterate 2 refine fw_pu rfl ?_
  rcases bool_or ((m.hp == m2.hp)) with hb_22 | hb_22
  · skip
    refine fw_kn 66 rfl hb_22 ?_
    iterate 77 refine fw_pu rfl ?_
    refine fw_dt (fw_rt ?_)
    refine ⟨fun a h => ?_⟩
    exact ow_ret1 rfl h.df (h.g 4 rfl) ⟨by (try unfold Mq.eqB); simp [hb_14, hb_15, hb_16, hb_17, hb_18, hb_19, hb_20, hb_21, hb_22], b12⟩
  refine fw_kn 66 rfl hb_22 (fw_pu rfl (fw_ld r13 rfl rfl (fw_pu rfl (fw_ld r10 rfl rfl (fw_ex 71 (.bool (m.pres == m2.pres)) rfl rfl rfl (fun a h => (run_binOp (h.ev rfl) (h.ev rfl) (eqBool _ _ _ _ _) (boolEq _ _ _))) ?_)))))
  iterate 2 refine fw_pu rfl ?_
  rcases bool_or ((m.pres == m2.pres)) with hb_23 | hb_23
  · skip
    refine fw_kn 73 rfl hb_23 ?_
    iterate 70 refine fw_pu rfl ?_
    refine fw_dt (fw_rt ?_)
    refine ⟨fun a h => ?_⟩
    exact ow_ret1 rfl h.df (h.g 4 rfl) ⟨by (try unfold Mq.eqB); simp [hb_14, hb_15, hb_16, hb_17, hb_18, hb_19, hb_20, hb_21, hb_22, hb_23], b12⟩
  refine fw_kn 73 rfl hb_23 (fw_pu rfl (fw_ld r13 rfl rfl (fw_pu rfl (fw_ld r10 rfl rfl ?_))))
  iterate 3 refine fw_pu rfl ?_
  rcases bool_or ((m.code == m2.code)) with hb_24 | hb_24
  · skip
    refine fw_kn 80 rfl hb_24 ?_
    iterate 63 refine fw_pu rfl ?_
    refine fw_dt (fw_rt ?_)
    refine ⟨fun a h => ?_⟩
    exact ow_ret1 rfl h.df (h.g 4 rfl) ⟨by (try unfold Mq.eqB); simp [hb_14, hb_15, hb_16, hb_17, hb_18, hb_19, hb_20, hb_21, hb_22, hb_23, hb_24], b12⟩
  refine fw_kn 80 rfl hb_24 (fw_pu rfl (fw_ld r13 rfl rfl (fw_pu rfl (fw_ld r10 rfl rfl ?_))))
  refine fw_ca Tryd.func41 rfl rfl rfl ((eqNumbers_any _ _ _ _ W8 hc hc2 (hL.below b12).c (hL2.below b12).c).mono fun e X h => (show e = .returned (.bool (decide (m.cs = m2.cs))) ∧ Below W8.heap.size W8 X from ⟨h.1, by obtain ⟨n, rfl⟩ := h.2; exact bdrew (Below.refl _ _) n⟩)) ?_
  rintro _ V26 ⟨rfl, hb25⟩
  refine ⟨(.bool (decide (m.cs = m2.cs))), rfl, ?_⟩
  have b27 := b12.trans (hb25.mono b12.size)
  have r28 := r13.below hb25
  have r29 := r10.below hb25
  iterate 2 refine fw_pu rfl ?_
  rcases bool_or ((decide (m.cs = m2.cs))) with hb_30 | hb_30
  · skip
    refine fw_kn 87 rfl hb_30 ?_
    iterate 56 refine fw_pu rfl ?_
    refine fw_dt (fw_rt ?_)
    refine ⟨fun a h => ?_⟩
    exact ow_ret1 rfl h.df (h.g 4 rfl) ⟨by (try unfold Mq.eqB); simp [hb_14, hb_15, hb_16, hb_17, hb_18, hb_19, hb_20, hb_21, hb_22, hb_23, hb_24, hb_30], b27⟩
  refine fw_kn 87 rfl hb_30 (fw_pu rfl (fw_ld r28 rfl rfl (fw_pu rfl (fw_ld r29 rfl rfl (fw_ex 92 (.bool (m.dup == m2.dup)) rfl rfl rfl (fun a h => (run_binOp (h.ev rfl) (h.ev rfl) (eqBool _ _ _ _ _) (boolEq _ _ _))) ?_)))))
  iterate 2 refine fw_pu rfl ?_
  rcases bool_or ((m.dup == m2.dup)) with hb_31 | hb_31
  · skip
    refine fw_kn 94 rfl hb_31 ?_
    iterate 49 refine fw_pu rfl ?_
    refine fw_dt (fw_rt ?_)
    refine ⟨fun a h => ?_⟩
    exact ow_ret1 rfl h.df (h.g 4 rfl) ⟨by (try unfold Mq.eqB); simp [hb_14, hb_15, hb_16, hb_17, hb_18, hb_19, hb_20, hb_21, hb_22, hb_23, hb_24, hb_30, hb_31], b27⟩
  refine fw_kn 94 rfl hb_31 (fw_pu rfl (fw_ld r28 rfl rfl (fw_pu rfl (fw_ld r29 rfl rfl ?_))))
  iterate 3 refine fw_pu rfl ?_
  rcases bool_or ((m.q == m2.q)) with hb_32 | hb_32
  · skip
    refine fw_kn 101 rfl hb_32 ?_
    iterate 42 refine fw_pu rfl ?_
    refine fw_dt (fw_rt ?_)
    refine ⟨fun a h => ?_⟩
    exact ow_ret1 rfl h.df (h.g 4 rfl) ⟨by (try unfold Mq.eqB); simp [hb_14, hb_15, hb_16, hb_17, hb_18, hb_19, hb_20, hb_21, hb_22, hb_23, hb_24, hb_30, hb_31, hb_32], b27⟩
  refine fw_kn 101 rfl hb_32 (fw_pu rfl (fw_ld r28 rfl rfl (fw_pu rfl (fw_ld r29 rfl rfl (fw_ex 106 (.bool (m.re == m2.re)) rfl rfl rfl (fun a h => (run_binOp (h.ev rfl) (h.ev rfl) (eqBool _ _ _ _ _) (boolEq _ _ _))) ?_)))))
  iterate 2 refine fw_pu rfl ?_
  rcases bool_or ((m.re == m2.re)) with hb_33 | hb_33
  · skip
    refine fw_kn 108 rfl hb_33 ?_
    iterate 35 refine fw_pu rfl ?_
    refine fw_dt (fw_rt ?_)
    refine ⟨fun a h => ?_⟩
    exact ow_ret1 rfl h.df (h.g 4 rfl) ⟨by (try unfold Mq.eqB); simp [hb_14, hb_15, hb_16, hb_17, hb_18, hb_19, hb_20, hb_21, hb_22, hb_23, hb_24, hb_30, hb_31, hb_32, hb_33], b27⟩
  refine fw_kn 108 rfl hb_33 (fw_pu rfl (fw_ld r28 rfl rfl (fw_pu rfl (fw_ld r29 rfl rfl (fw_ex 113 (.bool (m.top.toList == m2.top.toList)) rfl rfl rfl (fun a h => (run_binOp (h.ev rfl) (h.ev rfl) (eqStr _ _ _ _ _) (strEq _ _ _))) ?_)))))
  iterate 2 refine fw_pu rfl ?_
  rcases bool_or ((m.top.toList == m2.top.toList)) with hb_34 | hb_34
  · skip
    refine fw_kn 115 rfl hb_34 ?_
    iterate 28 refine fw_pu rfl ?_
    refine fw_dt (fw_rt ?_)
    refine ⟨fun a h => ?_⟩
    exact ow_ret1 rfl h.df (h.g 4 rfl) ⟨by (try unfold Mq.eqB); simp [hb_14, hb_15, hb_16, hb_17, hb_18, hb_19, hb_20, hb_21, hb_22, hb_23, hb_24, hb_30, hb_31, hb_32, hb_33, hb_34], b27⟩
  refine fw_kn 115 rfl hb_34 (fw_pu rfl (fw_ld r28 rfl rfl (fw_pu rfl (fw_ld r29 rfl rfl ?_))))
  iterate 3 refine fw_pu rfl ?_
  rcases bool_or ((m.id == m2.id)) with hb_35 | hb_35
  · skip
    refine fw_kn 122 rfl hb_35 ?_
    iterate 21 refine fw_pu rfl ?_
    refine fw_dt (fw_rt ?_)
    refine ⟨fun a h => ?_⟩
    exact ow_ret1 rfl h.df (h.g 4 rfl) ⟨by (try unfold Mq.eqB); simp [hb_14, hb_15, hb_16, hb_17, hb_18, hb_19, hb_20, hb_21, hb_22, hb_23, hb_24, hb_30, hb_31, hb_32, hb_33, hb_34, hb_35], b27⟩
  refine fw_kn 122 rfl hb_35 (fw_pu rfl (fw_ld r28 rfl rfl (fw_pu rfl (fw_ld r29 rfl rfl (fw_ex 127 (.bool (m.pay.toList == m2.pay.toList)) rfl rfl rfl (fun a h => (run_binOp (h.ev rfl) (h.ev rfl) (eqStr _ _ _ _ _) (strEq _ _ _))) ?_)))))
  iterate 2 refine fw_pu rfl ?_
  rcases bool_or ((m.pay.toList == m2.pay.toList)) with hb_36 | hb_36
  · skip
    refine fw_kn 129 rfl hb_36 ?_
    iterate 14 refine fw_pu rfl ?_
    refine fw_dt (fw_rt ?_)
    refine ⟨fun a h => ?_⟩
    exact ow_ret1 rfl h.df (h.g 4 rfl) ⟨by (try unfold Mq.eqB); simp [hb_14, hb_15, hb_16, hb_17, hb_18, hb_19, hb_20, hb_21, hb_22, hb_23, hb_24, hb_30, hb_31, hb_32, hb_33, hb_34, hb_35, hb_36], b27⟩
  refine fw_kn 129 rfl hb_36 (fw_pu rfl (fw_ld r28 rfl rfl (fw_pu rfl (fw_ld r29 rfl rfl ?_))))
  refine fw_ca Tryd.func42 rfl rfl rfl ((eqWishes_any _ _ _ _ V26 hw hw2 (hL.below b27).w (hL2.below b27).w).mono fun e X h => (show e = .returned (.bool (decide (m.ws = m2.ws))) ∧ Below V26.heap.size V26 X from ⟨h.1, by obtain ⟨n, rfl⟩ := h.2; exact bdrew (Below.refl _ _) n⟩)) ?_
  rintro _ V38 ⟨rfl, hb37⟩
  refine ⟨(.bool (decide (m.ws = m2.ws))), rfl, ?_⟩
  have b39 := b27.trans (hb37.mono b27.size)
  have r40 := r28.below hb37
  have r41 := r29.below hb37
  iterate 2 refine fw_pu rfl ?_
  rcases bool_or ((decide (m.ws = m2.ws))) with hb_42 | hb_42
  · skip
    refine fw_kn 136 rfl hb_42 ?_
    iterate 7 refine fw_pu rfl ?_
    refine fw_dt (fw_rt ?_)
    refine ⟨fun a h => ?_⟩
    exact ow_ret1 rfl h.df (h.g 4 rfl) ⟨by (try unfold Mq.eqB); simp [hb_14, hb_15, hb_16, hb_17, hb_18, hb_19, hb_20, hb_21, hb_22, hb_23, hb_24, hb_30, hb_31, hb_32, hb_33, hb_34, hb_35, hb_36, hb_42], b39⟩
  refine fw_kn 136 rfl hb_42 (fw_pu rfl (fw_ld r40 rfl rfl (fw_pu rfl (fw_ld r41 rfl rfl ?_))))
  refine fw_ca Tryd.func43 rfl rfl rfl ((eqStrings_any _ _ _ _ V38 hf hf2 (hL.below b39).f (hL2.below b39).f).mono fun e X h => (show e = .returned (.bool (decide (m.fs = m2.fs))) ∧ Below V38.heap.size V38 X from ⟨h.1, by obtain ⟨n, rfl⟩ := h.2; exact bdrew (Below.refl _ _) n⟩)) ?_
  rintro _ V44 ⟨rfl, hb43⟩
  refine ⟨(.bool (decide (m.fs = m2.fs))), rfl, ?_⟩
  have b45 := b39.trans (hb43.mono b39.size)
  have r46 := r40.below hb43
  have r47 := r41.below hb43
  iterate 2 refine fw_pu rfl ?_
  refine fw_dt (fw_rt ?_)
  refine ⟨fun a h => ?_⟩
  exact ow_ret1 rfl h.df (h.g 4 rfl) ⟨by (try unfold Mq.eqB); simp [hb_14, hb_15, hb_16, hb_17, hb_18, hb_19, hb_20, hb_21, hb_22, hb_23, hb_24, hb_30, hb_31, hb_32, hb_33, hb_34, hb_35, hb_36, hb_42], b45⟩
end
end Go.Proofs.YtpgnlhfokffioaaDoor
namespace Go.Proofs
section
open Go.Shelf
def Tryd.laysContains_ren : Go.Shelf.Ren := ⟨fun | 144 => 100 | 143 => 102 | 219 => 104 | 217 => 109 | 225 => 110 | 224 => 111 | 267 => 112 | 266 => 115 | 314 => 116 | n => n, fun | 9 => 9 | 4 => 4 | 3 => 3 | 5 => 5 | 46 => 83 | 146 => 136 | 51 => 135 | n => n, fun | 1 => 2 | n => n⟩
theorem Tryd.laysContains : Go.Proofs.Lays.n144 Tryd.prog Tryd.laysContains_ren := {
  mixed := by kernel_rfl
  f143 := Tryd.func102.trans (congrArg some (by kernel_rfl))
  f144 := Tryd.func100.trans (congrArg some (by kernel_rfl))
  f217 := Tryd.func109.trans (congrArg some (by kernel_rfl))
  f219 := Tryd.func104.trans (congrArg some (by kernel_rfl))
  f224 := Tryd.func111.trans (congrArg some (by kernel_rfl))
  f225 := Tryd.func110.trans (congrArg some (by kernel_rfl))
  f266 := Tryd.func115.trans (congrArg some (by kernel_rfl))
  f267 := Tryd.func112.trans (congrArg some (by kernel_rfl))
  f314 := Tryd.func116.trans (congrArg some (by kernel_rfl))
  t3 := Tryd.underlying3
  a3 := Tryd.isAgg3
  z3 := Tryd.sizeOf3
  v3 := Tryd.zeroValue3
  t4 := Tryd.underlying4
  a4 := Tryd.isAgg4
  z4 := Tryd.sizeOf4
  v4 := Tryd.zeroValue4
  t5 := Tryd.underlying5
  a5 := Tryd.isAgg5
  z5 := Tryd.sizeOf5
  v5 := Tryd.zeroValue5
  t9 := Tryd.underlying9
  a9 := Tryd.isAgg9
  z9 := Tryd.sizeOf9
  v9 := Tryd.zeroValue9
  t46 := Tryd.underlying83
  a46 := Tryd.isAgg83
  z46 := Tryd.sizeOf83
  v46 := Tryd.zeroValue83
  t51 := Tryd.underlying135
  a51 := Tryd.isAgg135
  z51 := Tryd.sizeOf135
  v51 := Tryd.zeroValue135
  t146 := Tryd.underlying136
  a146 := Tryd.isAgg136
  z146 := Tryd.sizeOf136
  v146 := Tryd.zeroValue136
  g1 := by kernel_rfl }
def Tryd.laysIndexAny_ren : Go.Shelf.Ren := ⟨fun | 153 => 103 | 152 => 105 | 226 => 106 | 227 => 107 | 228 => 108 | 137 => 113 | 119 => 114 | 224 => 111 | 225 => 110 | 217 => 109 | 266 => 115 | n => n, fun | 9 => 9 | 3 => 3 | 4 => 4 | 5 => 5 | 21 => 21 | 117 => 129 | 116 => 128 | 0 => 0 | 46 => 83 | 124 => 134 | n => n, fun | n => n⟩
theorem Tryd.laysIndexAny : Go.Proofs.Lays.n153 Tryd.prog Tryd.laysIndexAny_ren := {
  mixed := by kernel_rfl
  f119 := Tryd.func114.trans (congrArg some (by kernel_rfl))
  f137 := Tryd.func113.trans (congrArg some (by kernel_rfl))
  f152 := Tryd.func105.trans (congrArg some (by kernel_rfl))
  f153 := Tryd.func103.trans (congrArg some (by kernel_rfl))
  f217 := Tryd.func109.trans (congrArg some (by kernel_rfl))
  f224 := Tryd.func111.trans (congrArg some (by kernel_rfl))
  f225 := Tryd.func110.trans (congrArg some (by kernel_rfl))
  f226 := Tryd.func106.trans (congrArg some (by kernel_rfl))
  f227 := Tryd.func107.trans (congrArg some (by kernel_rfl))
  f228 := Tryd.func108.trans (congrArg some (by kernel_rfl))
  f266 := Tryd.func115.trans (congrArg some (by kernel_rfl))
  t0 := Tryd.underlying0
  a0 := Tryd.isAgg0
  z0 := Tryd.sizeOf0
  v0 := Tryd.zeroValue0
  t3 := Tryd.underlying3
  a3 := Tryd.isAgg3
  z3 := Tryd.sizeOf3
  v3 := Tryd.zeroValue3
  t4 := Tryd.underlying4
  a4 := Tryd.isAgg4
  z4 := Tryd.sizeOf4
  v4 := Tryd.zeroValue4
  t5 := Tryd.underlying5
  a5 := Tryd.isAgg5
  z5 := Tryd.sizeOf5
  v5 := Tryd.zeroValue5
  t9 := Tryd.underlying9
  a9 := Tryd.isAgg9
  z9 := Tryd.sizeOf9
  v9 := Tryd.zeroValue9
  t21 := Tryd.underlying21
  a21 := Tryd.isAgg21
  z21 := Tryd.sizeOf21
  v21 := Tryd.zeroValue21
  t46 := Tryd.underlying83
  a46 := Tryd.isAgg83
  z46 := Tryd.sizeOf83
  v46 := Tryd.zeroValue83
  t116 := Tryd.underlying128
  a116 := Tryd.isAgg128
  z116 := Tryd.sizeOf128
  t117 := Tryd.underlying129
  a117 := Tryd.isAgg129
  z117 := Tryd.sizeOf129
  v117 := Tryd.zeroValue129
  t124 := Tryd.underlying134
  a124 := Tryd.isAgg134
  z124 := Tryd.sizeOf134
  v124 := Tryd.zeroValue134 }
def Tryd.laysContainsAny_ren : Go.Shelf.Ren := ⟨fun | 150 => 101 | 153 => 103 | 152 => 105 | 226 => 106 | 227 => 107 | 228 => 108 | 137 => 113 | 119 => 114 | 224 => 111 | 225 => 110 | 217 => 109 | 266 => 115 | n => n, fun | 9 => 9 | 4 => 4 | 3 => 3 | 5 => 5 | 21 => 21 | 117 => 129 | 116 => 128 | 0 => 0 | 46 => 83 | 124 => 134 | n => n, fun | n => n⟩
theorem Tryd.laysContainsAny : Go.Proofs.Lays.n150 Tryd.prog Tryd.laysContainsAny_ren := {
  mixed := by kernel_rfl
  f119 := Tryd.func114.trans (congrArg some (by kernel_rfl))
  f137 := Tryd.func113.trans (congrArg some (by kernel_rfl))
  f150 := Tryd.func101.trans (congrArg some (by kernel_rfl))
  f152 := Tryd.func105.trans (congrArg some (by kernel_rfl))
  f153 := Tryd.func103.trans (congrArg some (by kernel_rfl))
  f217 := Tryd.func109.trans (congrArg some (by kernel_rfl))
  f224 := Tryd.func111.trans (congrArg some (by kernel_rfl))
  f225 := Tryd.func110.trans (congrArg some (by kernel_rfl))
  f226 := Tryd.func106.trans (congrArg some (by kernel_rfl))
  f227 := Tryd.func107.trans (congrArg some (by kernel_rfl))
  f228 := Tryd.func108.trans (congrArg some (by kernel_rfl))
  f266 := Tryd.func115.trans (congrArg some (by kernel_rfl))
  t0 := Tryd.underlying0
  a0 := Tryd.isAgg0
  z0 := Tryd.sizeOf0
  v0 := Tryd.zeroValue0
  t3 := Tryd.underlying3
  a3 := Tryd.isAgg3
  z3 := Tryd.sizeOf3
  v3 := Tryd.zeroValue3
  t4 := Tryd.underlying4
  a4 := Tryd.isAgg4
  z4 := Tryd.sizeOf4
  v4 := Tryd.zeroValue4
  t5 := Tryd.underlying5
  a5 := Tryd.isAgg5
  z5 := Tryd.sizeOf5
  v5 := Tryd.zeroValue5
  t9 := Tryd.underlying9
  a9 := Tryd.isAgg9
  z9 := Tryd.sizeOf9
  v9 := Tryd.zeroValue9
  t21 := Tryd.underlying21
  a21 := Tryd.isAgg21
  z21 := Tryd.sizeOf21
  v21 := Tryd.zeroValue21
  t46 := Tryd.underlying83
  a46 := Tryd.isAgg83
  z46 := Tryd.sizeOf83
  v46 := Tryd.zeroValue83
  t116 := Tryd.underlying128
  a116 := Tryd.isAgg128
  z116 := Tryd.sizeOf128
  t117 := Tryd.underlying129
  a117 := Tryd.isAgg129
  z117 := Tryd.sizeOf129
  v117 := Tryd.zeroValue129
  t124 := Tryd.underlying134
  a124 := Tryd.isAgg134
  z124 := Tryd.sizeOf134
  v124 := Tryd.zeroValue134 }
def Tryd.laysIndexByte_ren : Go.Shelf.Ren := ⟨fun | 137 => 113 | 217 => 109 | 266 => 115 | n => n, fun | 9 => 9 | 5 => 5 | 3 => 3 | n => n, fun | n => n⟩
theorem Tryd.laysIndexByte : Go.Proofs.Lays.n137 Tryd.prog Tryd.laysIndexByte_ren := {
  mixed := by kernel_rfl
  f137 := Tryd.func113.trans (congrArg some (by kernel_rfl))
  f217 := Tryd.func109.trans (congrArg some (by kernel_rfl))
  f266 := Tryd.func115.trans (congrArg some (by kernel_rfl))
  t3 := Tryd.underlying3
  a3 := Tryd.isAgg3
  z3 := Tryd.sizeOf3
  v3 := Tryd.zeroValue3
  t5 := Tryd.underlying5
  a5 := Tryd.isAgg5
  z5 := Tryd.sizeOf5
  v5 := Tryd.zeroValue5
  t9 := Tryd.underlying9
  a9 := Tryd.isAgg9
  z9 := Tryd.sizeOf9
  v9 := Tryd.zeroValue9 }
def Tryd.laysValid_ren : Go.Shelf.Ren := ⟨fun | 196 => 78 | 259 => 95 | n => n, fun | 9 => 9 | 4 => 4 | 3 => 3 | 5 => 5 | 12 => 12 | 119 => 119 | 0 => 0 | 46 => 83 | 139 => 122 | 138 => 121 | 53 => 123 | n => n, fun | 3 => 0 | 4 => 1 | n => n⟩
theorem Tryd.laysValid : Go.Proofs.Lays.n196 Tryd.prog Tryd.laysValid_ren := {
  mixed := by kernel_rfl
  f196 := Tryd.func78.trans (congrArg some (by kernel_rfl))
  f259 := Tryd.func95.trans (congrArg some (by kernel_rfl))
  t0 := Tryd.underlying0
  a0 := Tryd.isAgg0
  z0 := Tryd.sizeOf0
  v0 := Tryd.zeroValue0
  t3 := Tryd.underlying3
  a3 := Tryd.isAgg3
  z3 := Tryd.sizeOf3
  v3 := Tryd.zeroValue3
  t4 := Tryd.underlying4
  a4 := Tryd.isAgg4
  z4 := Tryd.sizeOf4
  v4 := Tryd.zeroValue4
  t5 := Tryd.underlying5
  a5 := Tryd.isAgg5
  z5 := Tryd.sizeOf5
  v5 := Tryd.zeroValue5
  t9 := Tryd.underlying9
  a9 := Tryd.isAgg9
  z9 := Tryd.sizeOf9
  v9 := Tryd.zeroValue9
  t12 := Tryd.underlying12
  a12 := Tryd.isAgg12
  z12 := Tryd.sizeOf12
  v12 := Tryd.zeroValue12
  t46 := Tryd.underlying83
  a46 := Tryd.isAgg83
  z46 := Tryd.sizeOf83
  v46 := Tryd.zeroValue83
  t53 := Tryd.underlying123
  a53 := Tryd.isAgg123
  z53 := Tryd.sizeOf123
  v53 := Tryd.zeroValue123
  t119 := Tryd.underlying119
  a119 := Tryd.isAgg119
  z119 := Tryd.sizeOf119
  t138 := Tryd.underlying121
  a138 := Tryd.isAgg121
  z138 := Tryd.sizeOf121
  v138 := Tryd.zeroValue121
  t139 := Tryd.underlying122
  a139 := Tryd.isAgg122
  z139 := Tryd.sizeOf122
  v139 := Tryd.zeroValue122
  g3 := by kernel_rfl
  g4 := by kernel_rfl }
end
end Go.Proofs
namespace Go.Proofs.YtpgnlhfokffioaaDoor
section
open Go.RowKit Go.Shelf Go.Lib
set_option maxRecDepth 100000 in
set_option maxHeartbeats 4000000 in
theorem ir_two_lo (r : Int) (w : World) (h0 : 128 ≤ r) (_he : ¬ r = 65533) (hq : r < 55296) (hval : Utf8.valid r = true) (hsz : (Utf8.encode r).size = 2) :
    Calls Tryd.prog 105 #[.string ⟨#[43, 35]⟩, .int .i32 r] w fun e w' => e = .returned (.int .i64 (-1)) ∧ Below w.heap.size w w' := by
  obtain ⟨hs2, hs4, hlast⟩ := encode_facts r hval h0
  have hC := Lib.hid (fun (t : ByteArray) (c : Int) (w : World) => (show Calls Tryd.prog 113 #[.string t, .int .u8 c] w _ from Any.strings_IndexByte Tryd.laysIndexByte t c w))
  obtain ⟨e, hee⟩ : ∃ e, Utf8.encode r = e := ⟨_, rfl⟩
  rw [hee] at hs2 hs4 hlast
  obtain ⟨la, hla⟩ : ∃ la : Nat, e.size = la + 1 := ⟨e.size - 1, by omega⟩
  have hlz : (e.size : Int) - 1 = (la : Int) := by omega
  rw [hee] at hsz
  obtain rfl : la = 1 := by omega
  have hx := hlast (by omega)
  obtain ⟨x, hxe⟩ : ∃ x, e[e.size - 1]'(by omega) = x := ⟨_, rfl⟩
  have hg1 : e.get! 1 = x := by
    rw [← hxe, Utf8W.get!_of_lt e 1 (by omega)]
    congr 1
    omega
  rw [hxe] at hx
  have hx1 : e[1]'(by omega) = x := by rw [← hg1]; exact (Utf8W.get!_of_lt e 1 (by omega)).symm
  have hne : (((((⟨#[43, 35]⟩ : ByteArray)[1]'(by decide)).toNat : Nat) : Int) != (((e[1]'(by omega)).toNat : Nat) : Int)) = true := by
    rw [bne_iff_ne, hx1]
    have h35 : ((⟨#[43, 35]⟩ : ByteArray)[1]'(by decide)).toNat = 35 := rfl
    rw [h35]; omega
  have hw2 : 0 ≤ IntKind.i64.wrap 2 ∧ IntKind.i64.wrap 2 ≤ 2 := by decide
  have HIB := Lib.hid (fun W => (show Calls Tryd.prog 113 #[.string ((⟨#[43, 35]⟩ : ByteArray).extract (IntKind.i64.wrap 2).toNat 2), .int .u8 x.toNat] W fun e w' => e = .returned (.int .i64 (-1)) ∧ W = w' from (hC.out ((⟨#[43, 35]⟩ : ByteArray).extract (IntKind.i64.wrap 2).toNat 2) x.toNat W).mono (fun _ _ h => ⟨h.1.trans rfl, h.2.symm⟩)))
  have h2e : (1 : Int) < (e.size : Int) := by omega
  have hes : e.size = 2 := by omega
  clear hlast hxe
  have n0 : ¬ (r < 128) := by omega
  go_enter Tryd.func105, Tryd.ntmps105
  go_wp2
  go_step3
  go_wp2
  go_loopw [9] (fun i wr => i = .int .i64 1 ∧ wr = w) (fun _ _ => 0)
  case atStart => exact ⟨by simp, rfl⟩
  case round =>
    obtain ⟨rfl, rfl⟩ := hrel
    go_wp2
    go_step3
    go_wp2_with (fail)
    go_region
    go_wp2_with (fail)
    rotate_left 1
    · first | exact absurd hne (by assumption) | (simp_all; done)
    go_quiet (first | (with_reducible exact quiet_eq2 (HIB.out _)))
    go_wp2
    all_goals
      simp (config := {zetaDelta := true, failIfUnchanged := false}) only [Exit.noGoto, Exit.inBlock, Exit.then]
      go_ret
      exact ⟨rfl, below_drewN (Below.refl _ _) _⟩
set_option maxRecDepth 100000 in
set_option maxHeartbeats 4000000 in
theorem ir_long_lo (r : Int) (w : World) (h0 : 128 ≤ r) (_he : ¬ r = 65533) (hq : r < 55296) (hval : Utf8.valid r = true) (hsz : 2 < (Utf8.encode r).size) :
    Calls Tryd.prog 105 #[.string ⟨#[43, 35]⟩, .int .i32 r] w fun e w' => e = .returned (.int .i64 (-1)) ∧ Below w.heap.size w w' := by
  obtain ⟨hs2, hs4, hlast⟩ := encode_facts r hval h0
  have hC := Lib.hid (fun (t : ByteArray) (c : Int) (w : World) => (show Calls Tryd.prog 113 #[.string t, .int .u8 c] w _ from Any.strings_IndexByte Tryd.laysIndexByte t c w))
  obtain ⟨e, hee⟩ : ∃ e, Utf8.encode r = e := ⟨_, rfl⟩
  rw [hee] at hs2 hs4 hlast
  obtain ⟨la, hla⟩ : ∃ la : Nat, e.size = la + 1 := ⟨e.size - 1, by omega⟩
  have hlz : (e.size : Int) - 1 = (la : Int) := by omega
  rw [hee] at hsz
  have hl3 : ¬ ((la : Int) < 2) := by omega
  have n0 : ¬ (r < 128) := by omega
  go_enter Tryd.func105, Tryd.ntmps105
  go_wp2
  go_step3
  go_wp2
  go_loopw [9] (fun i wr => i = .int .i64 la ∧ wr = w) (fun _ _ => 0)
  case atStart => exact ⟨by simp, rfl⟩
  case round =>
    obtain ⟨rfl, rfl⟩ := hrel
    go_wp2
    try rw [Exit.noGoto_ret]
    go_ret
    exact ⟨rfl, Below.refl _ _⟩
set_option maxRecDepth 100000 in
set_option maxHeartbeats 4000000 in
theorem ir_two_hi (r : Int) (w : World) (h0 : 128 ≤ r) (_he : ¬ r = 65533) (hq : 57343 < r) (h1 : r ≤ 1114111) (hval : Utf8.valid r = true) (hsz : (Utf8.encode r).size = 2) :
    Calls Tryd.prog 105 #[.string ⟨#[43, 35]⟩, .int .i32 r] w fun e w' => e = .returned (.int .i64 (-1)) ∧ Below w.heap.size w w' := by
  obtain ⟨hs2, hs4, hlast⟩ := encode_facts r hval h0
  have hC := Lib.hid (fun (t : ByteArray) (c : Int) (w : World) => (show Calls Tryd.prog 113 #[.string t, .int .u8 c] w _ from Any.strings_IndexByte Tryd.laysIndexByte t c w))
  obtain ⟨e, hee⟩ : ∃ e, Utf8.encode r = e := ⟨_, rfl⟩
  rw [hee] at hs2 hs4 hlast
  obtain ⟨la, hla⟩ : ∃ la : Nat, e.size = la + 1 := ⟨e.size - 1, by omega⟩
  have hlz : (e.size : Int) - 1 = (la : Int) := by omega
  rw [hee] at hsz
  obtain rfl : la = 1 := by omega
  have hx := hlast (by omega)
  obtain ⟨x, hxe⟩ : ∃ x, e[e.size - 1]'(by omega) = x := ⟨_, rfl⟩
  have hg1 : e.get! 1 = x := by
    rw [← hxe, Utf8W.get!_of_lt e 1 (by omega)]
    congr 1
    omega
  rw [hxe] at hx
  have hx1 : e[1]'(by omega) = x := by rw [← hg1]; exact (Utf8W.get!_of_lt e 1 (by omega)).symm
  have hne : (((((⟨#[43, 35]⟩ : ByteArray)[1]'(by decide)).toNat : Nat) : Int) != (((e[1]'(by omega)).toNat : Nat) : Int)) = true := by
    rw [bne_iff_ne, hx1]
    have h35 : ((⟨#[43, 35]⟩ : ByteArray)[1]'(by decide)).toNat = 35 := rfl
    rw [h35]; omega
  have hw2 : 0 ≤ IntKind.i64.wrap 2 ∧ IntKind.i64.wrap 2 ≤ 2 := by decide
  have HIB := Lib.hid (fun W => (show Calls Tryd.prog 113 #[.string ((⟨#[43, 35]⟩ : ByteArray).extract (IntKind.i64.wrap 2).toNat 2), .int .u8 x.toNat] W fun e w' => e = .returned (.int .i64 (-1)) ∧ W = w' from (hC.out ((⟨#[43, 35]⟩ : ByteArray).extract (IntKind.i64.wrap 2).toNat 2) x.toNat W).mono (fun _ _ h => ⟨h.1.trans rfl, h.2.symm⟩)))
  have h2e : (1 : Int) < (e.size : Int) := by omega
  have hes : e.size = 2 := by omega
  clear hlast hxe
  have n0 : ¬ (r < 128) := by omega
  go_enter Tryd.func105, Tryd.ntmps105
  go_wp2
  go_step3
  go_wp2
  go_loopw [9] (fun i wr => i = .int .i64 1 ∧ wr = w) (fun _ _ => 0)
  case atStart => exact ⟨by simp, rfl⟩
  case round =>
    obtain ⟨rfl, rfl⟩ := hrel
    go_wp2
    go_step3
    go_wp2_with (fail)
    go_region
    go_wp2_with (fail)
    rotate_left 1
    · first | exact absurd hne (by assumption) | (simp_all; done)
    go_quiet (first | (with_reducible exact quiet_eq2 (HIB.out _)))
    go_wp2
    all_goals
      simp (config := {zetaDelta := true, failIfUnchanged := false}) only [Exit.noGoto, Exit.inBlock, Exit.then]
      go_ret
      exact ⟨rfl, below_drewN (Below.refl _ _) _⟩
set_option maxRecDepth 100000 in
set_option maxHeartbeats 4000000 in
theorem ir_long_hi (r : Int) (w : World) (h0 : 128 ≤ r) (_he : ¬ r = 65533) (hq : 57343 < r) (h1 : r ≤ 1114111) (hval : Utf8.valid r = true) (hsz : 2 < (Utf8.encode r).size) :
    Calls Tryd.prog 105 #[.string ⟨#[43, 35]⟩, .int .i32 r] w fun e w' => e = .returned (.int .i64 (-1)) ∧ Below w.heap.size w w' := by
  obtain ⟨hs2, hs4, hlast⟩ := encode_facts r hval h0
  have hC := Lib.hid (fun (t : ByteArray) (c : Int) (w : World) => (show Calls Tryd.prog 113 #[.string t, .int .u8 c] w _ from Any.strings_IndexByte Tryd.laysIndexByte t c w))
  obtain ⟨e, hee⟩ : ∃ e, Utf8.encode r = e := ⟨_, rfl⟩
  rw [hee] at hs2 hs4 hlast
  obtain ⟨la, hla⟩ : ∃ la : Nat, e.size = la + 1 := ⟨e.size - 1, by omega⟩
  have hlz : (e.size : Int) - 1 = (la : Int) := by omega
  rw [hee] at hsz
  have hl3 : ¬ ((la : Int) < 2) := by omega
  have n0 : ¬ (r < 128) := by omega
  go_enter Tryd.func105, Tryd.ntmps105
  go_wp2
  go_step3
  go_wp2
  go_loopw [9] (fun i wr => i = .int .i64 la ∧ wr = w) (fun _ _ => 0)
  case atStart => exact ⟨by simp, rfl⟩
  case round =>
    obtain ⟨rfl, rfl⟩ := hrel
    go_wp2
    try rw [Exit.noGoto_ret]
    go_ret
    exact ⟨rfl, Below.refl _ _⟩
set_option maxRecDepth 100000 in
set_option maxHeartbeats 4000000 in
theorem ir_bad (r : Int) (w : World) (_he : ¬ r = 65533) (hv1 : ¬ (r < 55296)) (hv2 : ¬ (57343 < r)) :
    Calls Tryd.prog 105 #[.string ⟨#[43, 35]⟩, .int .i32 r] w fun e w' => e = .returned (.int .i64 (-1)) ∧ Below w.heap.size w w' := by
  have n0 : ¬ (r < 128) := by omega
  go_enter Tryd.func105, Tryd.ntmps105
  go_wp2
  go_ret
  exact ⟨rfl, Below.refl _ _⟩
set_option maxRecDepth 100000 in
set_option maxHeartbeats 4000000 in
theorem ir_big (r : Int) (w : World) (hv1 : ¬ (r < 55296)) (hv2 : 57343 < r) (h1 : ¬ r ≤ 1114111) :
    Calls Tryd.prog 105 #[.string ⟨#[43, 35]⟩, .int .i32 r] w fun e w' => e = .returned (.int .i64 (-1)) ∧ Below w.heap.size w w' := by
  have he : ¬ r = 65533 := by omega
  have n0 : ¬ (r < 128) := by omega
  go_enter Tryd.func105, Tryd.ntmps105
  go_wp2
  go_ret
  exact ⟨rfl, Below.refl _ _⟩
theorem _root_.Go.Below.iter (w : World) (s : ByteArray) (p : Nat) : Below w.heap.size w (w.iter s p) := by
  have := (Below.refl w.heap.size w).alloc (by omega) (o := .stringIter s p)
  exact this
set_option maxRecDepth 100000 in
set_option maxHeartbeats 4000000 in
theorem ir_err (w : World) :
    Calls Tryd.prog 105 #[.string ⟨#[43, 35]⟩, .int .i32 65533] w fun e w' => e = .returned (.int .i64 (-1)) ∧ Below w.heap.size w w' := by
  obtain ⟨s, hs⟩ : ∃ s : ByteArray, s = ⟨#[43, 35]⟩ := ⟨_, rfl⟩
  rw [← hs]
  have hsz : s.size = 2 := by rw [hs]; rfl
  have hb0 : (s[0]'(by omega)).toNat = 43 := by subst hs; rfl
  have hb1 : (s[1]'(by omega)).toNat = 35 := by subst hs; rfl
  clear hs
  have hn0 := fun ty => run_next_ascii (P := Tryd.prog) w s 0 ty (by omega) (by omega)
  have hn1 := fun ty => run_next_ascii (P := Tryd.prog) w s 1 ty (by omega) (by omega)
  have hn2 := run_next_end (P := Tryd.prog) w s 2
  rw [hb0] at hn0
  rw [hb1] at hn1
  go_enter Tryd.func105, Tryd.ntmps105
  go_wp2
  go_loopg [5, 6] 2 (fun g _ _ wx => ∃ i : Nat, i + g = 2 ∧ wx = w.iter s i)
  case atStart => exact ⟨0, by omega, rfl⟩
  case round =>
    obtain ⟨i, hig, rfl⟩ := hrel
    cases gk with
    | zero =>
      obtain rfl : i = 2 := by omega
      have hnx := run_next_end (P := Tryd.prog) w s 2
      have h22 : ¬ (2 < s.size) := by omega
      go_wp2
      go_ret
      exact ⟨rfl, Below.iter w s 2⟩
    | succ g =>
      have hi : i < s.size := by omega
      obtain ⟨x, hx⟩ : ∃ x : UInt8, s[i]'hi = x := ⟨_, rfl⟩
      have hx128 : x.toNat < 128 := by
        have : i = 0 ∨ i = 1 := by omega
        rcases this with rfl | rfl
        · rw [← hx, hb0]; omega
        · rw [← hx, hb1]; omega
      have hnx := fun ty => run_next_ascii (P := Tryd.prog) w s i ty hi (by rw [hx]; exact hx128)
      rw [hx] at hnx
      have hxn : (((x.toNat : Int)) == 65533) = false := beq_eq_false_iff_ne.2 (by omega)
      clear hx hb0 hb1 hn0 hn1 hn2
      go_wp2
      go_roundg g
      case measure => omega
      case rel => exact ⟨i + 1, by omega, rfl⟩
end
end Go.Proofs.YtpgnlhfokffioaaDoor
namespace Go.Proofs.YtpgnlhfokffioaaDoor
section
open Go.RowKit Go.Shelf Go.Lib
def putIter (w : World) (k : Nat) (s : ByteArray) (p : Nat) : World := { w with heap := w.heap.setIfInBounds k (.stringIter s p) }
theorem putIter_heap {w : World} {k : Nat} {s0 : ByteArray} {p0 : Nat} (h : w.heap[k]? = some (.stringIter s0 p0)) (s : ByteArray) (p : Nat) : (putIter w k s p).heap[k]? = some (.stringIter s p) := by
  have hk : k < w.heap.size := by
    rcases Nat.lt_or_ge k w.heap.size with h1 | h1
    · exact h1
    · rw [Array.getElem?_eq_none h1] at h; exact absurd h (by simp)
  show (w.heap.setIfInBounds k _)[k]? = _
  rw [Array.getElem?_setIfInBounds_self_of_lt hk]
theorem putIter_below {B : Nat} {a w : World} (h : Below B a w) {k : Nat} (hk : B ≤ k) (s : ByteArray) (p : Nat) : Below B a (putIter w k s p) := by
  refine h.trans ⟨rfl, rfl, rfl, ?_, ?_⟩
  · show w.heap.size ≤ (w.heap.setIfInBounds k _).size
    rw [Array.size_setIfInBounds]; exact Nat.le_refl _
  · intro i hi
    show (w.heap.setIfInBounds k _)[i]? = _
    rw [Array.getElem?_setIfInBounds_ne (by omega)]
theorem run_next_at {P : Program} {w : World} {k : Nat} {s : ByteArray} {pos : Nat} (hk : w.heap[k]? = some (.stringIter s pos)) (ty : TypeId) (h : pos < s.size) :
    (Instr.next (.pointer (some ⟨k, 0, none⟩)) true ty).run P w = .ok (.tuple #[.bool true, .int .i64 pos, .int .i32 (Utf8.decode s pos).1]) (putIter w k s (pos + (Utf8.decode s pos).2)) := by
  simp only [Instr.next, getObj, setObj, Sem.run_bind, Sem.run, hk, Result.andThen, h, if_true]
  simp [goInt, putIter]
theorem run_next_stop {P : Program} {w : World} {k : Nat} {s : ByteArray} {pos : Nat} (hk : w.heap[k]? = some (.stringIter s pos)) (ty : TypeId) (h : ¬ pos < s.size) :
    (Instr.next (.pointer (some ⟨k, 0, none⟩)) true ty).run P w = .ok (.tuple #[.bool false]) w := by
  simp [Instr.next, getObj, Sem.run, hk, h]
theorem cont_high (s : ByteArray) (p : Nat) (h : p < s.size) (hc : (s.get! p).toNat / 64 = 2) : 128 ≤ (s[p]'h).toNat := by
  have e : s.get! p = s[p]'h := by
    simp [ByteArray.get!, getElem!_pos, h]
    rfl
  rw [e] at hc
  omega
theorem decode_bytes (s : ByteArray) (pos : Nat) (h : pos < s.size) (ha : 128 ≤ (s[pos]'h).toNat) :
    1 ≤ (Utf8.decode s pos).2 ∧ pos + (Utf8.decode s pos).2 ≤ s.size ∧ ∀ k (_ : k < (Utf8.decode s pos).2) (hk : pos + k < s.size), 128 ≤ (s[pos + k]'hk).toNat := by
  have hn : ¬ (s[pos]'h).toNat < 128 := by omega
  have key : ∀ n : Nat, (n = 1 ∨ (n = 2 ∧ pos + 1 < s.size ∧ (s.get! (pos + 1)).toNat / 64 = 2) ∨ (n = 3 ∧ (pos + 1 < s.size ∧ (s.get! (pos + 1)).toNat / 64 = 2) ∧ (pos + 2 < s.size ∧ (s.get! (pos + 2)).toNat / 64 = 2)) ∨ (n = 4 ∧ (pos + 1 < s.size ∧ (s.get! (pos + 1)).toNat / 64 = 2) ∧ (pos + 2 < s.size ∧ (s.get! (pos + 2)).toNat / 64 = 2) ∧ (pos + 3 < s.size ∧ (s.get! (pos + 3)).toNat / 64 = 2))) →
      1 ≤ n ∧ pos + n ≤ s.size ∧ ∀ k (_ : k < n) (hk : pos + k < s.size), 128 ≤ (s[pos + k]'hk).toNat := by
    rintro n (rfl | ⟨rfl, h1, c1⟩ | ⟨rfl, ⟨h1, c1⟩, ⟨h2, c2⟩⟩ | ⟨rfl, ⟨h1, c1⟩, ⟨h2, c2⟩, ⟨h3, c3⟩⟩)
    · refine ⟨by omega, by omega, fun k hk hk2 => ?_⟩
      obtain rfl : k = 0 := by omega
      exact ha
    · refine ⟨by omega, by omega, fun k hk hk2 => ?_⟩
      obtain rfl | rfl : k = 0 ∨ k = 1 := by omega
      · exact ha
      · exact cont_high _ _ _ c1
    · refine ⟨by omega, by omega, fun k hk hk2 => ?_⟩
      obtain rfl | rfl | rfl : k = 0 ∨ k = 1 ∨ k = 2 := by omega
      · exact ha
      · exact cont_high _ _ _ c1
      · exact cont_high _ _ _ c2
    · refine ⟨by omega, by omega, fun k hk hk2 => ?_⟩
      obtain rfl | rfl | rfl | rfl : k = 0 ∨ k = 1 ∨ k = 2 ∨ k = 3 := by omega
      · exact ha
      · exact cont_high _ _ _ c1
      · exact cont_high _ _ _ c2
      · exact cont_high _ _ _ c3
  apply key
  simp only [Utf8.decode, get_at s pos h, hn, if_false]
  repeat' split
  all_goals simp_all
theorem indexRune_any (r : Int) (w : World) (h0 : 128 ≤ r) (h1 : r ≤ 2147483647) :
    Calls Tryd.prog 105 #[.string ⟨#[43, 35]⟩, .int .i32 r] w fun e w' => e = .returned (.int .i64 (-1)) ∧ Below w.heap.size w w' := by
  by_cases he : r = 65533
  · subst he; exact ir_err w
  · by_cases h5 : r < 55296
    · have hval : Utf8.valid r = true := by simp only [Utf8.valid, Bool.or_eq_true, Bool.and_eq_true, decide_eq_true_eq]; omega
      obtain ⟨hs2, hs4, hlast⟩ := encode_facts r hval h0
      by_cases hz : (Utf8.encode r).size = 2
      · exact ir_two_lo r w h0 he h5 hval hz
      · exact ir_long_lo r w h0 he h5 hval (by omega)
    · by_cases h6 : 57343 < r
      · by_cases h7 : r ≤ 1114111
        · have hval : Utf8.valid r = true := by simp only [Utf8.valid, Bool.or_eq_true, Bool.and_eq_true, decide_eq_true_eq]; omega
          obtain ⟨hs2, hs4, hlast⟩ := encode_facts r hval h0
          by_cases hz : (Utf8.encode r).size = 2
          · exact ir_two_hi r w h0 he h6 h7 hval hz
          · exact ir_long_hi r w h0 he h6 h7 hval (by omega)
        · exact ir_big r w h5 h6 h7
      · exact ir_bad r w he h5 h6
set_option maxHeartbeats 8000000 in
set_option maxRecDepth 1000000 in
theorem indexAny_short (s : ByteArray) (w : World) (h8 : s.size ≤ 8) :
    Calls Tryd.prog 103 #[.string s, .string ⟨#[43, 35]⟩] w fun e w' => e = .returned (.int .i64 (Lib.indexAny s.data.toList [43, 35])) ∧ Below w.heap.size w w' := by
  have hlo := Lib.hid (fun (r : Int) (w : World) (h0 : 0 ≤ r) (h1 : r < 128) => (show Calls Tryd.prog 105 #[.string ⟨#[43, 35]⟩, .int .i32 r] w _ from Any.strings_IndexRune_ascii { Tryd.laysIndexAny with } ⟨#[43, 35]⟩ r w h0 h1))
  have hhi := Lib.hid indexRune_any
  have h8z : ¬ ((8 : Int) < (s.size : Int)) := by omega
  have e8 : ∀ w, Calls Tryd.prog 106 #[.int .i64 s.size] w fun e w' => e = .returned (.bool false) ∧ w = w' := by
    intro w
    have := (show Calls Tryd.prog 106 #[.int .i64 s.size] w _ from Any.strings_shouldUseASCIISet { Tryd.laysIndexAny with } s.size w)
    rw [decide_eq_false h8z] at this
    exact this.mono fun _ _ h => ⟨h.1, h.2.symm⟩
  have E8 := Lib.hid e8
  clear e8
  go_enter Tryd.func103, Tryd.ntmps103
  go_wp2_with (first | (go_at_call 106; with_reducible refine (E8.out _).mono ?_; rintro e' w' ⟨rfl, rfl⟩))
  go_loopg [9, 10] s.size (fun g _ _ wx => ∃ i : Nat, i + g = s.size ∧ wx.heap[w.heap.size]? = some (.stringIter s i) ∧ Below w.heap.size w wx ∧ Lib.NoAny s.data.toList [43, 35] i)
  case atStart => exact ⟨0, by omega, World.iter_heap w s 0, Below.iter w s 0, Lib.NoAny.zero _ _⟩
  case round =>
    obtain ⟨i, hig, hit, hbw, hno⟩ := hrel
    have HN := Lib.hid hno
    have HB := Lib.hid hbw
    clear hno hbw
    cases gk with
    | zero =>
      obtain rfl : i = s.size := by omega
      have hnx := fun ty => run_next_stop (P := Tryd.prog) hit ty (Nat.lt_irrefl _)
      clear hit
      go_wp2
      go_ret
      exact ⟨by rw [Lib.indexAny_none (by rw [← Lib.size_eq]; exact HN.out)]; rfl, HB.out⟩
    | succ g =>
      have hi : i < s.size := by omega
      have hnx := fun ty => run_next_at (P := Tryd.prog) hit ty hi
      have HIT := Lib.hid hit
      clear hit
      obtain ⟨x, hx⟩ : ∃ x : UInt8, s[i]'hi = x := ⟨_, rfl⟩
      have hxl : s.data.toList[i]? = some x := by rw [← hx]; exact Lib.data_getElem? s i hi
      by_cases hx128 : x.toNat < 128
      · have hdec : Utf8.decode s i = (x.toNat, 1) := by
          have := decode_ascii s i hi (by rw [hx]; exact hx128)
          rw [hx] at this
          exact this
        rw [hdec] at hnx
        have hnx' : ∀ ty, (Instr.next (.pointer (some ⟨w.heap.size, 0, none⟩)) true ty).run Tryd.prog wr = .ok (.tuple #[.bool true, .int .i64 i, .int .i32 x.toNat]) (putIter wr w.heap.size s (i + 1)) := hnx
        have HB1 := Lib.hid (putIter_below HB.out (Nat.le_refl _) s (i + 1))
        have HI1 := Lib.hid (putIter_heap HIT.out s (i + 1))
        clear hnx hdec hx
        have Hx := Lib.hid hxl
        clear hxl
        generalize putIter wr w.heap.size s (i + 1) = W1 at hnx' HB1 HI1
        have hcon := Lib.contains_iff_indexByte [43, 35] x
        have hback : ((x.toNat : Int)).toNat.toUInt8 = x := by simp
        have CL := Lib.hid (show Calls Tryd.prog 105 #[.string ⟨#[43, 35]⟩, .int .i32 x.toNat] W1 fun e w' => e = .returned (.int .i64 (Lib.indexByte [43, 35] x)) ∧ W1 = w' from (hlo.out (x.toNat : Int) W1 (by omega) (by omega)).mono fun _ _ h => ⟨by rw [h.1, hback], h.2.symm⟩)
        cases hin : ([43, 35] : List UInt8).contains x
        · rw [hin] at hcon
          have hlt : ¬ ((0 : Int) ≤ Lib.indexByte [43, 35] x) := of_decide_eq_false hcon.symm
          have hlt' : ¬ ((0 : Int) ≤ Lib.indexByte (⟨#[43, 35]⟩ : ByteArray).data.toList x) := hlt
          clear hcon
          go_wp2_with (go_at_call 105; (with_reducible refine CL.out.mono ?_); rintro e' w' ⟨rfl, rfl⟩)
          go_roundg g
          case measure => omega
          case rel => exact ⟨i + 1, by omega, HI1.out, HB1.out, HN.out.succ Hx.out hin⟩
        · rw [hin] at hcon
          have hge : (0 : Int) ≤ Lib.indexByte [43, 35] x := of_decide_eq_true hcon.symm
          have hge' : (0 : Int) ≤ Lib.indexByte (⟨#[43, 35]⟩ : ByteArray).data.toList x := hge
          clear hcon
          go_wp2_with (go_at_call 105; (with_reducible refine CL.out.mono ?_); rintro e' w' ⟨rfl, rfl⟩)
          go_ret
          exact ⟨by rw [Lib.indexAny_hit HN.out Hx.out hin]; rfl, HB1.out⟩
      · obtain ⟨hr0, hw1⟩ := decode_high s i hi (by rw [hx]; omega)
        obtain ⟨_, hw2, hwb⟩ := decode_bytes s i hi (by rw [hx]; omega)
        have hr1 := decode_le s i
        generalize (Utf8.decode s i).1 = r at hnx hr0 hr1
        generalize (Utf8.decode s i).2 = wd at hnx hw1 hw2 hwb
        have HB1 := Lib.hid (putIter_below HB.out (Nat.le_refl _) s (i + wd))
        have HI1 := Lib.hid (putIter_heap HIT.out s (i + wd))
        have HS : w.heap.size < (putIter wr w.heap.size s (i + wd)).heap.size := by
          rcases Nat.lt_or_ge w.heap.size (putIter wr w.heap.size s (i + wd)).heap.size with h1 | h1
          · exact h1
          · have := HI1.out; rw [Array.getElem?_eq_none h1] at this; exact absurd this (by simp)
        have HNN := Lib.hid (show Lib.NoAny s.data.toList [43, 35] (i + wd) from by
          intro j b hj hb
          rcases Nat.lt_or_ge j i with h1 | h1
          · exact HN.out j b h1 hb
          · have hjs : j < s.size := by omega
            have hb2 : s.data.toList[j]? = some (s[j]'hjs) := Lib.data_getElem? s j hjs
            have hbe : b = s[j]'hjs := by rw [hb2] at hb; exact (Option.some.inj hb).symm
            have h128 : 128 ≤ b.toNat := by
              have := hwb (j - i) (by omega) (by omega)
              have e : i + (j - i) = j := by omega
              rw [hbe]
              simp only [e] at this
              exact this
            rcases Bool.eq_false_or_eq_true (([43, 35] : List UInt8).contains b) with h | h
            · rw [List.contains_iff_mem] at h
              rcases List.mem_cons.1 h with rfl | h
              · exact absurd h128 (by decide)
              · rcases List.mem_cons.1 h with rfl | h
                · exact absurd h128 (by decide)
                · exact absurd h (by simp)
            · exact h)
        clear hwb hx hxl
        have HSH := Lib.hid HS
        clear HS
        generalize putIter wr w.heap.size s (i + wd) = W1 at hnx HB1 HI1 HSH
        have CH := Lib.hid (hhi.out (r : Int) W1 (by omega) (by omega))
        go_wp2_with (go_at_call 105; (with_reducible refine CH.out.mono ?_); rintro e' w' ⟨rfl, hbb⟩)
        go_roundg (g + 1 - wd)
        case measure => omega
        case rel => exact ⟨i + wd, by omega, (hbb.block _ HSH.out).trans HI1.out, HB1.out.trans (hbb.mono (Nat.le_of_lt HSH.out)), HNN.out⟩
theorem indexAny_any (s : ByteArray) (w : World) (hs : s.size < 4294967281) :
    Calls Tryd.prog 103 #[.string s, .string ⟨#[43, 35]⟩] w fun e w' => e = .returned (.int .i64 (Lib.indexAny s.data.toList [43, 35])) ∧ Below w.heap.size w w' := by
  by_cases h8 : s.size ≤ 8
  · exact indexAny_short s w h8
  · have h116 : (Tryd.prog.info? (Tryd.laysContainsAny_ren.t 116)).map (fun i => (i.zero, i.size)) = some (some (.agg (Array.replicate 256 (.bool false))), 256) := by kernel_rfl
    have := (show Calls Tryd.prog 103 #[.string s, .string ⟨#[43, 35]⟩] w _ from Any.strings_IndexAny_long Tryd.laysIndexAny (zero_of_info h116).1 (zero_of_info h116).2 s ⟨#[43, 35]⟩ w (by decide) (by omega) hs (by decide) (by
      intro j b hb
      have hm : b ∈ ([43, 35] : List UInt8) := List.mem_of_getElem? hb
      rcases List.mem_cons.1 hm with rfl | h
      · decide
      · rcases List.mem_cons.1 h with rfl | h
        · decide
        · exact absurd h (by simp)))
    refine this.mono fun e w' ⟨h1, h2⟩ => ⟨h1, ?_⟩
    rw [h2]
    exact ((Below.refl _ _).alloc (Nat.le_refl _) _).alloc (by simp) _
set_option maxHeartbeats 1000000 in
theorem containsAny_any (s : ByteArray) (w : World) (hs : s.size < 4294967281) :
    Calls Tryd.prog 101 #[.string s, .string ⟨#[43, 35]⟩] w fun e w' => e = .returned (.bool (Lib.containsAny s.data.toList [43, 35])) ∧ Below w.heap.size w w' := by
  have C := Lib.hid (indexAny_any s w hs)
  go_enter Tryd.func101, Tryd.ntmps101
  go_wp2_with (go_at_call 103; (with_reducible refine C.out.mono ?_); rintro e' w' ⟨rfl, hbb⟩)
  go_ret
  exact ⟨rfl, hbb⟩
end
end Go.Proofs.YtpgnlhfokffioaaDoor
namespace Go.Proofs.YtpgnlhfokffioaaDoor
section
open Go.RowKit
def RdZ (P : Program) (w : World) (t : TypeId) (cs : List Value) : Prop :=
  ∃ (H : Type) (enc : TypeId × Value → H) (base : Nat) (spare : Nat → Bool) (held : Bool) (fuel : Nat) (x : DataW H × List MemPlace), DataW.trod enc P w base spare held fuel t cs = some x ∧ (x.1.weights P t).all (· ≤ reachBytes) = true
section
variable {P : Program} {w : World} {t e : TypeId} {cs : List Value}
theorem RdZ.rd (h : RdZ P w t cs) : Rd P w t cs := by
  obtain ⟨H, enc, base, spare, held, fuel, x, h, -⟩ := h
  exact ⟨H, enc, base, spare, held, fuel, x, h⟩
theorem weightsAll_mem {H : Type} {e : TypeId} {l : List (DataW H)} {d : DataW H} (hd : d ∈ l) : ∀ n ∈ d.weights P e, n ∈ DataW.weightsAll P e l := by
  induction l with
  | nil => simp at hd
  | cons a r ih =>
    intro n hn
    simp only [DataW.weightsAll, List.mem_append]
    rcases List.mem_cons.1 hd with rfl | hd
    · exact .inl hn
    · exact .inr (ih hd n hn)
theorem RdZ.slice (ht : P.underlying t = some (.slice e)) (hpos : 0 < P.cellsOf e) (h : RdZ P w t cs) :
    ∃ (ao : Option Addr) (len cap : Nat), cs = [.slice ao len cap] ∧ len ≤ cap ∧ cap ≤ maxLen ∧ len * P.bytesOf e ≤ reachBytes ∧ (ao = none → cap = 0) ∧
      (0 < len → ∃ b off, ao = some ⟨b, off, none⟩ ∧ b < w.heap.size ∧ ∀ i, i < len → ∃ cs', Cells w b (off + i * P.cellsOf e) (P.cellsOf e) cs' ∧ RdZ P w e cs') := by
  obtain ⟨H, enc, base, spare, held, fuel, x, h, hz⟩ := h
  rcases Go.Deep.open_slice ht h with ⟨rfl, _⟩ | ⟨a, len, cap, m, n, D, Pl, rfl, hb, hl, hm, hmm, hx, hel⟩
  · exact ⟨none, 0, 0, rfl, Nat.le_refl _, by simp, by simp, fun _ => rfl, fun h => by omega⟩
  · rw [hx] at hz
    simp only [DataW.weights, ht, List.all_cons, List.all_append, List.all_eq_true, Bool.and_eq_true, decide_eq_true_eq, List.length_map, List.length_range] at hz
    obtain ⟨hz0, hz1, -⟩ := hz
    have hle : len ≤ m := by rw [hmm]; split <;> omega
    refine ⟨some a, len, cap, rfl, hl, hm, Nat.le_trans (Nat.mul_le_mul_right _ (by omega)) hz0, by simp, fun hlen => ?_⟩
    obtain ⟨cs0, h0, _⟩ := hel 0 (by omega)
    obtain ⟨_, hl0, hc0⟩ := World.cells?_some h0
    have hc := hc0 0 hpos
    have hadd : (a.add (0 * P.cellsOf e)).add 0 = a := by simp [Addr.add]
    rw [hadd, List.getElem?_eq_getElem (by omega)] at hc
    have hspot := World.cell?_spot hc
    obtain ⟨b, off, spot⟩ := a
    obtain rfl : spot = none := hspot
    refine ⟨b, off, rfl, ?_, fun i hi => ?_⟩
    · rcases Nat.lt_or_ge b w.heap.size with h | h
      · exact h
      · simp [World.cell?, Array.getElem?_eq_none h] at hc
    · obtain ⟨cs', h1, h2⟩ := hel i (by omega)
      obtain ⟨_, h3, h4⟩ := World.cells?_some h1
      have key : ∀ p q : Nat, ((⟨b, off, none⟩ : Addr).add p).add q = ⟨b, off + p + q, none⟩ := by
        intro p q; unfold Addr.add; split <;> split <;> simp_all
      refine ⟨cs', ⟨h3, fun j hj => ?_⟩, H, enc, base, spare, held, n, _, h2, ?_⟩
      · rw [← h4 j hj, key]
      · simp only [List.all_eq_true, decide_eq_true_eq]
        exact fun q hq => hz1 q (weightsAll_mem (List.mem_map.2 ⟨i, by simpa using hi, rfl⟩) q hq)
theorem RdZ.slOf {α : Type} {p : World → Nat → Nat → α → Prop} {size : Nat} (ht : P.underlying t = some (.slice e)) (hs : P.cellsOf e = size) (hpos : 0 < size) (h : RdZ P w t cs)
    (hp : ∀ b off cs', b < w.heap.size → Cells w b off size cs' → RdZ P w e cs' → ∃ q, p w b off q) : ∃ v L, cs = [v] ∧ SlOf w size p v L ∧ L.length * P.bytesOf e ≤ reachBytes := by
  subst hs
  obtain ⟨ao, len, cap, rfl, h1, h2, hr, h3, h4⟩ := h.slice ht hpos
  by_cases h0 : 0 < len
  · obtain ⟨b, off, rfl, hb, hel⟩ := h4 h0
    obtain ⟨L, hL, hq⟩ := list_of_choice (p := fun i q => p w b (off + i * P.cellsOf e) q) fun i hi => by
      obtain ⟨cs', hc, hr⟩ := hel i hi
      exact hp b _ cs' hb hc hr
    exact ⟨_, L, rfl, ⟨_, cap, by rw [hL], by omega, h2, h3, fun _ => ⟨b, off, rfl, hb, hq⟩⟩, by rw [hL]; exact hr⟩
  · have : len = 0 := by omega
    subst this
    exact ⟨_, [], rfl, ⟨ao, cap, rfl, h1, h2, h3, fun hne => (hne rfl).elim⟩, by simp⟩
theorem RdZ.bytes (ht : P.underlying t = some (.slice e)) (hs : P.cellsOf e = 1) (hby : P.bytesOf e = 1) (he : P.underlying e = some (.int .u8)) (h : RdZ P w t cs) : ∃ v l, cs = [v] ∧ Sl w v l ∧ l.length ≤ 140737488351232 := by
  obtain ⟨v, L, rfl, ⟨ao, cap, rfl, h1, h2, h3, h4⟩, h5⟩ := h.slOf (p := fun w b off x => w.cell? ⟨b, off, none⟩ = some (B8 x)) ht hs (by omega) (by
    intro b off cs' _ hc hr
    obtain ⟨x, rfl⟩ := hr.rd.u8 he
    exact ⟨x, by simpa using hc.2 0 (by omega)⟩)
  refine ⟨_, L, rfl, ⟨ao, cap, rfl, h1, h2, h3, fun hne => ?_⟩, by rw [hby] at h5; simp [reachBytes] at h5; omega⟩
  obtain ⟨b, off, rfl, hb, hq⟩ := h4 hne
  exact ⟨b, off, rfl, hb, fun i x hx => by simpa using hq i x hx⟩
end
end
end Go.Proofs.YtpgnlhfokffioaaDoor
namespace Go.Proofs.YtpgnlhfokffioaaDoor
section
open Go.RowKit
section
variable {P : Program} {w : World} {t e : TypeId} {cs : List Value}
set_option maxRecDepth 100000 in
theorem RdZ.string (ht : P.underlying t = some .string) (h : RdZ P w t cs) : ∃ s : ByteArray, cs = [.string s] ∧ s.size ≤ 140737488351232 := by
  obtain ⟨H, enc, base, spare, held, fuel, x, h, hz⟩ := h
  obtain ⟨s, h1, h2, h3⟩ := DataW.trod_string ht h
  refine ⟨s, h1, ?_⟩
  rw [h2] at hz
  have h5 := List.all_eq_true.1 hz s.data.toList.length (List.mem_singleton.2 rfl)
  have h6 : s.data.toList.length ≤ reachBytes := of_decide_eq_true h5
  have h7 : reachBytes = 140737488351232 := rfl
  have h8 : s.size = s.data.toList.length := rfl
  omega
theorem RdZ.struct {fs : Array Field} (ht : P.underlying t = some (.struct fs)) (h : RdZ P w t cs) : cs.length = P.cellsOf t ∧ ∀ (i : Nat) (f : Field), fs[i]? = some f → RdZ P w f.type ((cs.drop f.offset).take (P.cellsOf f.type)) := by
  obtain ⟨H, enc, base, spare, held, fuel, x, h, hz⟩ := h
  obtain ⟨xs, n, _, hx, h1, hsz, h2⟩ := DataW.trod_struct ht h
  refine ⟨h1, fun i f hf => ?_⟩
  have hi : i < xs.length := by
    rw [hsz]; rcases Nat.lt_or_ge i fs.size with h | h
    · exact h
    · rw [Array.getElem?_eq_none h] at hf; simp at hf
  refine ⟨H, enc, base, spare, held, n, xs[i], by rw [h2 i f hf, List.getElem?_eq_getElem hi], ?_⟩
  rw [hx] at hz
  simp only [DataW.weights, ht] at hz
  simp only [List.all_eq_true] at hz ⊢
  intro q hq
  refine hz q (DataW.weights_mem_each (j := i) (d := xs[i].1) (t := f.type) ?_ ?_ q hq)
  · simp [hf]
  · simp [List.getElem?_eq_getElem hi]
end
end
end Go.Proofs.YtpgnlhfokffioaaDoor
namespace Go.Proofs.YtpgnlhfokffioaaDoor
section
open Go.RowKit
abbrev far : Nat := 140737488351232
theorem SlOf.toR {α : Type} {w : World} {n : Nat} {v : Value} {L : List α} {row : α → List Value} {bd : α → Prop} (h : SlOf w n (fun w b off q => (∀ j u, (row q)[j]? = some u → w.cell? ⟨b, off + j, none⟩ = some u) ∧ bd q) v L) : SlR w n v (L.map row) ∧ ∀ q ∈ L, bd q := by
  obtain ⟨ao, cap, rfl, h1, h2, h3, h4⟩ := h
  refine ⟨⟨ao, cap, by rw [List.length_map], by rw [List.length_map]; exact h1, h2, h3, fun hne => ?_⟩, fun q hq => ?_⟩
  · obtain ⟨b, off, rfl, hb, hq⟩ := h4 (by rintro rfl; exact hne rfl)
    refine ⟨b, off, rfl, hb, fun i q hi j u hu => ?_⟩
    rw [List.getElem?_map] at hi
    obtain ⟨x, hx, rfl⟩ := Option.map_eq_some_iff.1 hi
    exact (hq i x hx).1 j u hu
  · obtain ⟨b, off, rfl, hb, hh⟩ := h4 (by rintro rfl; cases hq)
    obtain ⟨i, hi⟩ := List.getElem?_of_mem hq
    exact (hh i q hi).2
theorem RdZ.i64 {P : Program} {w : World} {t : TypeId} {cs : List Value} (ht : P.underlying t = some (.int .i64)) (h : RdZ P w t cs) : ∃ n, cs = [.int .i64 n] := by
  obtain ⟨n, h1, -⟩ := h.rd.i64 ht; exact ⟨n, h1⟩
theorem RdZ.bool {P : Program} {w : World} {t : TypeId} {cs : List Value} (ht : P.underlying t = some .bool) (h : RdZ P w t cs) : ∃ b, cs = [.bool b] := h.rd.bool ht
theorem one_cell {w : World} {b off : Nat} {c : Value} (h : Cells w b off 1 [c]) : ∀ j u, ([c] : List Value)[j]? = some u → w.cell? ⟨b, off + j, none⟩ = some u := by
  intro j u hu
  rcases j with _ | j
  · simp at hu; subst hu; exact h.2 0 (by decide)
  · simp at hu
theorem bytes_le {n b : Nat} (h : n * b ≤ reachBytes) (hb : 0 < b) : n ≤ far := by
  have h' : n * b ≤ 140737488351232 := h
  have := Nat.le_mul_of_pos_right n hb
  show n ≤ 140737488351232
  omega
theorem RdZ.ints {w : World} {cs : List Value} (h : RdZ Tryd.prog w 26 cs) : ∃ (v : Value) (l : List Int), cs = [v] ∧ SlR w 1 v (l.map cn) ∧ l.length ≤ far := by
  obtain ⟨v, L, rfl, hS, hb⟩ := h.slOf (p := fun w b off q => (∀ j u, (cn q)[j]? = some u → w.cell? ⟨b, off + j, none⟩ = some u) ∧ True) (size := 1) Tryd.underlying26 (by kernel_rfl) (by decide) (by
    intro b off cs' _ hc hr
    obtain ⟨n, rfl⟩ := hr.i64 Tryd.underlying3
    exact ⟨n, one_cell hc, trivial⟩)
  exact ⟨v, L, rfl, hS.toR.1, bytes_le hb (by rw [show Tryd.prog.bytesOf 3 = 8 by kernel_rfl]; decide)⟩
theorem RdZ.strs {w : World} {cs : List Value} (h : RdZ Tryd.prog w 28 cs) : ∃ (v : Value) (l : List ByteArray), cs = [v] ∧ SlR w 1 v (l.map cs1) ∧ l.length ≤ far ∧ ∀ s ∈ l, s.size ≤ far := by
  obtain ⟨v, L, rfl, hS, hb⟩ := h.slOf (p := fun w b off q => (∀ j u, (cs1 q)[j]? = some u → w.cell? ⟨b, off + j, none⟩ = some u) ∧ q.size ≤ far) (size := 1) Tryd.underlying28 (by kernel_rfl) (by decide) (by
    intro b off cs' _ hc hr
    obtain ⟨s, rfl, hs⟩ := hr.string Tryd.underlying9
    exact ⟨s, one_cell hc, hs⟩)
  exact ⟨v, L, rfl, hS.toR.1, bytes_le hb (by rw [show Tryd.prog.bytesOf 9 = 16 by kernel_rfl]; decide), hS.toR.2⟩
theorem cStr : Tryd.prog.cellsOf 9 = 1 := by kernel_rfl
theorem cInt : Tryd.prog.cellsOf 3 = 1 := by kernel_rfl
theorem cBool : Tryd.prog.cellsOf 4 = 1 := by kernel_rfl
theorem cInts : Tryd.prog.cellsOf 26 = 1 := by kernel_rfl
theorem cStrs : Tryd.prog.cellsOf 28 = 1 := by kernel_rfl
theorem cWishes : Tryd.prog.cellsOf 27 = 1 := by kernel_rfl
theorem cBytes : Tryd.prog.cellsOf 31 = 1 := by kernel_rfl
theorem cWill : Tryd.prog.cellsOf 25 = 5 := by kernel_rfl
theorem cMq : Tryd.prog.cellsOf 30 = 24 := by kernel_rfl
set_option maxRecDepth 100000 in
theorem RdZ.wishes {w : World} {cs : List Value} (h : RdZ Tryd.prog w 27 cs) : ∃ (v : Value) (l : List EWish), cs = [v] ∧ SlR w 2 v (l.map rowWish) ∧ l.length ≤ far ∧ ∀ s ∈ l, s.f.size ≤ far := by
  obtain ⟨v, L, rfl, hS, hb⟩ := h.slOf (p := fun w b off q => (∀ j u, (rowWish q)[j]? = some u → w.cell? ⟨b, off + j, none⟩ = some u) ∧ q.f.size ≤ far) (size := 2) Tryd.underlying27 (by kernel_rfl) (by decide) (by
    intro b off cs' _ hc hr
    obtain ⟨hlen, hf⟩ := hr.struct Tryd.underlying93
    match cs', hc.1 with
    | [c0, c1], _ =>
      obtain ⟨s, h0, hs⟩ := (hf 0 _ rfl).string Tryd.underlying9
      obtain ⟨n, h1⟩ := (hf 1 _ rfl).i64 Tryd.underlying3
      have e0 : c0 = .string s := by simpa [cStr] using h0
      have e1 : c1 = .int .i64 n := by simpa [cInt] using h1
      subst e0 e1
      refine ⟨⟨s, n⟩, ?_, hs⟩
      intro j u hu
      match j, hu with
      | 0, hu => simp at hu; subst hu; exact hc.2 0 (by decide)
      | 1, hu => simp at hu; subst hu; exact hc.2 1 (by decide)
      | j + 2, hu => simp at hu)
  exact ⟨v, L, rfl, hS.toR.1, bytes_le hb (by rw [show Tryd.prog.bytesOf 93 = 24 by kernel_rfl]; decide), hS.toR.2⟩
structure Mq.Far (m : Mq) : Prop where
  cl : m.cl.size ≤ far
  wT : m.wT.size ≤ far
  wP : m.wP.size ≤ far
  us : m.us.size ≤ far
  pa : m.pa.size ≤ far
  cs : m.cs.length ≤ far
  top : m.top.size ≤ far
  pay : m.pay.size ≤ far
  ws : m.ws.length ≤ far
  fs : m.fs.length ≤ far
  wsf : ∀ s ∈ m.ws, s.f.size ≤ far
  fsf : ∀ s ∈ m.fs, s.size ≤ far
def Ask18.At (w : World) (b off : Nat) (q : Mq × List UInt8) : Prop :=
  ∃ vc vw vf vx, (∀ j u, (q.1.row vc vw vf ++ [vx])[j]? = some u → w.cell? ⟨b, off + j, none⟩ = some u) ∧ q.1.Lists w vc vw vf ∧ Sl w vx q.2 ∧ q.1.Far ∧ q.2.length ≤ far
set_option maxRecDepth 100000 in
set_option maxHeartbeats 4000000 in
theorem asks18_of (W : World) (v : Value) (h : RdZ Tryd.prog W 22 [v]) : ∃ L, SlOf W 25 Ask18.At v L ∧ L.length ≤ far := by
  obtain ⟨v', L, hv, hS, hb⟩ := h.slOf (p := Ask18.At) (size := 25) Tryd.underlying22 (by kernel_rfl) (by decide) (by
    intro b off cs' hb hc hr
    obtain ⟨hlen, hf⟩ := hr.struct Tryd.underlying33
    match cs', hc.1 with
    | [c0, c1, c2, c3, c4, c5, c6, c7, c8, c9, c10, c11, c12, c13, c14, c15, c16, c17, c18, c19, c20, c21, c22, c23, c24], _ =>
      have r0 : RdZ Tryd.prog W 30 ([c0, c1, c2, c3, c4, c5, c6, c7, c8, c9, c10, c11, c12, c13, c14, c15, c16, c17, c18, c19, c20, c21, c22, c23, c24].take (Tryd.prog.cellsOf 30)) := hf 0 _ rfl
      rw [cMq] at r0
      obtain ⟨vx, lx, hvx, hX, hxl⟩ := (hf 1 _ rfl).bytes Tryd.underlying31 (by kernel_rfl) (by kernel_rfl) Tryd.underlying5
      obtain ⟨-, hg⟩ := r0.struct Tryd.underlying30
      have rw0 : RdZ Tryd.prog W 25 ((([c0, c1, c2, c3, c4, c5, c6, c7, c8, c9, c10, c11, c12, c13, c14, c15, c16, c17, c18, c19, c20, c21, c22, c23, c24].take 24).drop 4).take (Tryd.prog.cellsOf 25)) := hg 4 _ rfl
      rw [cWill] at rw0
      obtain ⟨-, hh⟩ := rw0.struct Tryd.underlying25
      obtain ⟨x0, h0⟩ := (hg 0 _ rfl).i64 Tryd.underlying3
      obtain rfl : c0 = .int .i64 x0 := by simpa [cInt] using h0
      obtain ⟨x1, h1, b1⟩ := (hg 1 _ rfl).string Tryd.underlying9
      obtain rfl : c1 = .string x1 := by simpa [cStr] using h1
      obtain ⟨x2, h2⟩ := (hg 2 _ rfl).bool Tryd.underlying4
      obtain rfl : c2 = .bool x2 := by simpa [cBool] using h2
      obtain ⟨x3, h3⟩ := (hg 3 _ rfl).i64 Tryd.underlying3
      obtain rfl : c3 = .int .i64 x3 := by simpa [cInt] using h3
      obtain ⟨x4, h4⟩ := (hh 0 _ rfl).bool Tryd.underlying4
      obtain rfl : c4 = .bool x4 := by simpa [cBool] using h4
      obtain ⟨x5, h5, b5⟩ := (hh 1 _ rfl).string Tryd.underlying9
      obtain rfl : c5 = .string x5 := by simpa [cStr] using h5
      obtain ⟨x6, h6, b6⟩ := (hh 2 _ rfl).string Tryd.underlying9
      obtain rfl : c6 = .string x6 := by simpa [cStr] using h6
      obtain ⟨x7, h7⟩ := (hh 3 _ rfl).i64 Tryd.underlying3
      obtain rfl : c7 = .int .i64 x7 := by simpa [cInt] using h7
      obtain ⟨x8, h8⟩ := (hh 4 _ rfl).bool Tryd.underlying4
      obtain rfl : c8 = .bool x8 := by simpa [cBool] using h8
      obtain ⟨x9, h9, b9⟩ := (hg 5 _ rfl).string Tryd.underlying9
      obtain rfl : c9 = .string x9 := by simpa [cStr] using h9
      obtain ⟨x10, h10⟩ := (hg 6 _ rfl).bool Tryd.underlying4
      obtain rfl : c10 = .bool x10 := by simpa [cBool] using h10
      obtain ⟨x11, h11, b11⟩ := (hg 7 _ rfl).string Tryd.underlying9
      obtain rfl : c11 = .string x11 := by simpa [cStr] using h11
      obtain ⟨x12, h12⟩ := (hg 8 _ rfl).bool Tryd.underlying4
      obtain rfl : c12 = .bool x12 := by simpa [cBool] using h12
      obtain ⟨x13, h13⟩ := (hg 9 _ rfl).bool Tryd.underlying4
      obtain rfl : c13 = .bool x13 := by simpa [cBool] using h13
      obtain ⟨x14, h14⟩ := (hg 10 _ rfl).i64 Tryd.underlying3
      obtain rfl : c14 = .int .i64 x14 := by simpa [cInt] using h14
      obtain ⟨v15, x15, h15, S15, b15⟩ := (show RdZ Tryd.prog W 26 _ from hg 11 _ rfl).ints
      obtain rfl : c15 = v15 := by simpa [cInts] using h15
      obtain ⟨x16, h16⟩ := (hg 12 _ rfl).bool Tryd.underlying4
      obtain rfl : c16 = .bool x16 := by simpa [cBool] using h16
      obtain ⟨x17, h17⟩ := (hg 13 _ rfl).i64 Tryd.underlying3
      obtain rfl : c17 = .int .i64 x17 := by simpa [cInt] using h17
      obtain ⟨x18, h18⟩ := (hg 14 _ rfl).bool Tryd.underlying4
      obtain rfl : c18 = .bool x18 := by simpa [cBool] using h18
      obtain ⟨x19, h19, b19⟩ := (hg 15 _ rfl).string Tryd.underlying9
      obtain rfl : c19 = .string x19 := by simpa [cStr] using h19
      obtain ⟨x20, h20⟩ := (hg 16 _ rfl).i64 Tryd.underlying3
      obtain rfl : c20 = .int .i64 x20 := by simpa [cInt] using h20
      obtain ⟨x21, h21, b21⟩ := (hg 17 _ rfl).string Tryd.underlying9
      obtain rfl : c21 = .string x21 := by simpa [cStr] using h21
      obtain ⟨v22, x22, h22, S22, b22, B22⟩ := (show RdZ Tryd.prog W 27 _ from hg 18 _ rfl).wishes
      obtain rfl : c22 = v22 := by simpa [cWishes] using h22
      obtain ⟨v23, x23, h23, S23, b23, B23⟩ := (show RdZ Tryd.prog W 28 _ from hg 19 _ rfl).strs
      obtain rfl : c23 = v23 := by simpa [cStrs] using h23
      obtain rfl : c24 = vx := by simpa [cBytes] using hvx
      refine ⟨(⟨x0, x1, x2, x3, x4, x5, x6, x7, x8, x9, x10, x11, x12, x13, x14, x15, x16, x17, x18, x19, x20, x21, x22, x23⟩, lx), _, _, _, _, fun j u hu => ?_, ⟨S15, S22, S23⟩, hX, ⟨b1, b5, b6, b9, b11, b15, b19, b21, b22, b23, B22, B23⟩, hxl⟩
      have hj : j < 25 := by
        rcases Nat.lt_or_ge j 25 with h | h
        · exact h
        · rw [List.getElem?_eq_none (by simpa using h)] at hu; cases hu
      rw [hc.2 j hj]; exact hu)
  obtain rfl : v = _ := by simpa using hv
  exact ⟨L, hS, bytes_le hb (by rw [show Tryd.prog.bytesOf 33 = 312 by kernel_rfl]; decide)⟩
end
end Go.Proofs.YtpgnlhfokffioaaDoor
