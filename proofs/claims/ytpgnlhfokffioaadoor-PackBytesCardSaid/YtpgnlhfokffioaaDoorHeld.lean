/-
  What a region that draws keeps: an append of a slice that may be none; a world of old and a cell; a block of its own.
-/
import Derived.Test.YtpgnlhfokffioaaDoorOwn
import Derived.Deep.AppendLies
namespace Go.Proofs.YtpgnlhfokffioaaDoor
open Go.RowKit
theorem stepAppendAny {P : Program} {ops : Array Oper} {o : Oper} {a : Act} {w : World} {K : Act → World → Prop} {Q : Exit → Act → World → Prop} {E : Prop} (hgd : o.guard = none) (s x : Operand) (t e : TypeId)
    (ho : o.op = .call { callee := .builtin .append, args := #[s, x], argTypes := #[t, t] }) (base : Nat) (i : TypeInfo) (ht : P.underlying t = some (.slice e)) (hi : P.info? e = some i) (hz : i.zero = some (.int .u8 0))
    (hsize : i.size = 1) (hby : i.bytes = 1) (v : Value) (n : Nat) (xs l : List UInt8) (hs : a.eval s = v) (hown : w.ownsRow base e 1 v n (xs.map B8)) (vx : Value) (hx : a.eval x = vx) (hl : Sl w vx l)
    (hb1 : n ≤ 100000000) (hb2 : l.length ≤ 100000000) (hbase : base ≤ w.heap.size)
    (h : ∀ v' w', w'.ownsRow base e 1 v' (n + l.length) ((xs ++ l).map B8) → Grew w w' v v' → K (a.put o.dst v') w') : if Region.wanted o (yielded ops a.tmps) = true then Oper.wp P o a w K Q else E := by
  obtain ⟨ao, cap, rfl, h1, h2, h3, h4⟩ := id hl
  cases ao with
  | none =>
    have hc := h3 rfl
    have hl0 : l = [] := List.eq_nil_of_length_eq_zero (by omega)
    subst hl0 hc
    have hw : Region.wanted o (yielded ops a.tmps) = true := by simp [Region.wanted, hgd]
    rw [if_pos hw]
    have hr := run_append_owned_none (P := P) (w := w) base t o.type e i 1 ht hi v n (xs.map B8) hown
    unfold Oper.wp execOp
    simp only [ho, resolve, invoke, builtin, Sem.run_bind, Sem.run_pure, Result.andThen_ok, List.map_toArray, List.map_cons, List.map_nil, hs, hx, List.length_nil, hr]
    exact h v w (by simpa using hown) (Grew.refl _ _)
  | some ad => exact stepAppendAll hgd s x t e ho base i ht hi hz hsize hby v n xs l hs hown ad l.length cap rfl hx hl hb1 hb2 hbase h
theorem own_block {w : World} {base e size n : Nat} {v : Value} {xs : List Value} (h : w.ownsRow base e size v n xs) : ∀ k, v.ownBlock = some k → base ≤ k := by
  intro k hk
  rcases h.2 with ⟨rfl, -⟩ | ⟨g, cap, cur, rfl, hg, -⟩
  · simp [Value.ownBlock] at hk
  · simp [Value.ownBlock] at hk; omega
/-- What a region that draws keeps: the world of old, one cell. -/
theorem held_below {w0 W W' : World} {p : Addr} {v : Value} (h : Below w0.heap.size w0 W ∧ W.cell? p = some v) (hb : Below W.heap.size W W') (hp : p.block < w0.heap.size) : Below w0.heap.size w0 W' ∧ W'.cell? p = some v :=
  ⟨h.1.trans (hb.mono h.1.size), (hb.cell (Nat.lt_of_lt_of_le hp h.1.size)).trans h.2⟩
theorem held_alloc {w0 W : World} {p : Addr} {v : Value} (h : Below w0.heap.size w0 W ∧ W.cell? p = some v) (hp : p.block < w0.heap.size) (o : Obj) : Below w0.heap.size w0 (W.alloc o) ∧ (W.alloc o).cell? p = some v :=
  held_below h ((Below.refl _ _).alloc (Nat.le_refl _) _) hp
theorem held_set {w0 W : World} {p : Addr} {v : Value} (h : Below w0.heap.size w0 W ∧ W.cell? p = some v) (hp : p.block < w0.heap.size) (a : Addr) (ha : w0.heap.size ≤ a.block) (u : Value) : Below w0.heap.size w0 (W.setCell a u) ∧ (W.setCell a u).cell? p = some v := by
  have hb : Below w0.heap.size W (W.setCell a u) := (Below.refl _ _).setCell ha u
  exact ⟨h.1.trans hb, (hb.cell hp).trans h.2⟩
theorem held_grew {w0 W W' : World} {p : Addr} {v v3 v4 : Value} {e n : Nat} {xs : List Value} (h : Below w0.heap.size w0 W ∧ W.cell? p = some v) (hg : Grew W W' v3 v4) (ho : W.ownsRow w0.heap.size e 1 v3 n xs) (hp : p.block < w0.heap.size) : Below w0.heap.size w0 W' ∧ W'.cell? p = some v := by
  have hb : Below w0.heap.size W W' := grew_below hg h.1.size (own_block ho)
  exact ⟨h.1.trans hb, (hb.cell hp).trans h.2⟩
theorem held_size {w0 W : World} {p : Addr} {v : Value} (h : Below w0.heap.size w0 W ∧ W.cell? p = some v) : w0.heap.size ≤ W.heap.size := h.1.size
theorem held_own {w0 W w' : World} {p : Addr} {v v3 : Value} {e n : Nat} {xs : List Value} (h : Below w0.heap.size w0 W ∧ W.cell? p = some v) (ho : w'.ownsRow W.heap.size e 1 v3 n xs) : w'.ownsRow w0.heap.size e 1 v3 n xs := own_mono ho h.1.size
theorem grew_cell {W W' : World} {g n cap : Nat} {v4 : Value} (hg : Grew W W' (.slice (some ⟨g, 0, none⟩) n cap) v4) (a : Addr) (h : a.block < W.heap.size) (hn : a.block ≠ g) : W'.cell? a = W.cell? a :=
  hg.1.cell_far a h (by simpa [Value.ownBlock] using hn)
theorem grew_frozen {W W' : World} {g n cap : Nat} {v4 : Value} (hg : Grew W W' (.slice (some ⟨g, 0, none⟩) n cap) v4) (a : Addr) (h : a.block < W.heap.size) (hn : a.block ≠ g) : W'.frozen? a = W.frozen? a :=
  hg.1.frozen_far a h (by simpa [Value.ownBlock] using hn)
/-- A block's cells, that it may be written, that it lies in the world. -/
def RowAt (W : World) (q : Nat) (vs : List Value) : Prop := (∀ j v, vs[j]? = some v → W.cell? ⟨q, j, none⟩ = some v) ∧ (∀ j, W.frozen? ⟨q, j, none⟩ = false) ∧ q < W.heap.size
theorem RowAt.below {W W' : World} {q : Nat} {vs : List Value} (h : RowAt W q vs) (hb : Below W.heap.size W W') : RowAt W' q vs :=
  ⟨fun j v hj => (hb.cell (p := ⟨q, j, none⟩) h.2.2).trans (h.1 j v hj), fun j => (hb.frozen (p := ⟨q, j, none⟩) h.2.2).trans (h.2.1 j), Nat.lt_of_lt_of_le h.2.2 hb.size⟩
theorem RowAt.grew {W W' : World} {q g n cap : Nat} {v4 : Value} {vs : List Value} (h : RowAt W q vs) (hg : Grew W W' (.slice (some ⟨g, 0, none⟩) n cap) v4) (hn : q ≠ g) : RowAt W' q vs :=
  ⟨fun j v hj => (grew_cell hg ⟨q, j, none⟩ h.2.2 hn).trans (h.1 j v hj), fun j => (grew_frozen hg ⟨q, j, none⟩ h.2.2 hn).trans (h.2.1 j), Nat.lt_of_lt_of_le h.2.2 hg.1.size⟩
end Go.Proofs.YtpgnlhfokffioaaDoor
