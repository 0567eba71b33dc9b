/-
  Rows of one's own: appends of all of a slice, worlds named anew, equal bytes.
-/
import Derived.Test.YtpgnlhfokffioaaDoorNum

import Derived.Test.YtpgnlhfokffioaaDoorRead
import Derived.Laws.AppendOwnNone
import Derived.Deep.RegionHeld3
namespace Go.Proofs.YtpgnlhfokffioaaDoor
open Go.RowKit
theorem B8_one (l : List UInt8) : ∀ u ∈ l.map B8, u.oneCell' = true := by
  intro u hu; simp only [List.mem_map] at hu; obtain ⟨x, -, rfl⟩ := hu; rfl
/-- The cells of a slice's bytes are one each; an append of all of a slice to a row of our own. -/
theorem appendAll {P : Program} {w : World} {ops : Array Oper} {rest : List Oper} {o : Oper} {a : Act} {Q : Exit → Act → World → Prop} (hgd : o.guard = none) (s x : Operand) (t e : TypeId)
    (ho : o.op = .call { callee := .builtin .append, args := #[s, x], argTypes := #[t, t] }) (base : Nat) (i : TypeInfo) (ht : P.underlying t = some (.slice e)) (hi : P.info? e = some i) (hz : i.zero = some (.int .u8 0))
    (hsize : i.size = 1) (hby : i.bytes = 1) (v : Value) (n : Nat) (xs l : List UInt8) (hs : a.eval s = v) (hown : w.ownsRow base e 1 v n (xs.map B8)) (vx : Value) (hx : a.eval x = vx) (hl : Sl w vx l)
    (hb1 : n ≤ 100000000) (hb2 : l.length ≤ 100000000) (hbase : base ≤ w.heap.size)
    (h : ∀ v' w', w'.ownsRow base e 1 v' (n + l.length) ((xs ++ l).map B8) → Grew w w' v v' → wpList P ops Q rest (a.put o.dst v') w') : wpList P ops Q (o :: rest) a w := by
  obtain ⟨ao, cap, rfl, h1, h2, h3, h4⟩ := id hl
  cases ao with
  | none =>
    have hc := h3 rfl
    have hl0 : l = [] := List.eq_nil_of_length_eq_zero (by omega)
    subst hl0 hc
    exact wpList_append_own_none hgd s x t ho base e i 1 ht hi v n (xs.map B8) hs hown hx (h v w (by simpa using hown) (Grew.refl _ _))
  | some ad =>
    refine wpList_append_at w hgd s x t ho base e i (.int .u8 0) 1 1 ht hi hz hsize hby rfl (by decide) v n (xs.map B8) hs hown ad l.length cap (l.map B8) hx (by simp) hl.news (B8_one l) (by unfold maxLen; omega) (by omega) hbase ?_
    intro v' w' ho2 hg hat
    exact h v' w' (by rw [List.map_append]; exact ho2) ((Grew.refl w v).app0 hg hat)
/-- The same law as one step of a region that draws. -/
theorem stepAppendAll {P : Program} {ops : Array Oper} {o : Oper} {a : Act} {w : World} {K : Act → World → Prop} {Q : Exit → Act → World → Prop} {E : Prop} (hgd : o.guard = none) (s x : Operand) (t e : TypeId)
    (ho : o.op = .call { callee := .builtin .append, args := #[s, x], argTypes := #[t, t] }) (base : Nat) (i : TypeInfo) (ht : P.underlying t = some (.slice e)) (hi : P.info? e = some i) (hz : i.zero = some (.int .u8 0))
    (hsize : i.size = 1) (hby : i.bytes = 1) (v : Value) (n : Nat) (xs l : List UInt8) (hs : a.eval s = v) (hown : w.ownsRow base e 1 v n (xs.map B8)) (ad : Addr) (m cap : Nat) (hm : m = l.length) (hx : a.eval x = .slice (some ad) m cap) (hl : Sl w (.slice (some ad) m cap) l)
    (hb1 : n ≤ 100000000) (hb2 : l.length ≤ 100000000) (hbase : base ≤ w.heap.size)
    (h : ∀ v' w', w'.ownsRow base e 1 v' (n + l.length) ((xs ++ l).map B8) → Grew w w' v v' → K (a.put o.dst v') w') : if Region.wanted o (yielded ops a.tmps) = true then Oper.wp P o a w K Q else E := by
  have hw : Region.wanted o (yielded ops a.tmps) = true := by simp [Region.wanted, hgd]
  rw [if_pos hw]
  subst hm
  obtain ⟨v', w', hr, h2, h3, h4⟩ := run_append_at (P := P) w base t o.type e i (.int .u8 0) 1 1 ht hi hz hsize hby rfl (by decide) v n (xs.map B8) hown ad l.length cap (l.map B8) (by simp) hl.news (B8_one l) (by unfold maxLen; omega) (by omega) hbase
  unfold Oper.wp execOp
  simp only [ho, resolve, invoke, builtin, Sem.run_bind, Sem.run_pure, Result.andThen_ok, List.map_toArray, List.map_cons, List.map_nil, hs, hx, hr]
  exact h v' w' (by rw [List.map_append]; exact h2) ((Grew.refl w v).app0 h3 h4)
theorem _root_.Go.Grew.other {w w' : World} {v2 : Value} (h : Grew w w' (.slice none 0 0) v2) (v : Value) : Grew w w' v v :=
  ⟨⟨h.1.os, h.1.tape, h.1.output, h.1.size, fun k hk _ => h.1.block k hk (by simp [Value.ownBlock])⟩, .inl rfl⟩
theorem own_mono {w : World} {base base' e size n : Nat} {v : Value} {xs : List Value} (h : w.ownsRow base e size v n xs) (hb : base' ≤ base) : w.ownsRow base' e size v n xs := by
  obtain ⟨h1, h2⟩ := h
  refine ⟨h1, ?_⟩
  rcases h2 with h2 | ⟨g, cap, cur, hv, hg, r⟩
  · exact .inl h2
  · exact .inr ⟨g, cap, cur, hv, Nat.le_trans hb hg, r⟩
theorem own_slice {w : World} {base e size n : Nat} {v : Value} {xs : List Value} (h : w.ownsRow base e size v n xs) : ∃ ao cap, v = .slice ao n cap := by
  rcases h.2 with ⟨rfl, rfl⟩ | ⟨g, cap, cur, rfl, _⟩
  · exact ⟨none, 0, rfl⟩
  · exact ⟨_, cap, rfl⟩
theorem bigv_ne (v : Int) (n : Nat) (h : 0 < n) : bigv v n ≠ [] := by
  intro he; have := bigv_length v n; rw [he] at this; simp at this; omega
theorem kept_nil {w w' : World} {base e size n : Nat} {v : Value} {xs : List Value} (h : w.ownsRow base e size v n xs) (hg : w.grownBy w' (Value.slice none 0 0).ownBlock) : w'.ownsRow base e size v n xs := by
  refine h.kept hg ?_
  cases hv : v.ownBlock with
  | none => exact .inl rfl
  | some k => exact .inr (by simp [Value.ownBlock])
theorem wp_gen {P : Program} {c : Code} {Q' : Exit → Act → World → Prop} {a : Act} {W : World} (Q : World → Prop) (h : Q W) (k : ∀ W, Q W → c.wp P Q' a W) : c.wp P Q' a W := k W h
theorem eqBytes_same (v1 v2 : Value) (l : List UInt8) (w : World) (hl : l.length ≤ 1000000) (h1 : Sl w v1 l) (h2 : Sl w v2 l) :
    Calls Tryd.prog 20 #[v1, v2] w fun e w' => e = .returned (.bool true) ∧ ∃ m, w' = w.drewN m :=
  (eqBytes_any v1 v2 l l w hl hl h1 h2).mono fun _ _ h => ⟨by simpa using h.1, h.2⟩
theorem below_own {w w' : World} {base e size n : Nat} {v : Value} {xs : List Value} (h : w.ownsRow base e size v n xs) (hb : Below w.heap.size w w') : w'.ownsRow base e size v n xs := by
  obtain ⟨h1, h2⟩ := h
  refine ⟨h1, ?_⟩
  rcases h2 with h2 | ⟨g, cap, cur, h3, h4, h5, h6⟩
  · exact .inl h2
  · have hg : g < w.heap.size := by
      by_cases hq : g < w.heap.size
      · exact hq
      · rw [Array.getElem?_eq_none (by omega)] at h5; cases h5
    exact .inr ⟨g, cap, cur, h3, h4, (hb.block g hg).trans h5, h6⟩
end Go.Proofs.YtpgnlhfokffioaaDoor
