/-
  Words of our own, of no program: the reckoner's values and Go's.
-/
import Derived.Test.YtlkchdbbpnkbfaaGreatDoorRkE
import Derived.Below
namespace Go.Rk
open Go.RowKit
/-- Numbers, by noughts and naturals. -/
def ez (n : Nat) : Int := if n % 2 = 0 then ((n / 2 : Nat) : Int) else -((n / 2 : Nat) : Int) - 1
theorem ez_all (z : Int) : ∃ n, ez n = z := by
  by_cases h : 0 ≤ z
  · exact ⟨2 * z.toNat, by unfold ez; rw [if_pos (by omega)]; omega⟩
  · exact ⟨2 * (-z - 1).toNat + 1, by unfold ez; rw [if_neg (by omega)]; omega⟩
abbrev Ren := Id → Option (Nat × Nat × Nat)
mutual
inductive VR (ev : Nat → Nat) (ρ : Ren) : AV → Value → Prop
  | un {v : Value} (h : v.oneCell' = true) : VR ev ρ .un v
  | b (x : Bool) : VR ev ρ (.b x) (.bool x)
  | i (q : IntKind) (n : Int) : VR ev ρ (.i q n) (.int q n)
  | z {r j : Nat} (h : r = 0 ∨ (ez (ev j)).tmod 2 = (r : Int) - 2) : VR ev ρ (.cx .f32 r j) (.int .i64 (ez (ev j)))
  | fl (q : FloatKind) (x : Nat) : VR ev ρ (.fl q x) (.float q x)
  | s {l : List Nat} {s : ByteArray} (h : byteNs s = l) : VR ev ρ (.s l) (.string s)
  | nilp : VR ev ρ .nilp (.pointer none)
  | p {r : Id} {o b base E : Nat} (h : ρ r = some (b, base, E)) : VR ev ρ (.p r o) (.pointer (some ⟨b, base + o, none⟩))
  | nils : VR ev ρ .nils (.slice none 0 0)
  | sl {r : Id} {o n z b base E a c : Nat} {c' : Option Nat} (h : ρ r = some (b, base, E)) (hn : n ≤ c) (ha : c ≠ 0 → a = base + o) (hE : o + c * z ≤ E) (hk : ∀ k, c' = some k → c = k) (hu : c' = none → o + c * z = E) :
      VR ev ρ (.sl r o n c' z) (.slice (some ⟨b, a, none⟩) n c)
  | ag {l : List AV} {cs : List Value} (h : VRs ev ρ l cs) (h1 : ∀ v ∈ cs, v.oneCell' = true) : VR ev ρ (.ag l) (.agg cs.toArray)
  | tu {l : List AV} {cs : List Value} (h : VRs ev ρ l cs) : VR ev ρ (.tu l) (.tuple cs.toArray)
  | fn {f : Nat} {l : List AV} {cs : List Value} (h : VRs ev ρ l cs) : VR ev ρ (.fn f l) (.func (.func f) #[] cs.toArray)
  | nilf : VR ev ρ .nilf .nilFunc
  | nat {j lb : Nat} (h : lb ≤ ev j) : VR ev ρ (.nat j lb) (.int .i64 (ev j))
  | osl {j lb c : Nat} {a : Option Addr} (h : lb ≤ ev j) (hx : j = 0 → ev j = lb) : VR ev ρ (.osl j lb) (.slice a (ev j) c)
inductive VRs (ev : Nat → Nat) (ρ : Ren) : List AV → List Value → Prop
  | nil : VRs ev ρ [] []
  | cons {x : AV} {l : List AV} {c : Value} {cs : List Value} (h : VR ev ρ x c) (t : VRs ev ρ l cs) : VRs ev ρ (x :: l) (c :: cs)
end
def Sub (ρ ρ' : Ren) : Prop := ∀ r x, ρ r = some x → ρ' r = some x
theorem Sub.refl (ρ : Ren) : Sub ρ ρ := fun _ _ h => h
theorem Sub.trans {a b c : Ren} (h : Sub a b) (h' : Sub b c) : Sub a c := fun r x hx => h' r x (h r x hx)
section
variable {ev : Nat → Nat} {ρ ρ' : Ren}
mutual
theorem VR.mono (hs : Sub ρ ρ') : ∀ {v : AV} {c : Value}, VR ev ρ v c → VR ev ρ' v c
  | _, _, .un h => .un h
  | _, _, .b x => .b x
  | _, _, .i q n => .i q n
  | _, _, .z h => .z h
  | _, _, .fl q x => .fl q x
  | _, _, .s h => .s h
  | _, _, .nilp => .nilp
  | _, _, .p h => .p (hs _ _ h)
  | _, _, .nils => .nils
  | _, _, .sl h a b c d e => .sl (hs _ _ h) a b c d e
  | _, _, .ag h h1 => .ag (VRs.mono hs h) h1
  | _, _, .tu h => .tu (VRs.mono hs h)
  | _, _, .fn h => .fn (VRs.mono hs h)
  | _, _, .nilf => .nilf
  | _, _, .nat h => .nat h
  | _, _, .osl h hx => .osl h hx
theorem VRs.mono (hs : Sub ρ ρ') : ∀ {l : List AV} {cs : List Value}, VRs ev ρ l cs → VRs ev ρ' l cs
  | _, _, .nil => .nil
  | _, _, .cons h t => .cons (VR.mono hs h) (VRs.mono hs t)
end
theorem VRs.length : ∀ {l : List AV} {cs : List Value}, VRs ev ρ l cs → l.length = cs.length
  | _, _, .nil => rfl
  | _, _, .cons _ t => by simp [t.length]
theorem VRs.get : ∀ {l : List AV} {cs : List Value}, VRs ev ρ l cs → ∀ {n : Nat} {v : AV}, l[n]? = some v → ∃ c, cs[n]? = some c ∧ VR ev ρ v c
  | _, _, .nil, _, _, h => by simp at h
  | _, _, .cons (c := c) hx t, 0, v, h => by simp only [List.getElem?_cons_zero, Option.some.injEq] at h; subst h; exact ⟨c, rfl, hx⟩
  | _, _, .cons _ t, n + 1, v, h => by
    simp only [List.getElem?_cons_succ] at h ⊢
    exact t.get h
theorem VRs.append : ∀ {l : List AV} {cs : List Value}, VRs ev ρ l cs → ∀ {r : List AV} {ds : List Value}, VRs ev ρ r ds → VRs ev ρ (l ++ r) (cs ++ ds)
  | _, _, .nil, _, _, h => h
  | _, _, .cons hx t, _, _, h => .cons hx (t.append h)
theorem VRs.drop : ∀ (n : Nat) {l : List AV} {cs : List Value}, VRs ev ρ l cs → VRs ev ρ (l.drop n) (cs.drop n)
  | 0, _, _, h => h
  | _ + 1, _, _, .nil => .nil
  | n + 1, _, _, .cons _ t => VRs.drop n t
theorem VRs.take : ∀ (n : Nat) {l : List AV} {cs : List Value}, VRs ev ρ l cs → VRs ev ρ (l.take n) (cs.take n)
  | 0, _, _, _ => by simp only [List.take_zero]; exact .nil
  | _ + 1, _, _, .nil => .nil
  | n + 1, _, _, .cons hx t => .cons hx (VRs.take n t)
theorem VRs.set : ∀ {l : List AV} {cs : List Value}, VRs ev ρ l cs → ∀ (n : Nat) {v : AV} {c : Value}, VR ev ρ v c → VRs ev ρ (l.set n v) (cs.set n c)
  | _, _, .nil, _, _, _, _ => .nil
  | _, _, .cons _ t, 0, _, _, h => .cons h t
  | _, _, .cons hx t, n + 1, _, _, h => .cons hx (t.set n h)
theorem oneCell_int (q : IntKind) (n : Int) : (Value.int q n).oneCell' = true := rfl
/-- Those that are one cell. -/
theorem VR.one {v : AV} {c : Value} (h : VR ev ρ v c) : (∃ l, v = .ag l) ∨ (∃ l, v = .tu l) ∨ c.oneCell' = true := by
  cases h <;> first | exact .inl ⟨_, rfl⟩ | exact .inr (.inl ⟨_, rfl⟩) | exact .inr (.inr rfl) | exact .inr (.inr ‹_›)
end
/-- A row, as it lies. -/
def RowR (ev : Nat → Nat) (ρ : Ren) (w : World) (b o E : Nat) : Row → Prop
  | .dead => True
  | .ex l => l.length = E ∧ ∃ cs, VRs ev ρ l cs ∧ w.rangeAt b o cs ∧ ∀ v ∈ cs, v.oneCell' = true
  | .gr l => l.length ≤ E ∧ ∃ cs, VRs ev ρ l cs ∧ w.rangeAt b o cs ∧ ∀ v ∈ cs, v.oneCell' = true
  | .it l p => ∃ s, byteNs s = l ∧ w.heap[b]? = some (.stringIter s p) ∧ o = 0
structure HR (ev : Nat → Nat) (B : Nat) (σ : Heap) (ρ : Ren) (w : World) : Prop where
  fresh : ∀ r x, ρ r = some x → r.num < σ.nx.num
  row : ∀ r b o E, ρ r = some (b, o, E) → B ≤ b ∧ b < w.heap.size ∧ w.there b o E ∧ RowR ev ρ w b o E (σ.get r)
  apart : ∀ r r' b o E o' E', ρ r = some (b, o, E) → ρ r' = some (b, o', E') → r = r' ∨ σ.get r = .dead ∨ σ.get r' = .dead
structure Ext (ρ : Ren) (σ : Heap) (ρ' : Ren) (σ' : Heap) : Prop where
  sub : Sub ρ ρ'
  old : ∀ r : Id, r.num < σ.nx.num → ρ r = none → ρ' r = none ∧ (σ'.get r = σ.get r ∨ σ'.get r = .dead)
  nx : σ.nx.num ≤ σ'.nx.num
theorem Ext.refl (ρ : Ren) (σ : Heap) : Ext ρ σ ρ σ := ⟨.refl ρ, fun _ _ h => ⟨h, .inl rfl⟩, Nat.le_refl _⟩
theorem Ext.trans {ρ ρ' ρ'' : Ren} {σ σ' σ'' : Heap} (h : Ext ρ σ ρ' σ') (h' : Ext ρ' σ' ρ'' σ'') : Ext ρ σ ρ'' σ'' :=
  ⟨h.sub.trans h'.sub, fun r hr hn => by
    obtain ⟨h1, h2⟩ := h.old r hr hn
    obtain ⟨h3, h4⟩ := h'.old r (Nat.lt_of_lt_of_le hr h.nx) h1
    refine ⟨h3, ?_⟩
    rcases h4 with h4 | h4
    · rcases h2 with h2 | h2
      · exact .inl (h4.trans h2)
      · exact .inr (h4.trans h2)
    · exact .inr h4, Nat.le_trans h.nx h'.nx⟩
/-- What an operation looks at. -/
def Opnds (ev : Nat → Nat) (ρ : Ren) (fr : Fm) (a : Act) (o : Oper) : Prop := ∀ x ∈ o.op.operands, VR ev ρ (oval x fr) (a.eval x)
section
variable (P : Program) (ev : Nat → Nat) (B : Nat)
/-- An operation yields v, the world stands. -/
def LdS (o : Oper) (fr : Fm) (σ : Heap) (v : AV) : Prop :=
  ∀ (ρ : Ren) (a : Act) (w : World), Opnds ev ρ fr a o → (isRd o = true → HR ev B σ ρ w) → ∃ cv, (execOp a.eval o).run P w = .ok (.value cv) w ∧ VR ev ρ v cv
/-- An operation makes a row, of number r, and yields v; in whatever heap that has such a row. -/
def AlS (o : Oper) (fr : Fm) (r : Id) (row : Row) (v : AV) : Prop :=
  ∀ (ρ : Ren) (a : Act) (w : World) (σ : Heap), B ≤ w.heap.size → Opnds ev ρ fr a o → HR ev B σ ρ w → ρ r = none → (σ.get r = row ∨ σ.get r = .dead) → r.num < σ.nx.num →
    ∃ cv w' ρ', (execOp a.eval o).run P w = .ok (.value cv) w' ∧ Sub ρ ρ' ∧ (∀ q, q ≠ r → ρ' q = ρ q) ∧ VR ev ρ' v cv ∧ HR ev B σ ρ' w' ∧ Below B w w' ∧ B ≤ w'.heap.size
/-- An operation, whatever it does. -/
def HvS (o : Oper) (fr : Fm) (σ : Heap) (v : AV) (σ' : Heap) : Prop :=
  ∀ (ρ : Ren) (a : Act) (w : World) (K : Act → World → Prop) (Q : Exit → Act → World → Prop), B ≤ w.heap.size → Opnds ev ρ fr a o → HR ev B σ ρ w →
    (∀ ρ' cv w', Ext ρ σ ρ' σ' → VR ev ρ' v cv → HR ev B σ' ρ' w' → Below B w w' → B ≤ w'.heap.size → K (a.put o.dst cv) w') → o.wp P a w K Q
/-- What becomes of a function that is called. -/
def callWp (f : Nat) (args : Array Value) (w : World) (R : Value → World → Prop) : Prop :=
  match (callFunc f args).run P w with
  | .ok (.value v) w' => R v w'
  | .ok (.enter g as) w' => Calls P g as w' fun e w'' => match e with | .returned v => R v w'' | _ => False
  | _ => False
def CallS (f : Nat) (vs : List AV) (σ : Heap) (v : AV) (σ' : Heap) : Prop :=
  ∀ (ρ : Ren) (cs : List Value) (w : World) (R : Value → World → Prop), B ≤ w.heap.size → VRs ev ρ vs cs → HR ev B σ ρ w →
    (∀ ρ' cv w', Ext ρ σ ρ' σ' → VR ev ρ' v cv → HR ev B σ' ρ' w' → Below B w w' → B ≤ w'.heap.size → R cv w') → callWp P f cs.toArray w R
def CallOk (call : CallF) : Prop := ∀ f vs σ (k : K2), call f vs σ k = true → ∃ v σ', k v σ' = true ∧ CallS P ev B f vs σ v σ'
end

section
variable {P : Program} {ev : Nat → Nat} {B : Nat} {σ : Heap} {ρ : Ren} {w : World}
theorem RowR.mono {ρ' : Ren} (hs : Sub ρ ρ') {b o E : Nat} {row : Row} (h : RowR ev ρ w b o E row) : RowR ev ρ' w b o E row := by
  cases row with
  | dead => trivial
  | ex l => obtain ⟨h1, cs, h2, h3, h4⟩ := h; exact ⟨h1, cs, h2.mono hs, h3, h4⟩
  | gr l => obtain ⟨h1, cs, h2, h3, h4⟩ := h; exact ⟨h1, cs, h2.mono hs, h3, h4⟩
  | it l p => exact h
/-- A row in a block that stands as it stood. -/
theorem RowR.keep {w' : World} {b o E : Nat} {row : Row} (h : RowR ev ρ w b o E row) (hr : ∀ cs, w.rangeAt b o cs → w'.rangeAt b o cs) (hb : w'.heap[b]? = w.heap[b]?) : RowR ev ρ w' b o E row := by
  cases row with
  | dead => trivial
  | ex l => obtain ⟨h1, cs, h2, h3, h4⟩ := h; exact ⟨h1, cs, h2, hr _ h3, h4⟩
  | gr l => obtain ⟨h1, cs, h2, h3, h4⟩ := h; exact ⟨h1, cs, h2, hr _ h3, h4⟩
  | it l p => obtain ⟨s, h1, h2, h3⟩ := h; exact ⟨s, h1, hb.trans h2, h3⟩
theorem HR.drew (h : HR ev B σ ρ w) : HR ev B σ ρ w.drew :=
  ⟨h.fresh, fun r b o E hr => by
    obtain ⟨h1, h2, h3, h4⟩ := h.row r b o E hr
    exact ⟨h1, h2, by simpa using h3, h4.keep (fun cs hc => by simpa using hc) rfl⟩, h.apart⟩
theorem HR.push (h : HR ev B σ ρ w) {n2 : Id} (hn : n2.num = σ.nx.num + 1) (row : Row) : HR ev B (σ.push n2 row) ρ w := by
  have hne : ∀ {r x}, ρ r = some x → r ≠ σ.nx := fun hr e => by have := h.fresh _ _ hr; rw [e] at this; exact absurd this (Nat.lt_irrefl _)
  refine ⟨fun r x hr => ?_, fun r b o E hr => ?_, fun r r' b o E o' E' hr hr' => ?_⟩
  · have := h.fresh r x hr
    show r.num < n2.num
    omega
  · obtain ⟨h1, h2, h3, h4⟩ := h.row r b o E hr
    refine ⟨h1, h2, h3, ?_⟩
    rw [Heap.get_push, if_neg (hne hr)]
    exact h4
  · rw [Heap.get_push, if_neg (hne hr), Heap.get_push, if_neg (hne hr')]
    exact h.apart r r' b o E o' E' hr hr'
open Classical in
/-- One row more is known. -/
noncomputable def Ren.put (ρ : Ren) (r : Id) (x : Nat × Nat × Nat) : Ren := fun q => if q = r then some x else ρ q
theorem Ren.put_same (ρ : Ren) (r : Id) (x : Nat × Nat × Nat) : ρ.put r x r = some x := by simp [Ren.put]
theorem Ren.put_ne (ρ : Ren) {r q : Id} (x : Nat × Nat × Nat) (h : q ≠ r) : ρ.put r x q = ρ q := by simp [Ren.put, h]
theorem Ren.sub_put {ρ : Ren} {r : Id} (h : ρ r = none) (x : Nat × Nat × Nat) : Sub ρ (ρ.put r x) := fun q y hq => by
  have : q ≠ r := fun e => by subst e; rw [h] at hq; cases hq
  rw [Ren.put_ne _ _ this]; exact hq
/-- A new row comes to lie in a new block. -/
theorem HR.alloc (h : HR ev B σ ρ w) (hB : B ≤ w.heap.size) {r : Id} (hr : ρ r = none) (hx : r.num < σ.nx.num) (ob : Obj) {E : Nat} (ht : (w.alloc ob).there w.heap.size 0 E)
    (hrow : RowR ev (ρ.put r (w.heap.size, 0, E)) (w.alloc ob) w.heap.size 0 E (σ.get r)) :
    HR ev B σ (ρ.put r (w.heap.size, 0, E)) (w.alloc ob) := by
  have hs := Ren.sub_put hr (w.heap.size, 0, E)
  have inv : ∀ {q b o F}, ρ.put r (w.heap.size, 0, E) q = some (b, o, F) → (q = r ∧ b = w.heap.size ∧ o = 0 ∧ F = E) ∨ (q ≠ r ∧ ρ q = some (b, o, F)) := fun {q b o F} hq => by
    by_cases e : q = r
    · subst e
      rw [Ren.put_same] at hq
      simp only [Option.some.injEq, Prod.mk.injEq] at hq
      exact .inl ⟨rfl, hq.1.symm, hq.2.1.symm, hq.2.2.symm⟩
    · rw [Ren.put_ne _ _ e] at hq; exact .inr ⟨e, hq⟩
  refine ⟨fun q x hq => ?_, fun q b o F hq => ?_, fun q q' b o F o' F' hq hq' => ?_⟩
  · obtain ⟨b, o, F⟩ := x
    rcases inv hq with ⟨rfl, _⟩ | ⟨_, h1⟩
    · exact hx
    · exact h.fresh _ _ h1
  · rcases inv hq with ⟨rfl, rfl, rfl, rfl⟩ | ⟨_, h1⟩
    · exact ⟨hB, by simp, ht, hrow⟩
    · obtain ⟨a1, a2, a3, a4⟩ := h.row q b o F h1
      refine ⟨a1, by simp; omega, World.there_alloc a3 ob, (a4.mono hs).keep (fun cs hc => World.rangeAt_alloc hc ob) (heap_alloc_old w ob b a2)⟩
  · rcases inv hq with ⟨rfl, rfl, rfl, rfl⟩ | ⟨_, h1⟩ <;> rcases inv hq' with ⟨rfl, e, _⟩ | ⟨_, h2⟩
    · exact .inl rfl
    · exact absurd (h.row q' _ _ _ h2).2.1 (Nat.lt_irrefl _)
    · subst e; exact absurd (h.row q _ _ _ h1).2.1 (Nat.lt_irrefl _)
    · exact h.apart q q' b o F o' F' h1 h2
def isGr : Row → List AV → Prop := fun w l => w = .ex l ∨ w = .gr l
theorem RowR.cells {b o E : Nat} {row : Row} {l : List AV} (h : RowR ev ρ w b o E row) (hl : row = .ex l ∨ row = .gr l) : l.length ≤ E ∧ ∃ cs, VRs ev ρ l cs ∧ w.rangeAt b o cs ∧ ∀ v ∈ cs, v.oneCell' = true := by
  rcases hl with rfl | rfl
  · exact ⟨Nat.le_of_eq h.1, h.2⟩
  · exact h
/-- A heap in which row r is another one. -/
theorem HR.setRow (h : HR ev B σ ρ w) {w' : World} {r : Id} {b o E : Nat} {row : Row} (hr : ρ r = some (b, o, E)) (hal : σ.get r ≠ .dead) (hsz : w'.heap.size = w.heap.size) (hth : ∀ b o n, w.there b o n → w'.there b o n)
    (hoth : ∀ b', b' ≠ b → (∀ o cs, w.rangeAt b' o cs → w'.rangeAt b' o cs) ∧ w'.heap[b']? = w.heap[b']?) (hrow : RowR ev ρ w' b o E row) : HR ev B (σ.set r row) ρ w' := by
  refine ⟨h.fresh, fun q b' o' F hq => ?_, fun q q' b' o' F o'' F' hq hq' => ?_⟩
  · obtain ⟨h1, h2, h3, h4⟩ := h.row q b' o' F hq
    refine ⟨h1, by omega, hth _ _ _ h3, ?_⟩
    rw [Heap.get_set]
    by_cases e : q = r
    · subst e
      rw [hr] at hq
      simp only [Option.some.injEq, Prod.mk.injEq] at hq
      obtain ⟨rfl, rfl, rfl⟩ := hq
      rw [if_pos rfl]; exact hrow
    · rw [if_neg e]
      by_cases hb : b' = b
      · subst hb
        rcases h.apart q r b' o' F o E hq hr with e1 | e1 | e1
        · exact absurd e1 e
        · rw [e1]; trivial
        · exact absurd e1 hal
      · obtain ⟨k1, k2⟩ := hoth b' hb
        exact h4.keep (k1 o') k2
  · rcases h.apart q q' b' o' F o'' F' hq hq' with e1 | e1 | e1
    · exact .inl e1
    · by_cases e : q = r
      · subst e; exact absurd e1 hal
      · exact .inr (.inl (by rw [Heap.get_set, if_neg e]; exact e1))
    · by_cases e : q' = r
      · subst e; exact absurd e1 hal
      · exact .inr (.inr (by rw [Heap.get_set, if_neg e]; exact e1))
theorem heap_setCells_ne (w : World) (b o : Nat) (vs : List Value) (k : Nat) (h : k ≠ b) : (w.setCells b o vs).heap[k]? = w.heap[k]? := by
  induction vs generalizing o w with
  | nil => rfl
  | cons v vs ih => rw [World.setCells, ih]; exact heap_setCell_other w ⟨b, o, none⟩ k v h
theorem size_setCells' (w : World) (b o : Nat) (vs : List Value) : (w.setCells b o vs).heap.size = w.heap.size := by
  induction vs generalizing o w with
  | nil => rfl
  | cons v vs ih => rw [World.setCells, ih]; simp
theorem below_setCells (w : World) {B b : Nat} (o : Nat) (vs : List Value) (hb : B ≤ b) : Below B w (w.setCells b o vs) := by
  induction vs generalizing o w with
  | nil => exact Below.refl B w
  | cons v vs ih =>
    rw [World.setCells]
    exact ((Below.refl B w).setCell (p := ⟨b, o, none⟩) hb v).trans (ih _ _)
theorem World.rangeAt_iff_append {w : World} {b o : Nat} {xs ys : List Value} : w.rangeAt b o (xs ++ ys) ↔ w.rangeAt b o xs ∧ w.rangeAt b (o + xs.length) ys := by
  constructor
  · intro h
    refine ⟨fun j v hv => h j v (by rw [List.getElem?_append_left (List.getElem?_eq_some_iff.1 hv).1]; exact hv), fun j v hv => ?_⟩
    have := h (xs.length + j) v (by rw [List.getElem?_append_right (by omega)]; simpa using hv)
    rw [Nat.add_assoc]; exact this
  · rintro ⟨h1, h2⟩ j v hv
    by_cases hj : j < xs.length
    · rw [List.getElem?_append_left hj] at hv; exact h1 j v hv
    · rw [List.getElem?_append_right (by omega)] at hv
      have := h2 (j - xs.length) v hv
      rw [show o + xs.length + (j - xs.length) = o + j by omega] at this
      exact this
/-- Cells are stored into a row. -/
theorem HR.store (h : HR ev B σ ρ w) {r : Id} {b base E o : Nat} {l vs : List AV} {cs : List Value} (hr : ρ r = some (b, base, E)) (mk : List AV → Row) (hmk : mk = .ex ∨ mk = .gr) (hl : σ.get r = mk l)
    (hv : VRs ev ρ vs cs) (h1 : ∀ v ∈ cs, v.oneCell' = true) (ho : o + vs.length ≤ l.length) :
    HR ev B (σ.set r (mk (l.take o ++ vs ++ l.drop (o + vs.length)))) ρ (w.setCells b (base + o) cs) ∧ Below B w (w.setCells b (base + o) cs) ∧ w.there b (base + o) cs.length := by
  obtain ⟨k1, k2, k3, k4⟩ := h.row r b base E hr
  have hlen := hv.length
  have hw : l.length ≤ E ∧ ∃ ds, VRs ev ρ l ds ∧ w.rangeAt b base ds ∧ ∀ v ∈ ds, v.oneCell' = true := k4.cells (l := l) (by rcases hmk with rfl | rfl <;> simp [hl])
  obtain ⟨hE, ds, hd, hds, hd1⟩ := hw
  have hdl := hd.length
  have hthere : w.there b (base + o) cs.length := fun j hj => by rw [Nat.add_assoc]; exact k3 (o + j) (by omega)
  refine ⟨?_, below_setCells w _ _ k1, hthere⟩
  refine h.setRow hr (by rw [hl]; rcases hmk with rfl | rfl <;> simp) (size_setCells' _ _ _ _) (fun b o n ht => World.there_setCells ht _ _ _) (fun b' hb' => ⟨fun o' cs' hc => World.rangeAt_setCells_apart hc b (base + o) cs (.inl hb'), heap_setCells_ne w b _ cs b' hb'⟩) ?_
  have hsplit : w.rangeAt b base (ds.take o ++ ((ds.drop o).take cs.length ++ ds.drop (o + cs.length))) := by
    have : ds.take o ++ ((ds.drop o).take cs.length ++ ds.drop (o + cs.length)) = ds := by
      rw [← List.drop_drop, List.take_append_drop, List.take_append_drop]
    rw [this]; exact hds
  rw [World.rangeAt_iff_append, World.rangeAt_iff_append] at hsplit
  obtain ⟨s1, -, s3⟩ := hsplit
  have hto : (ds.take o).length = o := by rw [List.length_take]; omega
  have htk : ((ds.drop o).take cs.length).length = cs.length := by rw [List.length_take, List.length_drop]; omega
  rw [hto, htk] at s3
  have hnew : (w.setCells b (base + o) cs).rangeAt b base (ds.take o ++ cs ++ ds.drop (o + cs.length)) := by
    rw [List.append_assoc, World.rangeAt_iff_append, World.rangeAt_iff_append]
    refine ⟨World.rangeAt_setCells_apart s1 _ _ _ (.inr (.inl (by rw [hto]; exact Nat.le_refl _))), ?_, ?_⟩
    · rw [hto]; exact World.rangeAt_setCells_same w b (base + o) cs hthere
    · rw [hto]; exact World.rangeAt_setCells_apart s3 _ _ _ (.inr (.inr (Nat.le_refl _)))
  have hVR : VRs ev ρ (l.take o ++ vs ++ l.drop (o + vs.length)) (ds.take o ++ cs ++ ds.drop (o + cs.length)) := by
    rw [hlen]
    exact ((hd.take o).append hv).append (hd.drop _)
  have hlenN : (l.take o ++ vs ++ l.drop (o + vs.length)).length = l.length := by simp [List.length_take, List.length_drop]; omega
  have hone : ∀ v ∈ ds.take o ++ cs ++ ds.drop (o + cs.length), v.oneCell' = true := fun v hv' => by
    rcases List.mem_append.1 hv' with h' | h'
    · rcases List.mem_append.1 h' with h' | h'
      · exact hd1 v (List.mem_of_mem_take h')
      · exact h1 v h'
    · exact hd1 v (List.mem_of_mem_drop h')
  rcases hmk with rfl | rfl
  · have hEx : l.length = E := by rw [hl] at k4; exact k4.1
    exact ⟨by rw [hlenN]; exact hEx, _, hVR, hnew, hone⟩
  · exact ⟨by rw [hlenN]; exact hE, _, hVR, hnew, hone⟩
theorem HR.load (h : HR ev B σ ρ w) {r : Id} {b base E : Nat} {l : List AV} (hr : ρ r = some (b, base, E)) (hl : σ.get r = .ex l ∨ σ.get r = .gr l) :
    l.length ≤ E ∧ ∃ cs, VRs ev ρ l cs ∧ w.rangeAt b base cs ∧ ∀ v ∈ cs, v.oneCell' = true := (h.row r b base E hr).2.2.2.cells hl
theorem HR.kill (h : HR ev B σ ρ w) (r : Id) : HR ev B (σ.set r .dead) ρ w := by
  refine ⟨h.fresh, fun q b' o' F hq => ?_, fun q q' b' o' F o'' F' hq hq' => ?_⟩
  · obtain ⟨h1, h2, h3, h4⟩ := h.row q b' o' F hq
    refine ⟨h1, h2, h3, ?_⟩
    rw [Heap.get_set]
    split
    · trivial
    · exact h4
  · rcases h.apart q q' b' o' F o'' F' hq hq' with e1 | e1 | e1
    · exact .inl e1
    · exact .inr (.inl (by rw [Heap.get_set, e1]; exact ite_self _))
    · exact .inr (.inr (by rw [Heap.get_set, e1]; exact ite_self _))
end
end Go.Rk
