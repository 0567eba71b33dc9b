/-
  Words of our own, of no program: the reckoner: a long run in pieces: a call that was run once, from such and such a heap, is answered out of a table.
-/
import Derived.Test.YtlkchdbbpnkbfaaGreatDoorRkY
namespace Go.Rk
open Go.RowKit
noncomputable section
variable {P : Program} {ev : Nat → Nat} {B : Nat}
-- equal, deeply
def eqVL (eq : AV → AV → Bool) : List AV → List AV → Bool
  | [], [] => true
  | x :: l, y :: r => Bool.and (eq x y) (eqVL eq l r)
  | _, _ => false
def eqV : Nat → AV → AV → Bool
  | 0, x, y => eqS x y
  | n + 1, x, y => match x, y with
    | .ag l, .ag r => eqVL (eqV n) l r
    | .tu l, .tu r => eqVL (eqV n) l r
    | .fn f l, .fn g r => Bool.and (Nat.beq f g) (eqVL (eqV n) l r)
    | x, y => eqS x y
theorem eqVL_inv {eq : AV → AV → Bool} (he : ∀ x y, eq x y = true → x = y) : ∀ {l r : List AV}, eqVL eq l r = true → l = r
  | [], [], _ => rfl
  | x :: l, y :: r, h => by
    obtain ⟨h1, h2⟩ := and_inv (show Bool.and (eq x y) (eqVL eq l r) = true from h)
    rw [he _ _ h1, eqVL_inv he h2]
  | [], _ :: _, h => nomatch (show false = true from h)
  | _ :: _, [], h => nomatch (show false = true from h)
theorem eqV_inv : ∀ (n : Nat) (x y : AV), eqV n x y = true → x = y
  | 0, x, y, h => eqS_inv (show eqS x y = true from h)
  | n + 1, x, y, h => by
    unfold eqV at h
    split at h
    · rw [eqVL_inv (eqV_inv n) h]
    · rw [eqVL_inv (eqV_inv n) h]
    · obtain ⟨h1, h2⟩ := and_inv h
      rw [Nat.eq_of_beq_eq_true h1, eqVL_inv (eqV_inv n) h2]
    · exact eqS_inv h
def eqR (v w : Row) : Bool :=
  match v, w with
  | .dead, .dead => true
  | .ex l, .ex r => eqVL (eqV 2) l r
  | .gr l, .gr r => eqVL (eqV 2) l r
  | .it l p, .it r q => Bool.and (eqN l r) (Nat.beq p q)
  | _, _ => false
theorem eqR_inv {v w : Row} (h : eqR v w = true) : v = w := by
  unfold eqR at h
  split at h
  · rfl
  · rw [eqVL_inv (eqV_inv 2) h]
  · rw [eqVL_inv (eqV_inv 2) h]
  · obtain ⟨h1, h2⟩ := and_inv h
    rw [eqN_iff.1 h1, Nat.eq_of_beq_eq_true h2]
  · cases h
/-- The row of that number. -/
def q (n : Nat) : Id := ⟨ix (n / 512), ix (n % 512)⟩
abbrev Rows := List (Nat × Row)
def setH (l : Rows) (σ : Heap) : Heap := l.foldl (fun σ p => σ.set (q p.1) p.2) σ
def setHK (l : Rows) (σ : Heap) (k : Heap → Bool) : Bool :=
  List.rec (motive := fun _ => Heap → Bool) k (fun p _ ih σ => σ.put (q p.1) p.2 ih) l σ
theorem setHK_eq : ∀ (l : Rows) (σ : Heap) (k : Heap → Bool), setHK l σ k = k (setH l σ)
  | [], _, _ => rfl
  | p :: l, σ, k => by
    show σ.put (q p.1) p.2 (fun σ => setHK l σ k) = _
    rw [Heap.put_eq, setHK_eq l]; rfl
def empH (n : Nat) : Heap := ⟨T3.all (T3.all .dead), q n⟩
theorem empH_get (n : Nat) (r : Id) : (empH n).get r = .dead := by
  obtain ⟨x, y⟩ := r
  show get3 y (get3 x (T3.all (T3.all Row.dead))) = _
  rw [get3_all, get3_all]
/-- The heap of these rows. -/
def mkH (n : Nat) (l : Rows) : Heap := setH l (empH n)
theorem setH_nx : ∀ (l : Rows) (σ : Heap), (setH l σ).nx = σ.nx
  | [], _ => rfl
  | p :: l, σ => by show (setH l (σ.set (q p.1) p.2)).nx = _; rw [setH_nx l]; rfl
theorem setH_get : ∀ (l : Rows) (σ : Heap) (r : Id), (setH l σ).get r = σ.get r ∨ ∃ p ∈ l, q p.1 = r ∧ (setH l σ).get r = p.2
  | [], _, _ => .inl rfl
  | p :: l, σ, r => by
    show (setH l (σ.set (q p.1) p.2)).get r = _ ∨ ∃ p' ∈ p :: l, q p'.1 = r ∧ (setH l (σ.set (q p.1) p.2)).get r = p'.2
    rcases setH_get l (σ.set (q p.1) p.2) r with h | ⟨p', h1, h2, h3⟩
    · rw [h, Heap.get_set]
      by_cases e : r = q p.1
      · subst e
        exact .inr ⟨p, List.mem_cons_self .., rfl, if_pos rfl⟩
      · rw [if_neg e]; exact .inl rfl
    · exact .inr ⟨p', List.mem_cons_of_mem _ h1, h2, h3⟩
theorem mkH_get (n : Nat) (l : Rows) (r : Id) : (mkH n l).get r = .dead ∨ ∃ p ∈ l, q p.1 = r ∧ (mkH n l).get r = p.2 := by
  rcases setH_get l (empH n) r with h | h
  · exact .inl (h.trans (empH_get n r))
  · exact .inr h
/-- A heap of which that much is so. -/
def leH (n : Nat) (l : Rows) (σ : Heap) : Bool :=
  Bool.and (eqId σ.nx (q n)) (List.rec (motive := fun _ => Bool) true (fun p _ ih => Bool.and (eqR (σ.get (q p.1)) p.2) ih) l)
theorem leL_inv {σ : Heap} : ∀ {l : Rows}, (List.rec (motive := fun _ => Bool) true (fun (p : Nat × Row) _ ih => Bool.and (eqR (σ.get (q p.1)) p.2) ih) l) = true → ∀ p ∈ l, σ.get (q p.1) = p.2
  | [], _, _, h => nomatch h
  | p :: l, h, p', hp => by
    obtain ⟨h1, h2⟩ := and_inv h
    rcases List.mem_cons.1 hp with rfl | hp
    · exact eqR_inv h1
    · exact leL_inv h2 p' hp
/-- Less is known. -/
structure Less (σ0 σ : Heap) : Prop where
  nx : σ0.nx = σ.nx
  row : ∀ r, σ0.get r = .dead ∨ σ0.get r = σ.get r
theorem leH_inv {n : Nat} {l : Rows} {σ : Heap} (h : leH n l σ = true) : Less (mkH n l) σ := by
  obtain ⟨h1, h2⟩ := and_inv h
  refine ⟨by rw [show (mkH n l).nx = q n from setH_nx l _, eqId_inv h1], fun r => ?_⟩
  rcases mkH_get n l r with h | ⟨p, hp, rfl, e⟩
  · exact .inl h
  · exact .inr (e.trans (leL_inv h2 p hp).symm)
theorem Less.hr {σ0 σ : Heap} {ρ : Ren} {w : World} (hl : Less σ0 σ) (h : HR ev B σ ρ w) : HR ev B σ0 ρ w := by
  refine ⟨fun r x hr => by rw [hl.nx]; exact h.fresh r x hr, fun r b o E hr => ?_, fun r r' b o E o' E' hr hr' => ?_⟩
  · obtain ⟨h1, h2, h3, h4⟩ := h.row r b o E hr
    refine ⟨h1, h2, h3, ?_⟩
    rcases hl.row r with e | e
    · rw [e]; trivial
    · rw [e]; exact h4
  · rcases h.apart r r' b o E o' E' hr hr' with e | e | e
    · exact .inl e
    · refine .inr (.inl ?_)
      rcases hl.row r with e' | e'
      · exact e'
      · rw [e']; exact e
    · refine .inr (.inr ?_)
      rcases hl.row r' with e' | e'
      · exact e'
      · rw [e']; exact e
theorem Less.ext {σ0 σ σ1 σ' : Heap} {ρ ρ' : Ren} (h0 : Less σ0 σ) (h1 : Less σ1 σ') (h : Ext ρ σ0 ρ' σ') : Ext ρ σ ρ' σ1 := by
  refine ⟨h.sub, fun r hr hn => ?_, by rw [← h0.nx, h1.nx]; exact h.nx⟩
  obtain ⟨h2, h3⟩ := h.old r (by rw [h0.nx]; exact hr) hn
  refine ⟨h2, ?_⟩
  rcases h1.row r with e | e
  · exact .inr e
  · rcases h3 with e2 | e2
    · rcases h0.row r with e3 | e3
      · exact .inr (e.trans (e2.trans e3))
      · exact .inl (e.trans (e2.trans e3))
    · exact .inr (e.trans e2)
/-- A call that was run: of what, over which heap; what came of it. -/
structure Seg where
  a : List AV
  n : Nat
  l : Rows
  v : AV
  m : Nat
  r : Rows
def Seg.fin (s : Seg) (v : AV) (σ : Heap) : Bool := Bool.and (eqV 3 v s.v) (leH s.m s.r σ)
def Seg.runs (s : Seg) (P : Program) (ov : Over) (f : Nat) : Bool := setHK s.l (empH s.n) fun σ => callK P ov 200 1000000 60 f s.a σ s.fin
def Seg.hit (s : Seg) (vs : List AV) (σ : Heap) (yes no : Bool) : Bool := iff_ (eqId σ.nx (q s.n)) (iff_ (Bool.and (eqVL (eqV 3) vs s.a) (leH s.n s.l σ)) yes no) no
def memo (tab : List Seg) (vs : List AV) (σ : Heap) (k : K2) : Bool :=
  List.rec (motive := fun _ => Bool) false (fun s _ ih => s.hit vs σ (setHK s.r (empH s.m) (k s.v)) ih) tab
theorem Seg.ok (s : Seg) {ov : Over} {f : Nat} (hm : P.follows .mixedOrders = true) (hn : namesOk P = true) (hov : OvOk P ev B ov) (h : s.runs P ov f = true) {σ : Heap} (hl : Less (mkH s.n s.l) σ) : CallS P ev B f s.a σ s.v (mkH s.m s.r) := by
  unfold Seg.runs at h
  rw [setHK_eq] at h
  obtain ⟨v, σ', h1, h2⟩ := call_ok (ev := ev) (B := B) hm hn hov 60 f s.a (mkH s.n s.l) s.fin h
  obtain ⟨h3, h4⟩ := and_inv h1
  have hv := eqV_inv 3 _ _ h3
  subst hv
  have hl1 := leH_inv h4
  intro ρ cs w R hB hvs hr hR
  exact h2 ρ cs w R hB hvs (hl.hr hr) fun ρ' cv w' he hv' hr' hb hB' => hR ρ' cv w' (hl.ext hl1 he) hv' (hl1.hr hr') hb hB'
theorem memo_ok {ov : Over} {f : Nat} (hm : P.follows .mixedOrders = true) (hn : namesOk P = true) (hov : OvOk P ev B ov) : ∀ {tab : List Seg}, (∀ s ∈ tab, s.runs P ov f = true) → ∀ {vs : List AV} {σ : Heap} {k : K2}, memo tab vs σ k = true → ∃ v σ', k v σ' = true ∧ CallS P ev B f vs σ v σ'
  | [], _, _, _, _, h => nomatch (show false = true from h)
  | s :: tab, hs, vs, σ, k, h => by
    have h' : s.hit vs σ (setHK s.r (empH s.m) (k s.v)) (memo tab vs σ k) = true := h
    have no : memo tab vs σ k = true → ∃ v σ', k v σ' = true ∧ CallS P ev B f vs σ v σ' := fun g => memo_ok hm hn hov (fun s hs' => hs s (List.mem_cons_of_mem _ hs')) g
    unfold Seg.hit at h'
    rcases iff_inv h' with ⟨-, h2⟩ | ⟨-, h2⟩
    · rcases iff_inv h2 with ⟨g, h3⟩ | ⟨-, h3⟩
      · obtain ⟨g1, g2⟩ := and_inv g
        have hv := eqVL_inv (eqV_inv 3) g1
        subst hv
        rw [setHK_eq] at h3
        exact ⟨s.v, mkH s.m s.r, h3, s.ok hm hn hov (hs s (List.mem_cons_self ..)) (leH_inv g2)⟩
      · exact no h3
    · exact no h2
def ovM (f0 : Nat) (tab : List Seg) (ov : Over) : Over := fun f => if Nat.beq f f0 then some (memo tab) else ov f
theorem ovM_ok {f0 : Nat} {tab : List Seg} {ov : Over} (hm : P.follows .mixedOrders = true) (hn : namesOk P = true) (hov : OvOk P ev B ov) (hs : ∀ s ∈ tab, s.runs P ov f0 = true) : OvOk P ev B (ovM f0 tab ov) := fun f g hg vs σ k h => by
  unfold ovM at hg
  split at hg
  · rename_i e
    have := Nat.eq_of_beq_eq_true e
    subst this
    cases hg
    exact memo_ok hm hn hov hs h
  · exact hov f g hg vs σ k h
end
end Go.Rk
