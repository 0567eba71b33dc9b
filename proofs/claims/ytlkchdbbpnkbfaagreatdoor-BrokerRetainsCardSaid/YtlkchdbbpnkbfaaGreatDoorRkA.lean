/-
  Words of our own, of no program: a reckoner, which runs code over values that stand for Go's, first part: digits, trees, values.
-/
import Derived.Deep.AppendSrc
import Derived.Deep.MidRow
import Derived.LoopN
import Derived.Scope
namespace Go.Rk
noncomputable section
inductive D8 where | a | b | c | d | e | f | g | h
  deriving DecidableEq
structure N8 (α : Type) where
  a : α
  b : α
  c : α
  d : α
  e : α
  f : α
  g : α
  h : α
def N8.all {α : Type} (x : α) : N8 α := ⟨x, x, x, x, x, x, x, x⟩
def sel {α : Type} (i : D8) (t : N8 α) : α :=
  D8.rec (motive := fun _ => N8 α → α) (fun t => t.a) (fun t => t.b) (fun t => t.c) (fun t => t.d) (fun t => t.e) (fun t => t.f) (fun t => t.g) (fun t => t.h) i t
def upd {α : Type} (i : D8) (t : N8 α) (v : α) : N8 α :=
  match i with
  | .a => { t with a := v } | .b => { t with b := v } | .c => { t with c := v } | .d => { t with d := v }
  | .e => { t with e := v } | .f => { t with f := v } | .g => { t with g := v } | .h => { t with h := v }
/-- A change at a digit, by whoever makes it: strict. -/
def updK {α : Type} (i : D8) (t : N8 α) (go : α → (α → Bool) → Bool) (k : N8 α → Bool) : Bool :=
  D8.rec (motive := fun _ => N8 α → (α → (α → Bool) → Bool) → (N8 α → Bool) → Bool)
    (fun t go k => N8.rec (motive := fun _ => Bool) (fun a b c d e f g h => go a fun x => k ⟨x, b, c, d, e, f, g, h⟩) t)
    (fun t go k => N8.rec (motive := fun _ => Bool) (fun a b c d e f g h => go b fun x => k ⟨a, x, c, d, e, f, g, h⟩) t)
    (fun t go k => N8.rec (motive := fun _ => Bool) (fun a b c d e f g h => go c fun x => k ⟨a, b, x, d, e, f, g, h⟩) t)
    (fun t go k => N8.rec (motive := fun _ => Bool) (fun a b c d e f g h => go d fun x => k ⟨a, b, c, x, e, f, g, h⟩) t)
    (fun t go k => N8.rec (motive := fun _ => Bool) (fun a b c d e f g h => go e fun x => k ⟨a, b, c, d, x, f, g, h⟩) t)
    (fun t go k => N8.rec (motive := fun _ => Bool) (fun a b c d e f g h => go f fun x => k ⟨a, b, c, d, e, x, g, h⟩) t)
    (fun t go k => N8.rec (motive := fun _ => Bool) (fun a b c d e f g h => go g fun x => k ⟨a, b, c, d, e, f, x, h⟩) t)
    (fun t go k => N8.rec (motive := fun _ => Bool) (fun a b c d e f g h => go h fun x => k ⟨a, b, c, d, e, f, g, x⟩) t)
    i t go k
theorem updK_eq {α : Type} (i : D8) (t : N8 α) (go : α → (α → Bool) → Bool) (k : N8 α → Bool) : updK i t go k = go (sel i t) fun x => k (upd i t x) := by
  cases i <;> rfl
theorem sel_upd {α : Type} (i j : D8) (t : N8 α) (v : α) : sel i (upd j t v) = if i = j then v else sel i t := by
  cases i <;> cases j <;> rfl
structure I3 where
  x : D8
  y : D8
  z : D8
  deriving DecidableEq
abbrev T3 (α : Type) := N8 (N8 (N8 α))
def T3.all {α : Type} (x : α) : T3 α := N8.all (N8.all (N8.all x))
def get3 {α : Type} (i : I3) (t : T3 α) : α := I3.rec (motive := fun _ => T3 α → α) (fun x y z t => sel z (sel y (sel x t))) i t
def set3 {α : Type} (i : I3) (t : T3 α) (v : α) : T3 α := upd i.x t (upd i.y (sel i.x t) (upd i.z (sel i.y (sel i.x t)) v))
def mod3 {α : Type} (i : I3) (t : T3 α) (go : α → (α → Bool) → Bool) (k : T3 α → Bool) : Bool :=
  I3.rec (motive := fun _ => T3 α → (α → (α → Bool) → Bool) → (T3 α → Bool) → Bool)
    (fun x y z t go k => updK x t (fun t1 k1 => updK y t1 (fun t2 k2 => updK z t2 go k2) k1) k) i t go k
def put3 {α : Type} (i : I3) (t : T3 α) (v : α) (k : T3 α → Bool) : Bool := mod3 i t (fun _ k => k v) k
theorem mod3_eq {α : Type} (i : I3) (t : T3 α) (go : α → (α → Bool) → Bool) (k : T3 α → Bool) : mod3 i t go k = go (get3 i t) fun x => k (set3 i t x) := by
  unfold mod3; simp only [updK_eq]; rfl
theorem put3_eq {α : Type} (i : I3) (t : T3 α) (v : α) (k : T3 α → Bool) : put3 i t v k = k (set3 i t v) := by unfold put3; rw [mod3_eq]
theorem get3_set3 {α : Type} (i j : I3) (t : T3 α) (v : α) : get3 i (set3 j t v) = if i = j then v else get3 i t := by
  obtain ⟨x, y, z⟩ := i
  obtain ⟨x', y', z'⟩ := j
  simp only [get3, set3, sel_upd, I3.mk.injEq]
  by_cases hx : x = x' <;> by_cases hy : y = y' <;> by_cases hz : z = z' <;> simp [hx, hy, hz, sel_upd]
theorem get3_all {α : Type} (i : I3) (v : α) : get3 i (T3.all v) = v := by
  obtain ⟨x, y, z⟩ := i
  cases x <;> cases y <;> cases z <;> rfl
def dg (n : Nat) : D8 := match n with | 0 => .a | 1 => .b | 2 => .c | 3 => .d | 4 => .e | 5 => .f | 6 => .g | _ => .h
def dn : D8 → Nat | .a => 0 | .b => 1 | .c => 2 | .d => 3 | .e => 4 | .f => 5 | .g => 6 | .h => 7
theorem dn_dg {n : Nat} (h : n < 8) : dn (dg n) = n := by
  match n, h with
  | 0, _ | 1, _ | 2, _ | 3, _ | 4, _ | 5, _ | 6, _ | 7, _ => rfl
  | n + 8, h => omega
def ix (n : Nat) : I3 := ⟨dg (n / 64 % 8), dg (n / 8 % 8), dg (n % 8)⟩
def xn (i : I3) : Nat := dn i.x * 64 + dn i.y * 8 + dn i.z
theorem xn_ix {n : Nat} (h : n < 512) : xn (ix n) = n := by
  unfold xn ix
  dsimp only
  rw [dn_dg (by omega), dn_dg (by omega), dn_dg (by omega)]
  omega
theorem ix_inj {m n : Nat} (hm : m < 512) (hn : n < 512) : ix m = ix n ↔ m = n := ⟨fun h => by rw [← xn_ix hm, ← xn_ix hn, h], fun h => by rw [h]⟩
/-- Numbers of rows. -/
structure Id where
  x : I3
  y : I3
  deriving DecidableEq
def Id.num (i : Id) : Nat := xn i.x * 512 + xn i.y
def d8S (i : D8) (k : D8 → Bool → Bool) : Bool :=
  D8.rec (motive := fun _ => (D8 → Bool → Bool) → Bool) (fun k => k .b false) (fun k => k .c false) (fun k => k .d false) (fun k => k .e false) (fun k => k .f false) (fun k => k .g false) (fun k => k .h false) (fun k => k .a true) i k
def i3S (i : I3) (k : I3 → Bool → Bool) : Bool :=
  I3.rec (motive := fun _ => Bool) (fun x y z => d8S z fun z' c => Bool.rec (motive := fun _ => Bool) (k ⟨x, y, z'⟩ false)
    (d8S y fun y' c => Bool.rec (motive := fun _ => Bool) (k ⟨x, y', z'⟩ false) (d8S x fun x' c => k ⟨x', y', z'⟩ c) c) c) i
def idS (i : Id) (k : Id → Bool) : Bool :=
  Id.rec (motive := fun _ => Bool) (fun x y => i3S y fun y' c => Bool.rec (motive := fun _ => Bool) (k ⟨x, y'⟩) (i3S x fun x' c => Bool.rec (motive := fun _ => Bool) (k ⟨x', y'⟩) false c) c) i
theorem d8S_inv {i : D8} {k : D8 → Bool → Bool} (h : d8S i k = true) : ∃ j c, k j c = true ∧ (if c then dn i = 7 ∧ dn j = 0 else dn j = dn i + 1) := by
  cases i <;> exact ⟨_, _, h, by decide⟩
theorem i3S_inv {i : I3} {k : I3 → Bool → Bool} (h : i3S i k = true) : ∃ j c, k j c = true ∧ (if c then xn j + 512 = xn i + 1 else xn j = xn i + 1) := by
  obtain ⟨x, y, z⟩ := i
  unfold i3S at h
  dsimp only at h
  obtain ⟨z', c, h, hz⟩ := d8S_inv h
  cases c with
  | false => refine ⟨_, _, h, ?_⟩; simp only [xn, Bool.false_eq_true, if_false] at hz ⊢; omega
  | true =>
    dsimp only at h
    obtain ⟨y', c, h, hy⟩ := d8S_inv h
    cases c with
    | false => refine ⟨_, _, h, ?_⟩; simp only [xn, Bool.false_eq_true, if_false, if_true] at hz hy ⊢; omega
    | true =>
      dsimp only at h
      obtain ⟨x', c, h, hx⟩ := d8S_inv h
      refine ⟨_, _, h, ?_⟩
      cases c <;> simp only [xn, Bool.false_eq_true, if_false, if_true] at hz hy hx ⊢ <;> omega
theorem idS_inv {i : Id} {k : Id → Bool} (h : idS i k = true) : ∃ j, k j = true ∧ j.num = i.num + 1 := by
  obtain ⟨x, y⟩ := i
  unfold idS at h
  dsimp only at h
  obtain ⟨y', c, h, hy⟩ := i3S_inv h
  cases c with
  | false => refine ⟨_, h, ?_⟩; simp only [Id.num, Bool.false_eq_true, if_false] at hy ⊢; omega
  | true =>
    dsimp only at h
    obtain ⟨x', c, h, hx⟩ := i3S_inv h
    cases c with
    | false => refine ⟨_, h, ?_⟩; simp only [Id.num, Bool.false_eq_true, if_false, if_true] at hy hx ⊢; omega
    | true => exact absurd h (by simp)
theorem dn_lt (i : D8) : dn i < 8 := by cases i <;> decide
theorem dn_inj {i j : D8} (h : dn i = dn j) : i = j := by cases i <;> cases j <;> first | rfl | exact absurd h (by decide)
theorem xn_lt (i : I3) : xn i < 512 := by
  have := dn_lt i.x; have := dn_lt i.y; have := dn_lt i.z
  unfold xn; omega
theorem xn_inj {i j : I3} (h : xn i = xn j) : i = j := by
  obtain ⟨x, y, z⟩ := i
  obtain ⟨x', y', z'⟩ := j
  have h1 := dn_lt x; have h2 := dn_lt y; have h3 := dn_lt z; have h4 := dn_lt x'; have h5 := dn_lt y'; have h6 := dn_lt z'
  simp only [xn] at h
  rw [dn_inj (show dn x = dn x' by omega), dn_inj (show dn y = dn y' by omega), dn_inj (show dn z = dn z' by omega)]
theorem Id.num_inj {i j : Id} (h : i.num = j.num) : i = j := by
  obtain ⟨x, y⟩ := i
  obtain ⟨x', y'⟩ := j
  have h1 := xn_lt x; have h2 := xn_lt y; have h3 := xn_lt x'; have h4 := xn_lt y'
  simp only [Id.num] at h
  rw [xn_inj (show xn x = xn x' by omega), xn_inj (show xn y = xn y' by omega)]
theorem Id.num_ne {i j : Id} (h : i.num < j.num) : i ≠ j := fun e => by subst e; omega

/-- Values that stand for Go's. -/
inductive AV where
  | un
  | b (x : Bool)
  | i (k : IntKind) (n : Int)
  | cx (k : FloatKind) (re im : Nat)
  | fl (k : FloatKind) (x : Nat)
  | s (l : List Nat)
  | nilp
  | p (r : Id) (o : Nat)
  | nils
  | sl (r : Id) (o n : Nat) (c : Option Nat) (z : Nat)
  | ag (l : List AV)
  | tu (l : List AV)
  | fn (f : Nat) (l : List AV)
  | nilf
  | nat (j lb : Nat)
  | osl (j lb : Nat)
inductive Row where
  | dead
  | ex (l : List AV)
  | gr (l : List AV)
  | it (l : List Nat) (p : Nat)
structure Heap where
  t : T3 (T3 Row)
  nx : Id
def Heap.get (σ : Heap) (r : Id) : Row := Id.rec (motive := fun _ => Row) (fun x y => get3 y (get3 x σ.t)) r
def Heap.set (σ : Heap) (r : Id) (w : Row) : Heap := ⟨set3 r.x σ.t (set3 r.y (get3 r.x σ.t) w), σ.nx⟩
def Heap.put (σ : Heap) (r : Id) (w : Row) (k : Heap → Bool) : Bool :=
  Heap.rec (motive := fun _ => Bool) (fun t nx => Id.rec (motive := fun _ => Bool) (fun x y => mod3 x t (fun t k => put3 y t w k) fun t => k ⟨t, nx⟩) r) σ
theorem Heap.put_eq (σ : Heap) (r : Id) (w : Row) (k : Heap → Bool) : σ.put r w k = k (σ.set r w) := by
  obtain ⟨t, nx⟩ := σ
  obtain ⟨x, y⟩ := r
  unfold Heap.put
  dsimp only
  rw [mod3_eq, put3_eq]
  rfl
theorem Heap.get_set (σ : Heap) (r q : Id) (w : Row) : (σ.set q w).get r = if r = q then w else σ.get r := by
  obtain ⟨x, y⟩ := r
  obtain ⟨x', y'⟩ := q
  simp only [Heap.get, Heap.set, get3_set3, Id.mk.injEq]
  by_cases hx : x = x' <;> by_cases hy : y = y' <;> simp [hx, hy, get3_set3]
def deadK (w : Row) (k : Bool) : Bool := Row.rec (motive := fun _ => Bool) k (fun _ => false) (fun _ => false) (fun _ _ => false) w
theorem deadK_inv {w : Row} {k : Bool} (h : deadK w k = true) : w = .dead ∧ k = true := by
  cases w with
  | dead => exact ⟨rfl, h⟩
  | ex l => exact nomatch (show false = true from h)
  | gr l => exact nomatch (show false = true from h)
  | it l p => exact nomatch (show false = true from h)
/-- A new row. -/
def Heap.new (σ : Heap) (w : Row) (k : Id → Heap → Bool) : Bool :=
  Heap.rec (motive := fun _ => Bool) (fun t nx => idS nx fun n2 => Id.rec (motive := fun _ => Bool) (fun x y => mod3 x t (fun t k => mod3 y t (fun old k => deadK old (k w)) k) fun t => k nx ⟨t, n2⟩) nx) σ
def Heap.push (σ : Heap) (n2 : Id) (w : Row) : Heap := (⟨σ.t, n2⟩ : Heap).set σ.nx w
theorem Heap.new_inv {σ : Heap} {w : Row} {k : Id → Heap → Bool} (h : σ.new w k = true) : ∃ n2 : Id, (n2.num = σ.nx.num + 1 ∧ σ.get σ.nx = .dead) ∧ k σ.nx (σ.push n2 w) = true := by
  obtain ⟨t, nx⟩ := σ
  unfold Heap.new at h
  dsimp only at h
  obtain ⟨n2, h, hn⟩ := idS_inv h
  obtain ⟨x, y⟩ := nx
  dsimp only at h
  rw [mod3_eq, mod3_eq] at h
  obtain ⟨h1, h2⟩ := deadK_inv h
  exact ⟨n2, ⟨hn, h1⟩, h2⟩
theorem Heap.get_push (σ : Heap) (n2 : Id) (w : Row) (r : Id) : (σ.push n2 w).get r = if r = σ.nx then w else σ.get r := by
  unfold Heap.push; rw [Heap.get_set]; rfl
abbrev Fm := T3 AV
-- strict lists
def setL (l : List AV) (n : Nat) (v : AV) (k : List AV → Bool) : Bool :=
  List.rec (motive := fun _ => Nat → (List AV → Bool) → Bool) (fun _ _ => false)
    (fun x t ih n k => Nat.rec (motive := fun _ => Bool) (k (v :: t)) (fun m _ => ih m fun t' => k (x :: t')) n) l n k
def getL (l : List AV) (n : Nat) (k : AV → Bool) : Bool :=
  List.rec (motive := fun _ => Nat → Bool) (fun _ => false) (fun x _ ih n => Nat.rec (motive := fun _ => Bool) (k x) (fun m _ => ih m) n) l n
def appL (l r : List AV) (k : List AV → Bool) : Bool :=
  List.rec (motive := fun _ => (List AV → Bool) → Bool) (fun k => k r) (fun x _ ih k => ih fun t => k (x :: t)) l k
def dropL (n : Nat) (l : List AV) (k : List AV → Bool) : Bool :=
  Nat.rec (motive := fun _ => List AV → Bool) k (fun _ ih l => List.rec (motive := fun _ => Bool) false (fun _ t _ => ih t) l) n l
def takeL (n : Nat) (l : List AV) (k : List AV → Bool) : Bool :=
  Nat.rec (motive := fun _ => List AV → (List AV → Bool) → Bool) (fun _ k => k []) (fun _ ih l k => List.rec (motive := fun _ => Bool) false (fun x t _ => ih t fun r => k (x :: r)) l) n l k
/-- l from o on is overwritten by vs. -/
def wrL (vs : List AV) (l : List AV) (k : List AV → Bool) : Bool :=
  List.rec (motive := fun _ => List AV → (List AV → Bool) → Bool) (fun l k => k l) (fun v _ ih l k => List.rec (motive := fun _ => Bool) false (fun _ t _ => ih t fun r => k (v :: r)) l) vs l k
def wrAt (o : Nat) (vs l : List AV) (k : List AV → Bool) : Bool :=
  Nat.rec (motive := fun _ => List AV → (List AV → Bool) → Bool) (wrL vs) (fun _ ih l k => List.rec (motive := fun _ => Bool) false (fun x t _ => ih t fun r => k (x :: r)) l) o l k
theorem setL_inv : ∀ {l : List AV} {n : Nat} {v : AV} {k : List AV → Bool}, setL l n v k = true → n < l.length ∧ k (l.set n v) = true
  | [], _, _, _, h => absurd h (by simp [setL])
  | x :: t, 0, v, k, h => ⟨by simp, h⟩
  | x :: t, n + 1, v, k, h => by
    have h' : setL t n v (fun t' => k (x :: t')) = true := h
    obtain ⟨h1, h2⟩ := setL_inv h'
    exact ⟨by simp; omega, h2⟩
theorem getL_inv : ∀ {l : List AV} {n : Nat} {k : AV → Bool}, getL l n k = true → ∃ v, l[n]? = some v ∧ k v = true
  | [], _, _, h => absurd h (by simp [getL])
  | x :: t, 0, k, h => ⟨x, rfl, h⟩
  | x :: t, n + 1, k, h => by
    have h' : getL t n k = true := h
    obtain ⟨v, h1, h2⟩ := getL_inv h'
    exact ⟨v, by simpa using h1, h2⟩
theorem appL_eq : ∀ (l r : List AV) (k : List AV → Bool), appL l r k = k (l ++ r)
  | [], _, _ => rfl
  | x :: t, r, k => by
    show appL t r (fun t => k (x :: t)) = _
    rw [appL_eq t r]; rfl
theorem dropL_inv : ∀ {n : Nat} {l : List AV} {k : List AV → Bool}, dropL n l k = true → n ≤ l.length ∧ k (l.drop n) = true
  | 0, _, _, h => ⟨Nat.zero_le _, h⟩
  | n + 1, [], _, h => absurd h (by simp [dropL])
  | n + 1, x :: t, k, h => by
    have h' : dropL n t k = true := h
    obtain ⟨h1, h2⟩ := dropL_inv h'
    exact ⟨by simp; omega, h2⟩
theorem takeL_inv : ∀ {n : Nat} {l : List AV} {k : List AV → Bool}, takeL n l k = true → n ≤ l.length ∧ k (l.take n) = true
  | 0, l, _, h => ⟨Nat.zero_le _, by rw [List.take_zero]; exact h⟩
  | n + 1, [], _, h => absurd h (by simp [takeL])
  | n + 1, x :: t, k, h => by
    have h' : takeL n t (fun r => k (x :: r)) = true := h
    obtain ⟨h1, h2⟩ := takeL_inv h'
    exact ⟨by simp; omega, h2⟩
theorem wrL_inv : ∀ {vs l : List AV} {k : List AV → Bool}, wrL vs l k = true → vs.length ≤ l.length ∧ k (vs ++ l.drop vs.length) = true
  | [], _, _, h => ⟨Nat.zero_le _, h⟩
  | v :: vs, [], _, h => absurd h (by simp [wrL])
  | v :: vs, x :: t, k, h => by
    have h' : wrL vs t (fun r => k (v :: r)) = true := h
    obtain ⟨h1, h2⟩ := wrL_inv h'
    exact ⟨by simp; omega, h2⟩
theorem wrAt_inv : ∀ {o : Nat} {vs l : List AV} {k : List AV → Bool}, wrAt o vs l k = true → o + vs.length ≤ l.length ∧ k (l.take o ++ vs ++ l.drop (o + vs.length)) = true
  | 0, vs, l, k, h => by
    have h' : wrL vs l k = true := h
    obtain ⟨h1, h2⟩ := wrL_inv h'
    exact ⟨by omega, by simpa using h2⟩
  | o + 1, vs, [], k, h => absurd h (by simp [wrAt])
  | o + 1, vs, x :: t, k, h => by
    have h' : wrAt o vs t (fun r => k (x :: r)) = true := h
    obtain ⟨h1, h2⟩ := wrAt_inv h'
    refine ⟨by simp; omega, ?_⟩
    have e : o + 1 + vs.length = (o + vs.length) + 1 := by omega
    rw [e, List.drop_succ_cons, List.take_succ_cons]
    exact h2
def forceV (v : AV) (k : AV → Bool) : Bool :=
  AV.rec (motive_1 := fun _ => (AV → Bool) → Bool) (motive_2 := fun _ => Unit) (fun k => k .un) (fun x k => k (.b x)) (fun q n k => k (.i q n)) (fun q r m k => k (.cx q r m)) (fun q x k => k (.fl q x)) (fun l k => k (.s l)) (fun k => k .nilp) (fun r o k => k (.p r o)) (fun k => k .nils)
    (fun r o n c z k => k (.sl r o n c z)) (fun l _ k => k (.ag l)) (fun l _ k => k (.tu l)) (fun f l _ k => k (.fn f l)) (fun k => k .nilf) (fun j lb k => k (.nat j lb)) (fun j lb k => k (.osl j lb)) () (fun _ _ _ _ => ()) v k
theorem forceV_eq (v : AV) (k : AV → Bool) : forceV v k = k v := by cases v <;> rfl
def forceN (n : Nat) (k : Nat → Bool) : Bool := Nat.rec (motive := fun _ => Bool) (k 0) (fun m _ => k (Nat.succ m)) n
theorem forceN_eq (n : Nat) (k : Nat → Bool) : forceN n k = k n := by cases n <;> rfl
end
end Go.Rk
