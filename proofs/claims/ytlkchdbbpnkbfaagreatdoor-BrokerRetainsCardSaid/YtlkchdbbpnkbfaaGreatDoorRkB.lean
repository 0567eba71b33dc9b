/-
  Words of our own, of no program: the reckoner, second part: operations.
-/
import Derived.Test.YtlkchdbbpnkbfaaGreatDoorRkA
namespace Go.Rk
noncomputable section

def asB (v : AV) (k : Bool → Bool) : Bool :=
  AV.rec (motive_1 := fun _ => (Bool → Bool) → Bool) (motive_2 := fun _ => Unit) (fun _ => false) (fun x => fun k => k x) (fun _ _ => fun _ => false) (fun _ _ _ => fun _ => false) (fun _ _ => fun _ => false) (fun _ => fun _ => false) (fun _ => false) (fun _ _ => fun _ => false) (fun _ => false) (fun _ _ _ _ _ => fun _ => false) (fun _ _ => fun _ => false) (fun _ _ => fun _ => false) (fun _ _ _ => fun _ => false) (fun _ => false) (fun _ _ => fun _ => false) (fun _ _ => fun _ => false) () (fun _ _ _ _ => ()) v k
theorem asB_inv {v : AV} {k : Bool → Bool} (h : asB v k = true) : ∃ x, v = .b x ∧ k x = true := by
  cases v <;> first | exact ⟨_, rfl, h⟩ | exact nomatch (show false = true from h)
def asI (v : AV) (k : IntKind → Int → Bool) : Bool :=
  AV.rec (motive_1 := fun _ => (IntKind → Int → Bool) → Bool) (motive_2 := fun _ => Unit) (fun _ => false) (fun _ => fun _ => false) (fun q n => fun k => k q n) (fun _ _ _ => fun _ => false) (fun _ _ => fun _ => false) (fun _ => fun _ => false) (fun _ => false) (fun _ _ => fun _ => false) (fun _ => false) (fun _ _ _ _ _ => fun _ => false) (fun _ _ => fun _ => false) (fun _ _ => fun _ => false) (fun _ _ _ => fun _ => false) (fun _ => false) (fun _ _ => fun _ => false) (fun _ _ => fun _ => false) () (fun _ _ _ _ => ()) v k
theorem asI_inv {v : AV} {k : IntKind → Int → Bool} (h : asI v k = true) : ∃ q n, v = .i q n ∧ k q n = true := by
  cases v <;> first | exact ⟨_, _, rfl, h⟩ | exact nomatch (show false = true from h)
def asS (v : AV) (k : List Nat → Bool) : Bool :=
  AV.rec (motive_1 := fun _ => (List Nat → Bool) → Bool) (motive_2 := fun _ => Unit) (fun _ => false) (fun _ => fun _ => false) (fun _ _ => fun _ => false) (fun _ _ _ => fun _ => false) (fun _ _ => fun _ => false) (fun l => fun k => k l) (fun _ => false) (fun _ _ => fun _ => false) (fun _ => false) (fun _ _ _ _ _ => fun _ => false) (fun _ _ => fun _ => false) (fun _ _ => fun _ => false) (fun _ _ _ => fun _ => false) (fun _ => false) (fun _ _ => fun _ => false) (fun _ _ => fun _ => false) () (fun _ _ _ _ => ()) v k
theorem asS_inv {v : AV} {k : List Nat → Bool} (h : asS v k = true) : ∃ l, v = .s l ∧ k l = true := by
  cases v <;> first | exact ⟨_, rfl, h⟩ | exact nomatch (show false = true from h)
def asP (v : AV) (k : Id → Nat → Bool) : Bool :=
  AV.rec (motive_1 := fun _ => (Id → Nat → Bool) → Bool) (motive_2 := fun _ => Unit) (fun _ => false) (fun _ => fun _ => false) (fun _ _ => fun _ => false) (fun _ _ _ => fun _ => false) (fun _ _ => fun _ => false) (fun _ => fun _ => false) (fun _ => false) (fun r o => fun k => k r o) (fun _ => false) (fun _ _ _ _ _ => fun _ => false) (fun _ _ => fun _ => false) (fun _ _ => fun _ => false) (fun _ _ _ => fun _ => false) (fun _ => false) (fun _ _ => fun _ => false) (fun _ _ => fun _ => false) () (fun _ _ _ _ => ()) v k
theorem asP_inv {v : AV} {k : Id → Nat → Bool} (h : asP v k = true) : ∃ r o, v = .p r o ∧ k r o = true := by
  cases v <;> first | exact ⟨_, _, rfl, h⟩ | exact nomatch (show false = true from h)
def asSl (v : AV) (k : Id → Nat → Nat → Option Nat → Nat → Bool) : Bool :=
  AV.rec (motive_1 := fun _ => (Id → Nat → Nat → Option Nat → Nat → Bool) → Bool) (motive_2 := fun _ => Unit) (fun _ => false) (fun _ => fun _ => false) (fun _ _ => fun _ => false) (fun _ _ _ => fun _ => false) (fun _ _ => fun _ => false) (fun _ => fun _ => false) (fun _ => false) (fun _ _ => fun _ => false) (fun _ => false) (fun r o n c z => fun k => k r o n c z) (fun _ _ => fun _ => false) (fun _ _ => fun _ => false) (fun _ _ _ => fun _ => false) (fun _ => false) (fun _ _ => fun _ => false) (fun _ _ => fun _ => false) () (fun _ _ _ _ => ()) v k
theorem asSl_inv {v : AV} {k : Id → Nat → Nat → Option Nat → Nat → Bool} (h : asSl v k = true) : ∃ r o n c z, v = .sl r o n c z ∧ k r o n c z = true := by
  cases v <;> first | exact ⟨_, _, _, _, _, rfl, h⟩ | exact nomatch (show false = true from h)
def asAg (v : AV) (k : List AV → Bool) : Bool :=
  AV.rec (motive_1 := fun _ => (List AV → Bool) → Bool) (motive_2 := fun _ => Unit) (fun _ => false) (fun _ => fun _ => false) (fun _ _ => fun _ => false) (fun _ _ _ => fun _ => false) (fun _ _ => fun _ => false) (fun _ => fun _ => false) (fun _ => false) (fun _ _ => fun _ => false) (fun _ => false) (fun _ _ _ _ _ => fun _ => false) (fun l _ => fun k => k l) (fun _ _ => fun _ => false) (fun _ _ _ => fun _ => false) (fun _ => false) (fun _ _ => fun _ => false) (fun _ _ => fun _ => false) () (fun _ _ _ _ => ()) v k
theorem asAg_inv {v : AV} {k : List AV → Bool} (h : asAg v k = true) : ∃ l, v = .ag l ∧ k l = true := by
  cases v <;> first | exact ⟨_, rfl, h⟩ | exact nomatch (show false = true from h)
def asTu (v : AV) (k : List AV → Bool) : Bool :=
  AV.rec (motive_1 := fun _ => (List AV → Bool) → Bool) (motive_2 := fun _ => Unit) (fun _ => false) (fun _ => fun _ => false) (fun _ _ => fun _ => false) (fun _ _ _ => fun _ => false) (fun _ _ => fun _ => false) (fun _ => fun _ => false) (fun _ => false) (fun _ _ => fun _ => false) (fun _ => false) (fun _ _ _ _ _ => fun _ => false) (fun _ _ => fun _ => false) (fun l _ => fun k => k l) (fun _ _ _ => fun _ => false) (fun _ => false) (fun _ _ => fun _ => false) (fun _ _ => fun _ => false) () (fun _ _ _ _ => ()) v k
theorem asTu_inv {v : AV} {k : List AV → Bool} (h : asTu v k = true) : ∃ l, v = .tu l ∧ k l = true := by
  cases v <;> first | exact ⟨_, rfl, h⟩ | exact nomatch (show false = true from h)
def asFn (v : AV) (k : Nat → List AV → Bool) : Bool :=
  AV.rec (motive_1 := fun _ => (Nat → List AV → Bool) → Bool) (motive_2 := fun _ => Unit) (fun _ => false) (fun _ => fun _ => false) (fun _ _ => fun _ => false) (fun _ _ _ => fun _ => false) (fun _ _ => fun _ => false) (fun _ => fun _ => false) (fun _ => false) (fun _ _ => fun _ => false) (fun _ => false) (fun _ _ _ _ _ => fun _ => false) (fun _ _ => fun _ => false) (fun _ _ => fun _ => false) (fun f l _ => fun k => k f l) (fun _ => false) (fun _ _ => fun _ => false) (fun _ _ => fun _ => false) () (fun _ _ _ _ => ()) v k
theorem asFn_inv {v : AV} {k : Nat → List AV → Bool} (h : asFn v k = true) : ∃ f l, v = .fn f l ∧ k f l = true := by
  cases v <;> first | exact ⟨_, _, rfl, h⟩ | exact nomatch (show false = true from h)

def half : IntKind → Nat
  | .i8 => 128 | .i16 => 32768 | .i32 => 2147483648 | .i64 => 9223372036854775808 | .u8 => 256 | .u16 => 65536 | .u32 => 4294967296 | .u64 => 18446744073709551616
def kc : IntKind → Nat | .i8 => 0 | .i16 => 1 | .i32 => 2 | .i64 => 3 | .u8 => 4 | .u16 => 5 | .u32 => 6 | .u64 => 7
def forceI (z : Int) (k : Int → Bool) : Bool := Int.rec (motive := fun _ => Bool) (fun m => forceN m fun m => k (.ofNat m)) (fun m => forceN m fun m => k (.negSucc m)) z
theorem forceI_eq (z : Int) (k : Int → Bool) : forceI z k = k z := by cases z <;> simp only [forceI, forceN_eq]
def iff_ (b : Bool) (t e : Bool) : Bool := Bool.rec (motive := fun _ => Bool) e t b
theorem iff_eq (b t e : Bool) : iff_ b t e = if b then t else e := by cases b <;> rfl
def guard_ (b : Bool) (t : Bool) : Bool := Bool.rec (motive := fun _ => Bool) false t b
theorem guard_inv {b t : Bool} (h : guard_ b t = true) : b = true ∧ t = true := by cases b with | true => exact ⟨rfl, h⟩ | false => exact nomatch (show false = true from h)
def wrN (q : IntKind) (m : Nat) (k : Int → Bool) : Bool := iff_ (Nat.ble (Nat.succ m) (half q)) (forceN m fun m => k (.ofNat m)) (forceI (q.wrap (.ofNat m)) k)
def onNN (x y : Int) (f : Nat → Nat → Bool) (g : Bool) : Bool :=
  Int.rec (motive := fun _ => Bool) (fun m => Int.rec (motive := fun _ => Bool) (fun n => f m n) (fun _ => g) y) (fun _ => g) x
theorem onNN_eq {x y : Int} {f : Nat → Nat → Bool} {g r : Bool} (h1 : ∀ m n : Nat, x = m → y = n → f m n = r) (h2 : g = r) : onNN x y f g = r := by
  cases x <;> cases y <;> first | exact h2 | exact h1 _ _ rfl rfl
def addF (q : IntKind) (x y : Int) (k : Int → Bool) : Bool := onNN x y (fun m n => wrN q (Nat.add m n) k) (forceI (q.wrap (x + y)) k)
def subF (q : IntKind) (x y : Int) (k : Int → Bool) : Bool := onNN x y (fun m n => iff_ (Nat.ble n m) (wrN q (Nat.sub m n) k) (forceI (q.wrap (x - y)) k)) (forceI (q.wrap (x - y)) k)
def mulF (q : IntKind) (x y : Int) (k : Int → Bool) : Bool := onNN x y (fun m n => wrN q (Nat.mul m n) k) (forceI (q.wrap (x * y)) k)
def quoF (q : IntKind) (x y : Int) (k : Int → Bool) : Bool := onNN x y (fun m n => iff_ (Nat.beq n 0) false (wrN q (Nat.div m n) k)) (iff_ (decide (y = 0)) false (forceI (q.wrap (x.tdiv y)) k))
def remF (x y : Int) (k : Int → Bool) : Bool := onNN x y (fun m n => iff_ (Nat.beq n 0) false (forceN (Nat.mod m n) fun z => k (.ofNat z))) (iff_ (decide (y = 0)) false (forceI (x.tmod y) k))
def shlF (q : IntKind) (x y : Int) (k : Int → Bool) : Bool := onNN x y (fun m n => iff_ (Nat.ble (Nat.succ n) q.bits) (wrN q (Nat.mul m (Nat.pow 2 n)) k) (forceI (q.wrap (x * 2 ^ (min y.toNat q.bits))) k)) (iff_ (decide (y < 0)) false (forceI (q.wrap (x * 2 ^ (min y.toNat q.bits))) k))
def shrF (q : IntKind) (x y : Int) (k : Int → Bool) : Bool := onNN x y (fun m n => iff_ (Nat.ble (Nat.succ n) q.bits) (forceN (Nat.div m (Nat.pow 2 n)) fun z => k (.ofNat z)) (forceI (x.fdiv (2 ^ (min y.toNat q.bits))) k)) (iff_ (decide (y < 0)) false (forceI (x.fdiv (2 ^ (min y.toNat q.bits))) k))
def bitsF (f : (n : Nat) → BitVec n → BitVec n → BitVec n) (q : IntKind) (x y : Int) (k : Int → Bool) : Bool := forceI (q.wrap ((f q.bits (BitVec.ofInt q.bits x) (BitVec.ofInt q.bits y)).toNat : Nat)) k
def eqF (x y : Int) (k : Bool → Bool) : Bool := onNN x y (fun m n => iff_ (Nat.beq m n) (k true) (k false)) (iff_ (x == y) (k true) (k false))
def ltF (x y : Int) (k : Bool → Bool) : Bool := onNN x y (fun m n => iff_ (Nat.ble (Nat.succ m) n) (k true) (k false)) (iff_ (decide (x < y)) (k true) (k false))
def leF (x y : Int) (k : Bool → Bool) : Bool := onNN x y (fun m n => iff_ (Nat.ble m n) (k true) (k false)) (iff_ (decide (x ≤ y)) (k true) (k false))
def sameK (q q' : IntKind) (t : Bool) : Bool := guard_ (Nat.beq (kc q) (kc q')) t
/-- Two numbers. -/
def binI (op : BinOp) (q : IntKind) (x : Int) (q' : IntKind) (y : Int) (k : AV → Bool) : Bool :=
  BinOp.rec (motive := fun _ => IntKind → Int → IntKind → Int → (AV → Bool) → Bool)
    (fun q x q' y k => sameK q q' (addF q x y fun n => k (.i q n)))
    (fun q x q' y k => sameK q q' (subF q x y fun n => k (.i q n)))
    (fun q x q' y k => sameK q q' (mulF q x y fun n => k (.i q n)))
    (fun q x q' y k => sameK q q' (quoF q x y fun n => k (.i q n)))
    (fun q x q' y k => sameK q q' (remF x y fun n => k (.i q n)))
    (fun q x q' y k => sameK q q' (bitsF (fun _ a b => a &&& b) q x y fun n => k (.i q n)))
    (fun q x q' y k => sameK q q' (bitsF (fun _ a b => a ||| b) q x y fun n => k (.i q n)))
    (fun q x q' y k => sameK q q' (bitsF (fun _ a b => a ^^^ b) q x y fun n => k (.i q n)))
    (fun q x _ y k => shlF q x y fun n => k (.i q n))
    (fun q x _ y k => shrF q x y fun n => k (.i q n))
    (fun q x q' y k => sameK q q' (bitsF (fun _ a b => a &&& ~~~b) q x y fun n => k (.i q n)))
    (fun q x q' y k => sameK q q' (eqF x y fun t => k (.b t)))
    (fun q x q' y k => sameK q q' (eqF x y fun t => k (.b (Bool.not t))))
    (fun q x q' y k => sameK q q' (ltF x y fun t => k (.b t)))
    (fun q x q' y k => sameK q q' (leF x y fun t => k (.b t)))
    (fun q x q' y k => sameK q q' (ltF y x fun t => k (.b t)))
    (fun q x q' y k => sameK q q' (leF y x fun t => k (.b t))) op q x q' y k
-- texts
def eqN (l r : List Nat) : Bool :=
  List.rec (motive := fun _ => List Nat → Bool) (fun r => List.rec (motive := fun _ => Bool) true (fun _ _ _ => false) r)
    (fun x _ ih r => List.rec (motive := fun _ => Bool) false (fun y t _ => guard_ (Nat.beq x y) (ih t)) r) l r
def ltN (l r : List Nat) : Bool :=
  List.rec (motive := fun _ => List Nat → Bool) (fun r => List.rec (motive := fun _ => Bool) false (fun _ _ _ => true) r)
    (fun x _ ih r => List.rec (motive := fun _ => Bool) false (fun y t _ => iff_ (Nat.ble (Nat.succ x) y) true (guard_ (Nat.beq x y) (ih t))) r) l r
def appN (l r : List Nat) (k : List Nat → Bool) : Bool := List.rec (motive := fun _ => (List Nat → Bool) → Bool) (fun k => k r) (fun x _ ih k => ih fun t => k (x :: t)) l k
def lenN {α : Type} (l : List α) (k : Nat → Bool) : Bool := List.rec (motive := fun _ => Nat → Bool) k (fun _ _ ih n => forceN (Nat.succ n) ih) l 0
def dropN (n : Nat) (l : List Nat) (k : List Nat → Bool) : Bool :=
  Nat.rec (motive := fun _ => List Nat → Bool) k (fun _ ih l => List.rec (motive := fun _ => Bool) false (fun _ t _ => ih t) l) n l
def takeN (n : Nat) (l : List Nat) (k : List Nat → Bool) : Bool :=
  Nat.rec (motive := fun _ => List Nat → (List Nat → Bool) → Bool) (fun _ k => k []) (fun _ ih l k => List.rec (motive := fun _ => Bool) false (fun x t _ => ih t fun r => k (x :: r)) l) n l k
def getN (l : List Nat) (n : Nat) (k : Nat → Bool) : Bool :=
  List.rec (motive := fun _ => Nat → Bool) (fun _ => false) (fun x _ ih n => Nat.rec (motive := fun _ => Bool) (k x) (fun m _ => ih m) n) l n
def fB (b : Bool) (k : AV → Bool) : Bool := iff_ b (k (.b true)) (k (.b false))
def binS (op : BinOp) (x y : List Nat) (k : AV → Bool) : Bool :=
  BinOp.rec (motive := fun _ => List Nat → List Nat → (AV → Bool) → Bool)
    (fun x y k => lenN x fun m => lenN y fun n => guard_ (Nat.ble (Nat.add m n) 9223372036854775807) (appN x y fun z => k (.s z)))
    (fun _ _ _ => false) (fun _ _ _ => false) (fun _ _ _ => false) (fun _ _ _ => false) (fun _ _ _ => false) (fun _ _ _ => false) (fun _ _ _ => false) (fun _ _ _ => false) (fun _ _ _ => false) (fun _ _ _ => false)
    (fun x y k => fB (eqN x y) k) (fun x y k => fB (Bool.not (eqN x y)) k) (fun x y k => fB (ltN x y) k) (fun x y k => fB (iff_ (ltN x y) true (eqN x y)) k)
    (fun x y k => fB (Bool.not (iff_ (ltN x y) true (eqN x y))) k) (fun x y k => fB (Bool.not (ltN x y)) k) op x y k
/-- Equal, or not: of what is no number and no text. -/
def eqOp (op : BinOp) (b : Bool) (k : AV → Bool) : Bool :=
  BinOp.rec (motive := fun _ => Bool → (AV → Bool) → Bool) (fun _ _ => false) (fun _ _ => false) (fun _ _ => false) (fun _ _ => false) (fun _ _ => false) (fun _ _ => false) (fun _ _ => false) (fun _ _ => false) (fun _ _ => false) (fun _ _ => false) (fun _ _ => false)
    (fun b k => fB b k) (fun b k => fB (Bool.not b) k) (fun _ _ => false) (fun _ _ => false) (fun _ _ => false) (fun _ _ => false) op b k
def eqvB (x y : Bool) : Bool := iff_ x y (Bool.not y)
/-- What kind of type: 1 bool, 2 pointer, 3 slice, 4 func. -/
def tk (P : Program) (t : Nat) : Nat := match P.underlying t with | some .bool => 1 | some (.pointer _) => 2 | some (.slice _) => 3 | some (.func ..) => 4 | some .string => 5 | some (.int _) => 6 | _ => 0
def geF (lb : Nat) (n : Int) (k : AV → Bool) : Bool := iff_ (decide (n ≤ (lb : Int))) (k (.b true)) false

def isNilp : AV → Bool :=
  AV.rec (motive_1 := fun _ => Bool) (motive_2 := fun _ => Unit) (false) (fun _ => false) (fun _ _ => false) (fun _ _ _ => false) (fun _ _ => false) (fun _ => false) (true) (fun _ _ => false) (false) (fun _ _ _ _ _ => false) (fun _ _ => false) (fun _ _ => false) (fun _ _ _ => false) (false) (fun _ _ => false) (fun _ _ => false) () (fun _ _ _ _ => ())
def isNils : AV → Bool :=
  AV.rec (motive_1 := fun _ => Bool) (motive_2 := fun _ => Unit) (false) (fun _ => false) (fun _ _ => false) (fun _ _ _ => false) (fun _ _ => false) (fun _ => false) (false) (fun _ _ => false) (true) (fun _ _ _ _ _ => false) (fun _ _ => false) (fun _ _ => false) (fun _ _ _ => false) (false) (fun _ _ => false) (fun _ _ => false) () (fun _ _ _ _ => ())
def isNilf : AV → Bool :=
  AV.rec (motive_1 := fun _ => Bool) (motive_2 := fun _ => Unit) (false) (fun _ => false) (fun _ _ => false) (fun _ _ _ => false) (fun _ _ => false) (fun _ => false) (false) (fun _ _ => false) (false) (fun _ _ _ _ _ => false) (fun _ _ => false) (fun _ _ => false) (fun _ _ _ => false) (true) (fun _ _ => false) (fun _ _ => false) () (fun _ _ _ _ => ())
/-- nil, or not -/
def nilP : AV → (Bool → Bool) → Bool :=
  AV.rec (motive_1 := fun _ => (Bool → Bool) → Bool) (motive_2 := fun _ => Unit) (fun _ => false) (fun _ => fun _ => false) (fun _ _ => fun _ => false) (fun _ _ _ => fun _ => false) (fun _ _ => fun _ => false) (fun _ => fun _ => false) (fun k => k true) (fun _ _ => fun k => k false) (fun _ => false) (fun _ _ _ _ _ => fun _ => false) (fun _ _ => fun _ => false) (fun _ _ => fun _ => false) (fun _ _ _ => fun _ => false) (fun _ => false) (fun _ _ => fun _ => false) (fun _ _ => fun _ => false) () (fun _ _ _ _ => ())
/-- nil, or not -/
def nilS : AV → (Bool → Bool) → Bool :=
  AV.rec (motive_1 := fun _ => (Bool → Bool) → Bool) (motive_2 := fun _ => Unit) (fun _ => false) (fun _ => fun _ => false) (fun _ _ => fun _ => false) (fun _ _ _ => fun _ => false) (fun _ _ => fun _ => false) (fun _ => fun _ => false) (fun _ => false) (fun _ _ => fun _ => false) (fun k => k true) (fun _ _ _ _ _ => fun k => k false) (fun _ _ => fun _ => false) (fun _ _ => fun _ => false) (fun _ _ _ => fun _ => false) (fun _ => false) (fun _ _ => fun _ => false) (fun _ _ => fun _ => false) () (fun _ _ _ _ => ())
/-- nil, or not -/
def nilF : AV → (Bool → Bool) → Bool :=
  AV.rec (motive_1 := fun _ => (Bool → Bool) → Bool) (motive_2 := fun _ => Unit) (fun _ => false) (fun _ => fun _ => false) (fun _ _ => fun _ => false) (fun _ _ _ => fun _ => false) (fun _ _ => fun _ => false) (fun _ => fun _ => false) (fun _ => false) (fun _ _ => fun _ => false) (fun _ => false) (fun _ _ _ _ _ => fun _ => false) (fun _ _ => fun _ => false) (fun _ _ => fun _ => false) (fun _ _ _ => fun k => k false) (fun k => k true) (fun _ _ => fun _ => false) (fun _ _ => fun _ => false) () (fun _ _ _ _ => ())

def natR (op : BinOp) (lb : Nat) (n : Int) (k : AV → Bool) : Bool :=
  BinOp.rec (motive := fun _ => (AV → Bool) → Bool) (fun _ => false) (fun _ => false) (fun _ => false) (fun _ => false) (fun _ => false) (fun _ => false) (fun _ => false) (fun _ => false) (fun _ => false) (fun _ => false) (fun _ => false)
    (fun _ => false) (fun _ => false) (fun _ => false) (fun _ => false)
    (fun k => iff_ (decide (n < (lb : Int))) (k (.b true)) false) (fun k => iff_ (decide (n ≤ (lb : Int))) (k (.b true)) false) op k
/-- a number that is known, and one that is not. -/
def natL (op : BinOp) (n : Int) (lb : Nat) (k : AV → Bool) : Bool :=
  BinOp.rec (motive := fun _ => (AV → Bool) → Bool) (fun _ => false) (fun _ => false) (fun _ => false) (fun _ => false) (fun _ => false) (fun _ => false) (fun _ => false) (fun _ => false) (fun _ => false) (fun _ => false) (fun _ => false)
    (fun _ => false) (fun _ => false)
    (fun k => iff_ (decide (n < (lb : Int))) (k (.b true)) false) (fun k => iff_ (decide (n ≤ (lb : Int))) (k (.b true)) false) (fun _ => false) (fun _ => false) op k

/-- a number on the left -/
def iRight : AV → BinOp → IntKind → Int → (AV → Bool) → Bool :=
  AV.rec (motive_1 := fun _ => BinOp → IntKind → Int → (AV → Bool) → Bool) (motive_2 := fun _ => Unit) (fun _ _ _ _ => false) (fun _ => fun _ _ _ _ => false) (fun q n => fun op q0 x k => binI op q0 x q n k) (fun _ _ _ => fun _ _ _ _ => false) (fun _ _ => fun _ _ _ _ => false) (fun _ => fun _ _ _ _ => false) (fun _ _ _ _ => false) (fun _ _ => fun _ _ _ _ => false) (fun _ _ _ _ => false) (fun _ _ _ _ _ => fun _ _ _ _ => false) (fun _ _ => fun _ _ _ _ => false) (fun _ _ => fun _ _ _ _ => false) (fun _ _ _ => fun _ _ _ _ => false) (fun _ _ _ _ => false) (fun _ lb => fun op q0 x k => guard_ (Nat.beq (kc q0) 3) (natL op x lb k)) (fun _ _ => fun _ _ _ _ => false) () (fun _ _ _ _ => ())
/-- the rest by 2 of a number of which that is known -/
def remZ (op : BinOp) (r : Nat) (k : AV → Bool) : Bool :=
  BinOp.rec (motive := fun _ => (AV → Bool) → Bool) (fun _ => false) (fun _ => false) (fun _ => false) (fun _ => false)
    (fun k => Nat.rec (motive := fun _ => Bool) false (fun m _ => Nat.rec (motive := fun _ => Bool) (k (.i .i64 (.negSucc 0))) (fun p _ => k (.i .i64 (.ofNat p))) m) r)
    (fun _ => false) (fun _ => false) (fun _ => false) (fun _ => false) (fun _ => false) (fun _ => false)
    (fun _ => false) (fun _ => false) (fun _ => false) (fun _ => false) (fun _ => false) (fun _ => false) op k
/-- two values -/
def binV : AV → BinOp → Nat → AV → (AV → Bool) → Bool :=
  AV.rec (motive_1 := fun _ => BinOp → Nat → AV → (AV → Bool) → Bool) (motive_2 := fun _ => Unit) (fun _ _ _ _ => false) (fun x => fun op t y k => guard_ (Nat.beq t 1) (asB y fun z => eqOp op (eqvB x z) k)) (fun q n => fun op _ y k => iRight y op q n k) (fun _ r _ => fun op _ y k => asI y fun q n => guard_ (Nat.beq (kc q) 3) (Int.rec (motive := fun _ => Bool) (fun m => guard_ (Nat.beq m 2) (remZ op r k)) (fun _ => false) n)) (fun _ _ => fun _ _ _ _ => false) (fun l => fun op _ y k => asS y fun r => binS op l r k) (fun op t y k => guard_ (Nat.beq t 2) (nilP y fun z => eqOp op z k)) (fun _ _ => fun op t y k => guard_ (Nat.beq t 2) (guard_ (isNilp y) (eqOp op false k))) (fun op t y k => guard_ (Nat.beq t 3) (nilS y fun z => eqOp op z k)) (fun _ _ _ _ _ => fun op t y k => guard_ (Nat.beq t 3) (guard_ (isNils y) (eqOp op false k))) (fun _ _ => fun _ _ _ _ => false) (fun _ _ => fun _ _ _ _ => false) (fun _ _ _ => fun op t y k => guard_ (Nat.beq t 4) (guard_ (isNilf y) (eqOp op false k))) (fun op t y k => guard_ (Nat.beq t 4) (nilF y fun z => eqOp op z k)) (fun _ lb => fun op _ y k => asI y fun q n => guard_ (Nat.beq (kc q) 3) (natR op lb n k)) (fun _ _ => fun _ _ _ _ => false) () (fun _ _ _ _ => ())

def byteNs (s : ByteArray) : List Nat := s.data.toList.map (·.toNat)
def cS : Value → AV
  | .bool x => .b x
  | .int q n => .i q n
  | .float q x => .fl q x
  | .string s => .s (byteNs s)
  | .pointer none => .nilp
  | .slice none 0 0 => .nils
  | .nilFunc => .nilf
  | _ => .un
def cVal : Value → AV
  | .agg cs => .ag (cs.toList.map cS)
  | .tuple _ => .tu []
  | v => cS v
def oval : Operand → Fm → AV
  | .tmp t => get3 (ix t)
  | .const v => fun _ => cVal v
  | .global _ => fun _ => .un
  | .func f => fun _ => .fn f []
def valOk : Value → Bool
  | .agg cs => cs.toList.all fun v => v.oneCell'
  | .tuple vs => vs.toList.isEmpty
  | _ => true
def zvOk : Value → Bool
  | .tuple _ => false
  | v => valOk v
def oOk : Operand → Bool
  | .tmp t => Nat.ble (Nat.succ t) 512
  | .const v => valOk v
  | _ => true
/-- Of a type: as a row of cells? how many. -/
def lay (P : Program) (t : Nat) : Option (Bool × Nat) :=
  match P.underlying t, P.info? t with
  | some d, some i => some (d.isRow, i.size)
  | _, _ => none
def zeroOf (P : Program) (t : Nat) : Option (List AV) :=
  match P.info? t with
  | some i => match i.zero with
    | some z => match zvOk z with
      | true => some (z.cells.toList.map cS)
      | false => none
    | none => none
  | none => none
abbrev K1 := AV → Bool
abbrev K2 := AV → Heap → Bool
abbrev CallF := Nat → List AV → Heap → K2 → Bool
def Heap.mod (σ : Heap) (r : Id) (go : Row → (Row → Bool) → Bool) (k : Heap → Bool) : Bool :=
  Heap.rec (motive := fun _ => Bool) (fun t nx => Id.rec (motive := fun _ => Bool) (fun x y => mod3 x t (fun t k => mod3 y t go k) fun t => k ⟨t, nx⟩) r) σ
theorem Heap.mod_eq (σ : Heap) (r : Id) (go : Row → (Row → Bool) → Bool) (k : Heap → Bool) : σ.mod r go k = go (σ.get r) fun w => k (σ.set r w) := by
  obtain ⟨t, nx⟩ := σ
  obtain ⟨x, y⟩ := r
  unfold Heap.mod
  dsimp only
  simp only [mod3_eq]
  rfl
def rowK (w : Row) (k : List AV → Bool) : Bool := Row.rec (motive := fun _ => (List AV → Bool) → Bool) (fun _ => false) (fun l k => k l) (fun l k => k l) (fun _ _ _ => false) w k
theorem rowK_inv {w : Row} {k : List AV → Bool} (h : rowK w k = true) : ∃ l, (w = .ex l ∨ w = .gr l) ∧ k l = true := by
  cases w with
  | dead => exact nomatch (show false = true from h)
  | ex l => exact ⟨l, .inl rfl, h⟩
  | gr l => exact ⟨l, .inr rfl, h⟩
  | it l p => exact nomatch (show false = true from h)
def rowGo (f : List AV → (List AV → Bool) → Bool) (w : Row) (k : Row → Bool) : Bool :=
  Row.rec (motive := fun _ => (List AV → (List AV → Bool) → Bool) → (Row → Bool) → Bool) (fun _ _ => false) (fun l f k => f l fun l => k (.ex l)) (fun l f k => f l fun l => k (.gr l)) (fun _ _ _ _ => false) w f k
-- loads
def ldRow (n : Nat) (x : AV) (σ : Heap) (k : K1) : Bool := asP x fun r o => rowK (σ.get r) fun l => dropL o l fun l => takeL n l fun l => k (.ag l)
def ldOne (x : AV) (σ : Heap) (k : K1) : Bool := asP x fun r o => rowK (σ.get r) fun l => getL l o fun v => forceV v k
def cLoad (P : Program) (t : Nat) (x : Operand) : Option (Fm → Heap → K1 → Bool) :=
  match lay P t with
  | some (true, n) => some fun fr σ k => ldRow n (oval x fr) σ k
  | some (false, _) => some fun fr σ k => ldOne (oval x fr) σ k
  | none => none

/-- the cells of a value -/
def cellsV : AV → (List AV → Bool) → Bool :=
  AV.rec (motive_1 := fun _ => (List AV → Bool) → Bool) (motive_2 := fun _ => Unit) (fun k => k [.un]) (fun x => fun k => k [.b x]) (fun q n => fun k => k [.i q n]) (fun q r m => fun k => k [.cx q r m]) (fun q x => fun k => k [.fl q x]) (fun l => fun k => k [.s l]) (fun k => k [.nilp]) (fun r o => fun k => k [.p r o]) (fun k => k [.nils]) (fun r o n c z => fun k => k [.sl r o n c z]) (fun l _ => fun k => k l) (fun _ _ => fun _ => false) (fun f l _ => fun k => k [.fn f l]) (fun k => k [.nilf]) (fun j lb => fun k => k [.nat j lb]) (fun j lb => fun k => k [.osl j lb]) () (fun _ _ _ _ => ())

def lenIs {α : Type} (l : List α) (n : Nat) (t : Bool) : Bool := lenN l fun m => guard_ (Nat.beq m n) t
def stK (n : Nat) (a x : AV) (σ : Heap) (k : K2) : Bool :=
  asP a fun r o => cellsV x fun vs => lenIs vs n (σ.mod r (rowGo fun l k => wrAt o vs l k) fun σ => k (.tu []) σ)
def pickK (x y : AV) (b : Bool) (k : K1) : Bool := iff_ b (k x) (k y)

/-- not nil -/
def nilCk : AV → K1 → Bool :=
  AV.rec (motive_1 := fun _ => K1 → Bool) (motive_2 := fun _ => Unit) (fun _ => false) (fun _ => fun _ => false) (fun _ _ => fun _ => false) (fun _ _ _ => fun _ => false) (fun _ _ => fun _ => false) (fun _ => fun _ => false) (fun _ => false) (fun r o => fun k => k (.p r o)) (fun _ => false) (fun _ _ _ _ _ => fun _ => false) (fun _ _ => fun _ => false) (fun _ _ => fun _ => false) (fun f l _ => fun k => k (.fn f l)) (fun _ => false) (fun _ _ => fun _ => false) (fun _ _ => fun _ => false) () (fun _ _ _ _ => ())

def unK (op : UnOp) (x : AV) (k : K1) : Bool :=
  UnOp.rec (motive := fun _ => AV → K1 → Bool) (fun x k => asI x fun q n => subF q 0 n fun n => k (.i q n))
    (fun x k => asI x fun q n => bitsF (fun _ a b => a ^^^ b) q (if q.signed then -1 else q.max) n fun n => k (.i q n))
    (fun x k => asB x fun b => fB (Bool.not b) k) (fun _ _ => false) op x k
def addrK (off : Nat) (x : AV) (k : K1) : Bool := asP x fun r o => forceN (Nat.add o off) fun o => k (.p r o)
/-- The address of field f of struct s. -/
def cFieldAddr (P : Program) (s f : Nat) : Option Nat :=
  match P.underlying s with
  | some (.struct fs) => match fs[f]? with
    | some fd => match P.info? fd.type with
      | some i => match i.size with
        | 0 => none
        | _ + 1 => some fd.offset
      | none => none
    | none => none
  | _ => none
def cField (P : Program) (s f : Nat) : Option (Nat × Bool × Nat) :=
  match P.underlying s with
  | some (.struct fs) => match fs[f]? with
    | some fd => match lay P fd.type with
      | some (b, n) => some (fd.offset, b, n)
      | none => none
    | none => none
  | _ => none
def partK (off : Nat) (row : Bool) (n : Nat) (l : List AV) (k : K1) : Bool :=
  iff_ row (dropL off l fun l => takeL n l fun l => k (.ag l)) (getL l off fun v => forceV v k)
/-- Of an array or slice: false: a slice; its elements' size; its length. -/
def cElem (P : Program) (t : Nat) : Option (Bool × Nat × Nat) :=
  match P.underlying t with
  | some (.slice e) => match P.info? e with
    | some i => some (false, i.size, 0)
    | none => none
  | some (.array n e) => match P.info? e with
    | some i => some (true, i.size, n)
    | none => none
  | _ => none
def natK (x : Int) (f : Nat → Bool) : Bool := Int.rec (motive := fun _ => Bool) f (fun _ => false) x
theorem natK_inv {x : Int} {f : Nat → Bool} (h : natK x f = true) : ∃ n : Nat, x = n ∧ f n = true := by
  cases x with
  | ofNat n => exact ⟨n, rfl, h⟩
  | negSucc n => exact nomatch (show false = true from h)
def ixSl (z : Nat) (x i : AV) (k : K1) : Bool :=
  asSl x fun r o n _ _ => asI i fun _ m => natK m fun m => guard_ (Nat.ble (Nat.succ m) n) (forceN (Nat.add o (Nat.mul m z)) fun o => k (.p r o))
def ixAr (z n : Nat) (x i : AV) (k : K1) : Bool :=
  asP x fun r o => asI i fun _ m => natK m fun m => guard_ (Nat.ble (Nat.succ m) n) (forceN (Nat.add o (Nat.mul m z)) fun o => k (.p r o))
def ixStr (x i : AV) (k : K1) : Bool := asS x fun l => asI i fun _ m => natK m fun m => getN l m fun b => k (.i .u8 (.ofNat b))
def exK (n : Nat) (x : AV) (k : K1) : Bool := asTu x fun l => getL l n fun v => forceV v k
-- slices
def bnd (x : Option AV) (dflt : Nat) (k : Nat → Bool) : Bool := match x with | none => k dflt | some v => asI v fun _ m => natK m k


def slStr (x : AV) (lo hi : Option AV) (k : K1) : Bool :=
  asS x fun l => lenN l fun n => bnd hi n fun h => guard_ (Nat.ble h n) (bnd lo 0 fun o => guard_ (Nat.ble o h) (dropN o l fun l => takeN (Nat.sub h o) l fun l => k (.s l)))
/-- What is sure of the capacity: c if it is known, else what the row has. -/
def capGe (r : Id) (o n : Nat) (c : Option Nat) (z h : Nat) (σ : Heap) (t : Bool) : Bool :=
  match c with
  | some c => guard_ (Nat.ble h c) t
  | none => iff_ (Nat.ble h n) t (rowK (σ.get r) fun l => lenN l fun m => guard_ (Nat.ble (Nat.add o (Nat.mul h z)) m) t)
def isZ (c : Option Nat) : Bool := match c with | some 0 => true | _ => false
def slC (c : Option Nat) (h o : Nat) (mx : Bool) (k : Option Nat → Bool) : Bool := iff_ mx (forceN (Nat.sub h o) fun n => k (some n)) (match c with | some c => forceN (Nat.sub c o) fun n => k (some n) | none => k none)

/-- a slice of a slice -/
def slSl : AV → Option AV → Option AV → Option AV → Nat → Heap → K1 → Bool :=
  AV.rec (motive_1 := fun _ => Option AV → Option AV → Option AV → Nat → Heap → K1 → Bool) (motive_2 := fun _ => Unit) (fun _ _ _ _ _ _ => false) (fun _ => fun _ _ _ _ _ _ => false) (fun _ _ => fun _ _ _ _ _ _ => false) (fun _ _ _ => fun _ _ _ _ _ _ => false) (fun _ _ => fun _ _ _ _ _ _ => false) (fun _ => fun _ _ _ _ _ _ => false) (fun _ _ _ _ _ _ => false) (fun _ _ => fun _ _ _ _ _ _ => false) (fun lo hi mx _ _ k => bnd mx 0 fun m => guard_ (Nat.beq m 0) (bnd hi 0 fun h => guard_ (Nat.beq h 0) (bnd lo 0 fun o => guard_ (Nat.beq o 0) (k .nils)))) (fun r o n c z => fun lo hi mx size σ k => guard_ (Nat.beq z size) (match mx with
   | none => bnd hi n fun h => capGe r o n c z h σ (bnd lo 0 fun a => guard_ (Nat.ble a h) (forceN (Nat.sub h a) fun n' => slC c h a false fun c' => iff_ (isZ c') (k (.sl r o n' c' z)) (forceN (Nat.add o (Nat.mul a z)) fun o' => k (.sl r o' n' c' z))))
   | some m => asI m fun _ m => natK m fun m => capGe r o n c z m σ (bnd hi n fun h => guard_ (Nat.ble h m) (bnd lo 0 fun a => guard_ (Nat.ble a h) (forceN (Nat.sub h a) fun n' => forceN (Nat.sub m a) fun c' => iff_ (Nat.beq c' 0) (k (.sl r o n' (some 0) z)) (forceN (Nat.add o (Nat.mul a z)) fun o' => k (.sl r o' n' (some c') z))))))) (fun _ _ => fun _ _ _ _ _ _ => false) (fun _ _ => fun _ _ _ _ _ _ => false) (fun _ _ _ => fun _ _ _ _ _ _ => false) (fun _ _ _ _ _ _ => false) (fun _ _ => fun _ _ _ _ _ _ => false) (fun _ _ => fun _ _ _ _ _ _ => false) () (fun _ _ _ _ => ())

def slArr (n z : Nat) (x : AV) (lo hi : Option AV) (σ : Heap) (k : K1) : Bool :=
  asP x fun r o => rowK (σ.get r) fun l => lenN l fun L => guard_ (Nat.ble (Nat.add o (Nat.mul n z)) L) (bnd hi n fun h => guard_ (Nat.ble h n) (bnd lo 0 fun a => guard_ (Nat.ble a h)
    (forceN (Nat.sub h a) fun n' => forceN (Nat.sub n a) fun c' => iff_ (Nat.beq c' 0) (k (.sl r o n' (some 0) z)) (forceN (Nat.add o (Nat.mul a z)) fun o' => k (.sl r o' n' (some c') z)))))

def argsK (xs : List Operand) (fr : Fm) (k : List AV → Bool) : Bool :=
  List.rec (motive := fun _ => Fm → (List AV → Bool) → Bool) (fun _ k => k []) (fun x _ ih fr k => forceV (oval x fr) fun v => ih fr fun t => k (v :: t)) xs fr k
def fillK (ps : List (Nat × Nat × Operand)) (fr : Fm) (l : List AV) (k : List AV → Bool) : Bool :=
  List.rec (motive := fun _ => Fm → List AV → (List AV → Bool) → Bool) (fun _ l k => k l)
    (fun p _ ih fr l k => cellsV (oval p.2.2 fr) fun vs => lenIs vs p.2.1 (wrAt p.1 vs l fun l => ih fr l k)) ps fr l k
def repK (n : Nat) (z : List AV) (k : List AV → Bool) : Bool :=
  Nat.rec (motive := fun _ => (List AV → Bool) → Bool) (fun k => k []) (fun _ ih k => ih fun t => appL z t k) n k
def plcs (pl : Nat → Option (Nat × Nat)) : List (Nat × Operand) → Option (List (Nat × Nat × Operand))
  | [] => some []
  | (i, x) :: ps => match pl i, plcs pl ps with
    | some (o, n), some r => some ((o, n, x) :: r)
    | _, _ => none
def cBuild (P : Program) (t : Nat) (ps : Array (Nat × Operand)) : Option (List (Nat × Nat × Operand) × List AV) :=
  match P.underlying t, zeroOf P t with
  | some (.struct fs), some z => match fs.toList.mapM (fun f => (P.info? f.type).map fun i => (f.offset, i.size)) with
    | some places => match plcs (places.toArray[·]?) ps.toList with
      | some l => some (l, z)
      | none => none
    | none => none
  | some (.array _ e), some z => match P.info? e with
    | some i => match plcs (fun j => some (j * i.size, i.size)) ps.toList with
      | some l => some (l, z)
      | none => none
    | none => none
  | _, _ => none
/-- A slice's elements: how many cells, how many bytes, noughts. -/
def cSlice (P : Program) (t : Nat) : Option (Nat × Nat × List AV) :=
  match P.underlying t with
  | some (.slice e) => match P.info? e, zeroOf P e with
    | some i, some z => match Nat.beq z.length i.size with
      | true => match Nat.ble 1 i.size with
        | true => some (i.size, i.bytes, z)
        | false => none
      | false => none
    | _, _ => none
  | _ => none
def u8s (l : List Nat) (k : List AV → Bool) : Bool := List.rec (motive := fun _ => (List AV → Bool) → Bool) (fun k => k []) (fun x _ ih k => ih fun t => k (.i .u8 (.ofNat x) :: t)) l k
def byts (l : List AV) (k : List Nat → Bool) : Bool := List.rec (motive := fun _ => (List Nat → Bool) → Bool) (fun k => k []) (fun x _ ih k => asI x fun q n => guard_ (Nat.beq (kc q) 4) (natK n fun n => guard_ (Nat.ble n 255) (ih fun t => k (n :: t)))) l k

/-- what is appended, or copied -/
def srcV : AV → Nat → Heap → (Nat → List AV → Bool) → Bool :=
  AV.rec (motive_1 := fun _ => Nat → Heap → (Nat → List AV → Bool) → Bool) (motive_2 := fun _ => Unit) (fun _ _ _ => false) (fun _ => fun _ _ _ => false) (fun _ _ => fun _ _ _ => false) (fun _ _ _ => fun _ _ _ => false) (fun _ _ => fun _ _ _ => false) (fun l => fun z' _ k => guard_ (Nat.beq z' 1) (lenN l fun n => u8s l fun l => k n l)) (fun _ _ _ => false) (fun _ _ => fun _ _ _ => false) (fun _ _ k => k 0 []) (fun r o n _ z => fun z' σ k => guard_ (Nat.beq z z') (rowK (σ.get r) fun l => dropL o l fun l => takeL (Nat.mul n z) l fun l => k n l)) (fun _ _ => fun _ _ _ => false) (fun _ _ => fun _ _ _ => false) (fun _ _ _ => fun _ _ _ => false) (fun _ _ _ => false) (fun _ _ => fun _ _ _ => false) (fun _ _ => fun _ _ _ => false) () (fun _ _ _ _ => ())

def appNew (need bytes : Nat) (z : Nat) (l : List AV) (σ : Heap) (k : K2) : Bool :=
  guard_ (Nat.ble (Nat.mul need bytes) 140737488355328) (guard_ (Nat.ble need 140737488355328) (σ.new (.gr l) fun r σ => k (.sl r 0 need none z) σ))
def appOld (r : Id) (o m z : Nat) (news : List AV) (σ : Heap) (k : List AV → Bool) : Bool :=
  rowK (σ.get r) fun l => dropL o l fun l => takeL (Nat.mul m z) l fun l => appL l news k

/-- append to a slice: elements of z cells and so many bytes; m elements news -/
def appV : AV → Nat → Nat → Nat → List AV → Heap → K2 → Bool :=
  AV.rec (motive_1 := fun _ => Nat → Nat → Nat → List AV → Heap → K2 → Bool) (motive_2 := fun _ => Unit) (fun _ _ _ _ _ _ => false) (fun _ => fun _ _ _ _ _ _ => false) (fun _ _ => fun _ _ _ _ _ _ => false) (fun _ _ _ => fun _ _ _ _ _ _ => false) (fun _ _ => fun _ _ _ _ _ _ => false) (fun _ => fun _ _ _ _ _ _ => false) (fun _ _ _ _ _ _ => false) (fun _ _ => fun _ _ _ _ _ _ => false) (fun z bytes n news σ k => iff_ (Nat.beq n 0) (k .nils σ) (appNew n bytes z news σ k)) (fun r o n c z => fun z' bytes m news σ k => guard_ (Nat.beq z z') (iff_ (Nat.beq m 0) (k (.sl r o n c z) σ) (forceN (Nat.add n m) fun need => match c with | some c => iff_ (Nat.ble need c) (σ.mod r (rowGo fun l k => wrAt (Nat.add o (Nat.mul n z)) news l k) fun σ => k (.sl r o need (some c) z) σ) (appOld r o n z news σ fun l => appNew need bytes z l σ k) | none => rowK (σ.get r) fun l => lenN l fun L => iff_ (Nat.ble (Nat.add o (Nat.mul need z)) L) (σ.mod r (rowGo fun l k => wrAt (Nat.add o (Nat.mul n z)) news l k) fun σ => k (.sl r o need none z) σ) (appOld r o n z news σ fun l => σ.mod r (fun _ k => k .dead) fun σ => appNew need bytes z l σ k)))) (fun _ _ => fun _ _ _ _ _ _ => false) (fun _ _ => fun _ _ _ _ _ _ => false) (fun _ _ _ => fun _ _ _ _ _ _ => false) (fun _ _ _ _ _ _ => false) (fun _ _ => fun _ _ _ _ _ _ => false) (fun _ _ => fun _ _ _ _ _ _ => false) () (fun _ _ _ _ => ())

def appK (z bytes : Nat) (s x : AV) (σ : Heap) (k : K2) : Bool := srcV x z σ fun n news => appV s z bytes n news σ k

/-- copy to a slice -/
def copV : AV → Nat → Nat → List AV → Heap → K2 → Bool :=
  AV.rec (motive_1 := fun _ => Nat → Nat → List AV → Heap → K2 → Bool) (motive_2 := fun _ => Unit) (fun _ _ _ _ _ => false) (fun _ => fun _ _ _ _ _ => false) (fun _ _ => fun _ _ _ _ _ => false) (fun _ _ _ => fun _ _ _ _ _ => false) (fun _ _ => fun _ _ _ _ _ => false) (fun _ => fun _ _ _ _ _ => false) (fun _ _ _ _ _ => false) (fun _ _ => fun _ _ _ _ _ => false) (fun _ _ _ σ k => k (.i .i64 (.ofNat 0)) σ) (fun r o n _ z => fun z' m src σ k => guard_ (Nat.beq z z') (iff_ (Nat.ble m n) (σ.mod r (rowGo fun l k => wrAt o src l k) fun σ => k (.i .i64 (.ofNat m)) σ) (takeL (Nat.mul n z) src fun src => σ.mod r (rowGo fun l k => wrAt o src l k) fun σ => k (.i .i64 (.ofNat n)) σ))) (fun _ _ => fun _ _ _ _ _ => false) (fun _ _ => fun _ _ _ _ _ => false) (fun _ _ _ => fun _ _ _ _ _ => false) (fun _ _ _ _ _ => false) (fun _ _ => fun _ _ _ _ _ => false) (fun _ _ => fun _ _ _ _ _ => false) () (fun _ _ _ _ => ())

def copK (z : Nat) (d x : AV) (σ : Heap) (k : K2) : Bool := srcV x z σ fun n src => copV d z n src σ k

/-- clear a slice -/
def clrV : AV → Nat → List AV → Heap → K2 → Bool :=
  AV.rec (motive_1 := fun _ => Nat → List AV → Heap → K2 → Bool) (motive_2 := fun _ => Unit) (fun _ _ _ _ => false) (fun _ => fun _ _ _ _ => false) (fun _ _ => fun _ _ _ _ => false) (fun _ _ _ => fun _ _ _ _ => false) (fun _ _ => fun _ _ _ _ => false) (fun _ => fun _ _ _ _ => false) (fun _ _ _ _ => false) (fun _ _ => fun _ _ _ _ => false) (fun _ _ σ k => k (.tu []) σ) (fun r o n _ z => fun z' zs σ k => guard_ (Nat.beq z z') (repK n zs fun vs => σ.mod r (rowGo fun l k => wrAt o vs l k) fun σ => k (.tu []) σ)) (fun _ _ => fun _ _ _ _ => false) (fun _ _ => fun _ _ _ _ => false) (fun _ _ _ => fun _ _ _ _ => false) (fun _ _ _ _ => false) (fun _ _ => fun _ _ _ _ => false) (fun _ _ => fun _ _ _ _ => false) () (fun _ _ _ _ => ())
/-- len -/
def lnV : AV → K1 → Bool :=
  AV.rec (motive_1 := fun _ => K1 → Bool) (motive_2 := fun _ => Unit) (fun _ => false) (fun _ => fun _ => false) (fun _ _ => fun _ => false) (fun _ _ _ => fun _ => false) (fun _ _ => fun _ => false) (fun _ => fun _ => false) (fun _ => false) (fun _ _ => fun _ => false) (fun k => k (.i .i64 (.ofNat 0))) (fun _ _ n _ _ => fun k => k (.i .i64 (.ofNat n))) (fun _ _ => fun _ => false) (fun _ _ => fun _ => false) (fun _ _ _ => fun _ => false) (fun _ => false) (fun _ _ => fun _ => false) (fun j lb => fun k => Nat.rec (motive := fun _ => Bool) (k (.i .i64 (.ofNat lb))) (fun _ _ => k (.nat j lb)) j) () (fun _ _ _ _ => ())
def notS : AV → Bool → Bool :=
  AV.rec (motive_1 := fun _ => Bool → Bool) (motive_2 := fun _ => Unit) (fun t => t) (fun _ => fun t => t) (fun _ _ => fun t => t) (fun _ _ _ => fun t => t) (fun _ _ => fun t => t) (fun _ => fun _ => false) (fun t => t) (fun _ _ => fun t => t) (fun t => t) (fun _ _ _ _ _ => fun t => t) (fun _ _ => fun t => t) (fun _ _ => fun t => t) (fun _ _ _ => fun t => t) (fun t => t) (fun _ _ => fun t => t) (fun _ _ => fun t => t) () (fun _ _ _ _ => ())
/-- cap -/
def capV : AV → K1 → Bool :=
  AV.rec (motive_1 := fun _ => K1 → Bool) (motive_2 := fun _ => Unit) (fun _ => false) (fun _ => fun _ => false) (fun _ _ => fun _ => false) (fun _ _ _ => fun _ => false) (fun _ _ => fun _ => false) (fun _ => fun _ => false) (fun _ => false) (fun _ _ => fun _ => false) (fun k => k (.i .i64 (.ofNat 0))) (fun _ _ _ c _ => fun k => match c with | some c => k (.i .i64 (.ofNat c)) | none => false) (fun _ _ => fun _ => false) (fun _ _ => fun _ => false) (fun _ _ _ => fun _ => false) (fun _ => false) (fun _ _ => fun _ => false) (fun _ _ => fun _ => false) () (fun _ _ _ _ => ())

def mmK (mx : Bool) (x y : AV) (k : K1) : Bool := asI x fun q m => asI y fun q' n => guard_ (Nat.beq (kc q) (kc q')) (iff_ mx (ltF m n fun t => iff_ t (k (.i q n)) (k (.i q m))) (ltF n m fun t => iff_ t (k (.i q n)) (k (.i q m))))
def toI (q : IntKind) (x : AV) (k : K1) : Bool := asI x fun _ n => Int.rec (motive := fun _ => Bool) (fun m => wrN q m fun n => k (.i q n)) (fun m => forceI (q.wrap (.negSucc m)) fun n => k (.i q n)) n
def b2s (x : AV) (σ : Heap) (k : K1) : Bool := notS x (srcV x 1 σ fun _ l => byts l fun l => k (.s l))
def s2b (x : AV) (σ : Heap) (k : K2) : Bool := asS x fun l => lenN l fun n => guard_ (Nat.ble n 140737488355328) (u8s l fun l => σ.new (.gr l) fun r σ => k (.sl r 0 n none 1) σ)
inductive CO where
  | ld (f : Fm → Heap → K1 → Bool)
  | al (f : Fm → Heap → K2 → Bool)
  | hv (f : CallF → Fm → Heap → K2 → Bool)
  | no
def isU8 (P : Program) (t : Nat) : Bool := match P.underlying t with | some (.slice e) => (match P.underlying e with | some (.int .u8) => true | _ => false) | _ => false
def cConv (P : Program) (s d : Nat) (x : Operand) : CO :=
  match P.underlying s, P.underlying d with
  | some (.int _), some (.int q) => .ld fun fr _ k => toI q (oval x fr) k
  | some .string, some .string => .ld fun fr _ k => asS (oval x fr) fun l => k (.s l)
  | some (.slice _), some .string => match isU8 P s with
    | true => .ld fun fr σ k => b2s (oval x fr) σ k
    | false => .no
  | some .string, some (.slice _) => match isU8 P d with
    | true => .al fun fr σ k => s2b (oval x fr) σ k
    | false => .no
  | _, _ => .no
def cBuiltin (P : Program) (b : Builtin) (ts : List Nat) (xs : List Operand) : CO :=
  match b, ts, xs with
  | .len, [t], [x] => match tk P t with
    | 3 => .ld fun fr _ k => lnV (oval x fr) k
    | 5 => .ld fun fr _ k => asS (oval x fr) fun l => lenN l fun n => k (.i .i64 (.ofNat n))
    | _ => .no
  | .cap, [t], [x] => match tk P t with
    | 3 => .ld fun fr _ k => capV (oval x fr) k
    | _ => .no
  | .min, [_, _], [x, y] => .ld fun fr _ k => mmK false (oval x fr) (oval y fr) k
  | .max, [_, _], [x, y] => .ld fun fr _ k => mmK true (oval x fr) (oval y fr) k
  | .append, [t, u], [x, y] => match cSlice P t with
    | some (z, bytes, _) => match tk P u with
      | 3 => .hv fun _ fr σ k => appK z bytes (oval x fr) (oval y fr) σ k
      | 5 => .hv fun _ fr σ k => appK z bytes (oval x fr) (oval y fr) σ k
      | _ => .no
    | none => .no
  | .copy, [t, _], [x, y] => match cSlice P t with
    | some (z, _, _) => .hv fun _ fr σ k => copK z (oval x fr) (oval y fr) σ k
    | none => .no
  | .clear, [t], [x] => match cSlice P t with
    | some (z, _, zs) => .hv fun _ fr σ k => clrV (oval x fr) z zs σ k
    | none => .no
  | _, _, _ => .no
def cCall (P : Program) (c : Call) : CO :=
  match c.callee with
  | .value (.func f) => .hv fun call fr σ k => argsK c.args.toList fr fun vs => call f vs σ k
  | .value x => .hv fun call fr σ k => asFn (oval x fr) fun f caps => argsK c.args.toList fr fun vs => appL vs caps fun vs => call f vs σ k
  | .builtin b => cBuiltin P b c.argTypes.toList c.args.toList
  | _ => .no
def cSliceOp (P : Program) (t : Nat) (x : Operand) (lo hi mx : Option Operand) : CO :=
  match P.underlying t with
  | some .string => match mx with
    | none => .ld fun fr _ k => slStr (oval x fr) (lo.map (oval · fr)) (hi.map (oval · fr)) k
    | some _ => .no
  | some (.slice e) => match P.info? e with
    | some i => match Bool.and (Nat.ble 1 i.size) (Bool.or mx.isNone hi.isSome) with
      | false => .no
      | true => .ld fun fr σ k => slSl (oval x fr) (lo.map (oval · fr)) (hi.map (oval · fr)) (mx.map (oval · fr)) i.size σ k
    | none => .no
  | some (.array n e) => match P.info? e, mx with
    | some i, none => .ld fun fr σ k => slArr n i.size (oval x fr) (lo.map (oval · fr)) (hi.map (oval · fr)) σ k
    | _, _ => .no
  | _ => .no
/-- Structs of flags, numbers and texts alone: where each field lies, of which kind. -/
def eqTys (P : Program) : List Field → Option (List (Nat × Nat))
  | [] => some []
  | f :: fs => match decide (f.name = "_"), tk P f.type, eqTys P fs with
    | false, 1, some l => some ((f.offset, 1) :: l)
    | false, 5, some l => some ((f.offset, 5) :: l)
    | false, 6, some l => some ((f.offset, 6) :: l)
    | _, _, _ => none
def cEq (P : Program) (t : Nat) : Option (List (Nat × Nat)) :=
  match P.underlying t with
  | some (.struct fs) => match P.stoodInHeld t, P.eqGuardType P.depth t with
    | false, false => eqTys P fs.toList
    | _, _ => none
  | _ => none
/-- The next byte of a text: below 128 alone. -/
def nextK (r : Id) (σ : Heap) (k : K2) : Bool :=
  Row.rec (motive := fun _ => Bool) false (fun _ => false) (fun _ => false) (fun l p => lenN l fun n => iff_ (Nat.ble (Nat.succ p) n)
    (getN l p fun b => guard_ (Nat.ble b 127) (forceN (Nat.succ p) fun p' => σ.mod r (fun _ k => k (.it l p')) fun σ => k (.tu [.b true, .i .i64 (.ofNat p), .i .i32 (.ofNat b)]) σ)) (k (.tu [.b false]) σ)) (σ.get r)
def eq1 (q : Nat) (x y : AV) (k : Bool → Bool) : Bool :=
  match q with
  | 1 => asB x fun a => asB y fun b => k (eqvB a b)
  | 5 => asS x fun a => asS y fun b => k (eqN a b)
  | 6 => asI x fun q a => asI y fun q' b => sameK q q' (eqF a b k)
  | _ => false
def eqFl (l : List (Nat × Nat)) (xs ys : List AV) (k : Bool → Bool) : Bool :=
  List.rec (motive := fun _ => List AV → List AV → (Bool → Bool) → Bool) (fun _ _ k => k true) (fun p _ ih xs ys k => getL xs p.1 fun x => getL ys p.1 fun y => eq1 p.2 x y fun b => iff_ b (ih xs ys k) (k false)) l xs ys k
def comp (P : Program) (o : Oper) : CO :=
  match o.op with
  | .move x => .ld fun fr _ k => forceV (oval x fr) k
  | .assign x => .ld fun fr _ k => forceV (oval x fr) k
  | .pick c x y => .ld fun fr _ k => asB (oval c fr) fun b => pickK (oval x fr) (oval y fr) b fun v => forceV v k
  | .alloc t => match zeroOf P t with
    | some z => .al fun _ σ k => appL z [] fun z => σ.new (.ex z) fun r σ => k (.p r 0) σ
    | none => .no
  | .box _ x => .al fun fr σ k => cellsV (oval x fr) fun vs => σ.new (.ex vs) fun r σ => k (.p r 0) σ
  | .build t ps => match cBuild P t ps with
    | some (l, z) => .ld fun fr _ k => fillK l fr z fun l => k (.ag l)
    | none => .no
  | .buildSlice t n ps => match cSlice P t with
    | some (sz, _, z) => match plcs (fun j => some (j * sz, sz)) ps.toList, Nat.ble (n * sz) 16777216 with
      | some l, true => .al fun fr σ k => repK n z fun c => fillK l fr c fun c => σ.new (.ex c) fun r σ => k (.sl r 0 n (some n) sz) σ
      | _, _ => .no
    | none => .no
  | .load t x => match cLoad P t x with
    | some f => .ld f
    | none => .no
  | .store t x y => match lay P t with
    | some (_, n) => .hv fun _ fr σ k => stK n (oval x fr) (oval y fr) σ k
    | none => .no
  | .nilCheck x => .ld fun fr _ k => nilCk (oval x fr) k
  | .binOp op t x y _ => match cEq P t with
    | none => .ld fun fr _ k => binV (oval x fr) op (tk P t) (oval y fr) k
    | some l => .ld fun fr _ k => asAg (oval x fr) fun xs => asAg (oval y fr) fun ys => eqFl l xs ys fun b => eqOp op b k
  | .unOp op _ x => .ld fun fr _ k => unK op (oval x fr) k
  | .convert s d x => cConv P s d x
  | .makeFunc g first cs => match g, first.toList with
    | .func f, [] => .ld fun fr _ k => argsK cs.toList fr fun vs => k (.fn f vs)
    | _, _ => .no
  | .makeSlice t n c => match cSlice P t with
    | some (sz, bytes, z) => .al fun fr σ k => asI (oval n fr) fun _ n => natK n fun n => asI (oval c fr) fun _ c => natK c fun c => guard_ (Nat.ble n c) (guard_ (Nat.ble (Nat.mul bytes c) 140737488355328) (guard_ (Nat.ble c 140737488355328) (repK c z fun l => σ.new (.ex l) fun r σ => k (.sl r 0 n (some c) sz) σ)))
    | none => .no
  | .slice t x lo hi mx => cSliceOp P t x lo hi mx
  | .fieldAddr s x f => match cFieldAddr P s f with
    | some off => .ld fun fr _ k => addrK off (oval x fr) k
    | none => .no
  | .field s x f => match cField P s f with
    | some (off, b, n) => .ld fun fr _ k => asAg (oval x fr) fun l => partK off b n l k
    | none => .no
  | .indexAddr t x i => match cElem P t with
    | some (false, z, _) => .ld fun fr _ k => ixSl z (oval x fr) (oval i fr) k
    | some (true, z, n) => .ld fun fr _ k => ixAr z n (oval x fr) (oval i fr) k
    | none => .no
  | .index t x i => match tk P t with
    | 5 => .ld fun fr _ k => ixStr (oval x fr) (oval i fr) k
    | _ => .no
  | .extract x n => .ld fun fr _ k => exK n (oval x fr) k
  | .call c => cCall P c
  | .range t x => match P.underlying t with
    | some .string => .al fun fr σ k => asS (oval x fr) fun l => σ.new (.it l 0) fun r σ => k (.p r 0) σ
    | _ => .no
  | .next x b => match b with
    | true => .hv fun _ fr σ k => asP (oval x fr) fun r o => guard_ (Nat.beq o 0) (nextK r σ k)
    | false => .no
  | _ => .no
end
end Go.Rk
